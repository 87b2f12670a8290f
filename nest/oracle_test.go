package nest_test

import (
	"slices"

	"troupe/api"
	"troupe/ins"
)

// told is all that the chapter tells of a list of instructions.
type told struct {
	err         api.Errno
	ends, elses []int
	deep, size  int
}

// finder goes through a list block by block, each block by a call of its own; what is wrong ends all of it.
type finder struct {
	list []api.Ins
	at   int
	told
}

type wrong struct{ err api.Errno }

// tell reckons what the chapter tells of a list, by hand.
func tell(list []api.Ins) (t told) {
	defer func() {
		if w, is := recover().(wrong); is {
			t = told{err: w.err}
		}
	}()
	if len(list) > 200 {
		panic(wrong{api.ErrLarge})
	}
	f := finder{list: list}
	for range list {
		f.ends = append(f.ends, -1)
		f.elses = append(f.elses, -1)
	}
	f.block(-1, 0)
	for f.at < len(list) {
		f.take()
		panic(wrong{api.ErrForm})
	}
	return f.told
}

func (f *finder) take() api.Ins {
	if f.at == len(f.list) {
		panic(wrong{api.ErrShort})
	}
	x := f.list[f.at]
	if err := ins.Check(x); err != api.OK {
		panic(wrong{err})
	}
	f.at++
	return x
}

// block goes through what was opened at the place from, which is within so many others; the body itself is at -1.
func (f *finder) block(from, around int) {
	f.deep = max(f.deep, around)
	turn := -1
	for {
		x := f.take()
		place := f.at - 1
		switch x.Op {
		case 2, 3, 4:
			if around == 12 {
				panic(wrong{api.ErrDeep})
			}
			f.size++
			f.block(place, around+1)
		case 5:
			if from < 0 || f.list[from].Op != 4 || turn >= 0 {
				panic(wrong{api.ErrForm})
			}
			turn = place
			f.elses[from], f.elses[place] = place, from
		case 11:
			f.ends[place] = from
			if from >= 0 {
				f.ends[from] = place
			}
			if turn >= 0 {
				f.ends[turn] = place
			}
			return
		}
	}
}

func sameIns(x, y api.Ins) bool {
	return x.Op == y.Op && x.A == y.A && x.B == y.B && slices.Equal(x.To, y.To)
}

func sameList(a, b []api.Ins) bool {
	return slices.EqualFunc(a, b, sameIns)
}

// list makes a body of bytes, each an instruction with nothing beside it; blocks have the kind 64.
func list(ops ...byte) []api.Ins {
	var out []api.Ins
	for _, op := range ops {
		x := api.Ins{Op: op}
		if op >= 2 && op <= 4 {
			x.A = 64
		}
		out = append(out, x)
	}
	return out
}

// times is so many of one instruction.
func times(n int, op byte) []api.Ins {
	return list(slices.Repeat([]byte{op}, n)...)
}

func join(lists ...[]api.Ins) []api.Ins {
	return slices.Concat(lists...)
}

// dice answers numbers that are always the same ones, one behind the other.
type dice uint64

func (d *dice) below(n int) int {
	x := uint64(*d)
	x ^= x << 13
	x ^= x >> 7
	x ^= x << 17
	*d = dice(x)
	return int((x >> 20) % uint64(n))
}

// anyIns is an instruction that isn't about blocks, with something beside it.
func (d *dice) anyIns() api.Ins {
	switch d.below(5) {
	case 0:
		return api.Ins{Op: 65, A: int64(d.below(1<<32)) - 1<<31}
	case 1:
		return api.Ins{Op: 40, A: int64(d.below(4)), B: int64(d.below(1 << 32))}
	case 2:
		x := api.Ins{Op: 14, A: int64(d.below(300))}
		for range d.below(17) {
			x.To = append(x.To, int64(d.below(300)))
		}
		return x
	case 3:
		return api.Ins{Op: 17, A: int64(d.below(300))}
	}
	return api.Ins{Op: 106}
}

// body is one that is right, if it isn't too long or too deep: it opens a block as often as it closes one.
func (d *dice) body(least int) []api.Ins {
	var out []api.Ins
	var open []byte // an if that has its else already is a 5
	for len(out) < least || len(open) > 0 {
		last := len(open) - 1
		ends := len(out) >= least
		switch way := d.below(6); {
		case last >= 0 && open[last] == 4 && way == 0:
			out = append(out, api.Ins{Op: 5})
			open[last] = 5
		case last >= 0 && (ends || way < 3):
			out = append(out, api.Ins{Op: 11})
			open = open[:last]
		case way < 5 && len(open) < 12:
			op := byte(2 + d.below(3))
			out = append(out, api.Ins{Op: op, A: []int64{64, 126, 127}[d.below(3)]})
			open = append(open, op)
		default:
			out = append(out, d.anyIns())
		}
	}
	return append(out, api.Ins{Op: 11})
}

// steps are so many instructions, right as a body or not: blocks, elses and ends, and among them so many nops for each ten of those.
func (d *dice) steps(n, nops int) []api.Ins {
	var out []api.Ins
	for range n {
		op := byte(1)
		if way := d.below(10 + nops); way < 10 {
			op = []byte{5, 11, 11, 11, 2, 3, 4, 4, 4, 4}[way]
		}
		out = append(out, list(op)...)
	}
	return out
}

// spoil changes one or two places of a list into something else.
func (d *dice) spoil(l []api.Ins) []api.Ins {
	out := slices.Clone(l)
	for range 1 + d.below(2) {
		at := d.below(len(out))
		switch d.below(6) {
		case 0:
			out = slices.Delete(out, at, at+1)
		case 1:
			out = slices.Insert(out, at, list(5)...)
		case 2:
			out = slices.Insert(out, at, list(11)...)
		case 3:
			out = slices.Insert(out, at, list(4)...)
		case 4:
			out[at].A = -1
		case 5:
			out[at].Op = 6
		}
		if len(out) == 0 {
			break
		}
	}
	return out
}
