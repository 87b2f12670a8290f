package valid_test

import (
	"slices"
	"strconv"
	"testing"

	"troupe/api"
	"troupe/valid"
)

func sameShape(x, y api.Shape) bool {
	return x.Dead == y.Dead && slices.Equal(x.Stack, y.Stack)
}

// reckoned holds Func and Shapes against the second reckoning, and answers what that says.
func reckoned(t *testing.T, m api.Module, at int) (int, []api.Shape, api.Errno) {
	t.Helper()
	place, shapes, want := reckon(m, at)
	if got, err := valid.Func(m, at); got != place || err != want {
		t.Fatalf("%v: Func is %d, %d, not %d, %d", m.Funcs[at], got, err, place, want)
	}
	got, err := valid.Shapes(m, at)
	if err != want || !slices.EqualFunc(got, shapes, sameShape) {
		t.Fatalf("%v: Shapes is %s, %d, not %s, %d", m.Funcs[at], told(got), err, told(shapes), want)
	}
	return place, shapes, want
}

// stacks are bodies that lay up to most values onto the stack, in every way.
func stacks(most int) []string {
	all := []string{""}
	for from := 0; most > 0; most-- {
		size := len(all)
		for _, text := range all[from:size] {
			all = append(all, text+"int, ", text+"long, ")
		}
		from = size
	}
	return all
}

// singles are all instructions that neither open nor close a block, with some numbers beside them.
func singles() []string {
	all := []string{"unreachable", "nop", "return", "drop", "select", "br_table 0", "br_table 1 0", "br_table 0 1", "br_table 1 1 1", "br_table 2 1"}
	for op := range 256 {
		if _, _, width, ok := plain(byte(op)); width > 0 {
			all = append(all, strconv.Itoa(op)+" 0", strconv.Itoa(op)+" 2", strconv.Itoa(op)+" 4")
		} else if ok {
			all = append(all, strconv.Itoa(op))
		}
	}
	for n := range 7 {
		for _, name := range []string{"br", "br_if", "call", "indirect", "get", "set", "tee", "gget", "gset"} {
			all = append(all, name+" "+strconv.Itoa(n))
		}
	}
	return all
}

// P19, P20: every instruction on every small stack, also on a dead part, with or without a value of whatever kind below.
func TestEveryInstruction(t *testing.T) {
	var prefixes []string
	for _, ahead := range []string{"", "unreachable, ", "unreachable, select, "} {
		for _, stack := range stacks(3) {
			prefixes = append(prefixes, ahead+stack)
		}
	}
	prefixes = append(prefixes, "long, int, int, long, ", "long, int, int, long, int, ", "int, long, int, int, long, int, ")
	suffixes := []string{"unreachable", "nop", "drop", "106", "124", "select"}
	for _, outer := range []string{"block i32, ", "int, loop i64, "} {
		for _, prefix := range prefixes {
			for _, single := range singles() {
				for _, suffix := range suffixes {
					m := with(typeInt, kinds(i64, i32), outer+prefix+single+", "+suffix+", end")
					reckoned(t, m, 0)
				}
			}
		}
	}
}

// P19, P20: all short bodies of some instructions.
func TestShortBodies(t *testing.T) {
	alphabet := []string{"int", "long", "drop", "select", "unreachable", "106", "124", "167", "block i32", "block", "loop i64", "if i32", "if", "else", "end", "br 0", "br 1", "br_if 0", "br_table 0 1", "return", "tee 0"}
	sound := 0
	m := with(0, kinds(i64), "")
	var grow func(list []api.Ins, left int)
	grow = func(list []api.Ins, left int) {
		m.Funcs[0].Body = append(slices.Clone(list), api.Ins{Op: api.OpEnd})
		for _, number := range []int{typeNothing, typeInt, typeLong} {
			m.Funcs[0].Type = number
			if valid.Head(m) != api.OK {
				continue
			}
			if _, _, err := reckoned(t, m, 0); err == api.OK {
				sound++
			}
		}
		if left == 0 {
			return
		}
		for _, word := range alphabet {
			grow(append(list, one(word)), left-1)
		}
	}
	grow(nil, 4)
	if sound < 1000 {
		t.Errorf("only %d sound bodies", sound)
	}
}

// single makes an instruction that neither opens nor closes a block; most are of things that are there.
func (d *dice) single() api.Ins {
	switch d.below(20) {
	case 0:
		return one(pick(d, "unreachable", "return"))
	case 1, 2, 3:
		return one(pick(d, "int", "long"))
	case 4, 5:
		return one(pick(d, "drop", "drop", "select"))
	case 6:
		return one(pick(d, "br ", "br_if ", "br_if ") + strconv.Itoa(d.below(4)))
	case 7:
		x := api.Ins{Op: api.OpBrTable, A: int64(d.below(4))}
		for range d.below(4) {
			x.To = append(x.To, int64(d.below(4)))
		}
		return x
	case 8, 9:
		return one(pick(d, "call ", "indirect ") + strconv.Itoa(d.below(7)))
	case 10, 11, 12:
		return one(pick(d, "get ", "set ", "tee ") + strconv.Itoa(d.below(6)))
	case 13:
		return one(pick(d, "gget ", "gset ") + strconv.Itoa(d.below(5)))
	case 14, 15:
		return d.place()
	}
	for {
		op := byte(d.below(256))
		if _, _, width, ok := plain(op); ok && width == 0 {
			return api.Ins{Op: op}
		}
	}
}

// place makes a load or a store.
func (d *dice) place() api.Ins {
	for {
		op := byte(40 + d.below(23))
		if _, _, width, _ := plain(op); width > 0 {
			return api.Ins{Op: op, A: int64(d.below(4)), B: int64(d.below(300))}
		}
	}
}

// inner makes what stands within a block.
func (d *dice) inner(deep, size int) []api.Ins {
	var list []api.Ins
	for range d.below(size + 1) {
		if deep > 0 && d.below(4) == 0 {
			list = append(list, d.block(deep, size)...)
		} else {
			list = append(list, d.single())
		}
	}
	return list
}

func (d *dice) block(deep, size int) []api.Ins {
	head := api.Ins{Op: pick(d, api.OpBlock, api.OpLoop, api.OpIf), A: pick[int64](d, 64, 126, 127)}
	list := append([]api.Ins{head}, d.inner(deep-1, size/2)...)
	if head.Op == api.OpIf && d.below(3) > 0 {
		list = append(append(list, one("else")), d.inner(deep-1, size/2)...)
	}
	return append(list, one("end"))
}

// module makes one whose Head is OK, with one function to be looked at.
func (d *dice) module() api.Module {
	m := with(d.below(6), nil, "")
	for range d.below(4) {
		m.Funcs[0].Locals = append(m.Funcs[0].Locals, pick(d, i32, i64))
	}
	m.Funcs[0].Body = append(d.inner(3, 14), one("end"))
	if d.below(5) == 0 {
		m.Table, m.Elems = 0, nil
	}
	if d.below(5) == 0 {
		m.Pages, m.Most, m.Data = 0, 0, nil
	}
	return m
}

// mend changes the instruction at a place, or what is around it, so that it may be sound.
func (d *dice) mend(list []api.Ins, place int) []api.Ins {
	list = cloneAll(list, cloneIns)
	op := list[place].Op
	opens := op >= 2 && op <= 4
	closes := op == api.OpElse || op == api.OpEnd
	if !opens && !closes && d.below(2) == 0 {
		list[place] = d.single()
		return list
	}
	if closes && d.below(4) == 0 {
		// It may be that no values help, but another kind.
		for at := range list[:place] {
			if x := &list[at]; x.Op >= 2 && x.Op <= 4 && d.below(2) == 0 {
				x.A = pick[int64](d, 64, 64, 126, 127)
			}
		}
		return list
	}
	return slices.Insert(list, place, one(pick(d, "int", "int", "long", "drop", "drop", "unreachable", "return")))
}

// P19, P20: any bodies, which are mended until they are sound.
func TestAnyBodies(t *testing.T) {
	d := dice(2463534242)
	count, dead, deep := map[api.Errno]int{}, 0, 0
	for range 1000 {
		m := d.module()
		for range 200 {
			if len(m.Funcs[0].Body) > api.MaxBody {
				break
			}
			place, shapes, err := reckoned(t, m, 0)
			count[err]++
			if err == api.OK {
				for _, s := range shapes {
					if s.Dead {
						dead++
					}
					deep = max(deep, len(s.Stack))
				}
				break
			}
			m.Funcs[0].Body = d.mend(m.Funcs[0].Body, place)
		}
	}
	for _, err := range []api.Errno{api.OK, api.ErrIndex, api.ErrAlign, api.ErrType} {
		if count[err] < 500 {
			t.Errorf("only %d of %d", count[err], err)
		}
	}
	if dead < 1000 || deep < 8 {
		t.Errorf("%d dead, %d deep", dead, deep)
	}
}
