package fold_test

import (
	"troupe/api"
	"troupe/num"
)

// The second reckoning looks nowhere anew: it goes through a body once, block by block, and holds each thing against what lies ahead of it by then.

// thing is an instruction; a block, loop or if with what is within.
type thing struct {
	x            api.Ins
	inner, other []thing
	hasElse      bool
}

// folder goes through a body, and counts how often it has found each rule.
type folder struct {
	list  []api.Ins
	at    int
	count [12]int
}

// reckon is what must become of a body.
func reckon(list []api.Ins) ([]api.Ins, [12]int) {
	f := folder{list: list}
	things := f.level()
	return append(flat(things), api.Ins{Op: 11}), f.count
}

func flat(things []thing) []api.Ins {
	var all []api.Ins
	for _, p := range things {
		all = append(all, p.x)
		if p.x.Op < 2 || p.x.Op > 4 {
			continue
		}
		all = append(all, flat(p.inner)...)
		if p.hasElse {
			all = append(all, api.Ins{Op: 5})
			all = append(all, flat(p.other)...)
		}
		all = append(all, api.Ins{Op: 11})
	}
	return all
}

// level is what becomes of all up to the next end or else that belongs to none of it.
func (f *folder) level() []thing {
	var done []thing
	for f.list[f.at].Op != 5 && f.list[f.at].Op != 11 {
		done = f.lay(done, f.next())
	}
	return done
}

func (f *folder) next() thing {
	p := thing{x: f.list[f.at]}
	f.at++
	if p.x.Op < 2 || p.x.Op > 4 {
		return p
	}
	p.inner = f.level()
	if f.list[f.at].Op == 5 {
		f.at++
		p.hasElse, p.other = true, f.level()
	}
	f.at++
	return p
}

// lay is what becomes of things on which no rule applies, and one behind them.
func (f *folder) lay(done []thing, p thing) []thing {
	top := len(done) - 1
	if top >= 0 {
		switch done[top].x.Op {
		case 0, 12, 14, 15:
			f.count[6]++
			return done
		}
	}
	switch {
	case p.x.Op == 1:
		f.count[1]++
		return done
	case (p.x.Op == 2 || p.x.Op == 3) && p.x.A == 64 && len(p.inner) == 0:
		f.count[9]++
		return done
	case top < 0:
		return append(done, p)
	}
	if done[top].x.Op == 65 {
		if all, found := f.decide(done[:top], done[top].x.A, p); found {
			return all
		}
	}
	if all, found := f.move(done, p.x); found {
		return all
	}
	if all, found := f.reckoned(done, p.x.Op); found {
		return all
	}
	return append(done, p)
}

// decide is lay of an I32 and what asks it, behind things.
func (f *folder) decide(done []thing, n int64, p thing) ([]thing, bool) {
	block := thing{x: api.Ins{Op: 2, A: p.x.A}, inner: p.inner}
	switch {
	case p.x.Op == 13 && n == 0:
		f.count[5]++
		return done, true
	case p.x.Op == 13:
		f.count[5]++
		return f.lay(done, thing{x: api.Ins{Op: 12, A: p.x.A}}), true
	case p.x.Op == 27 && n != 0:
		f.count[11]++
		return f.lay(done, thing{x: api.Ins{Op: 26}}), true
	case p.x.Op == 4 && n != 0:
		f.count[8]++
		return f.lay(done, block), true
	case p.x.Op == 4 && p.hasElse:
		f.count[8]++
		block.inner = p.other
		return f.lay(done, block), true
	case p.x.Op == 4:
		f.count[8]++
		return done, true
	}
	return nil, false
}

// move is lay of what takes and gives values as they are.
func (f *folder) move(done []thing, x api.Ins) ([]thing, bool) {
	top := len(done) - 1
	last := done[top].x
	switch {
	case x.Op == 26 && (last.Op == 65 || last.Op == 66 || last.Op == 32 || last.Op == 35):
		f.count[4]++
		return done[:top], true
	case x.Op == 26 && last.Op == 34:
		f.count[10]++
		return append(done[:top], thing{x: api.Ins{Op: 33, A: last.A}}), true
	case x.Op == 32 && last.Op == 33 && x.A == last.A:
		f.count[7]++
		return append(done[:top], thing{x: api.Ins{Op: 34, A: x.A}}), true
	}
	return nil, false
}

// reckoned is lay of what counts with one number or two.
func (f *folder) reckoned(done []thing, op byte) ([]thing, bool) {
	takes, gives := kindsOf(op)
	size := len(takes)
	if size == 0 || len(done) < size {
		return nil, false
	}
	rest, last := done[:len(done)-size], done[len(done)-size:]
	for at, p := range last {
		if p.x.Op != takes[at] {
			return nil, false
		}
	}
	n, err := num.One(op, last[0].x.A)
	if size == 2 {
		n, err = num.Two(op, last[0].x.A, last[1].x.A)
	}
	if err != api.OK {
		return nil, false
	}
	f.count[1+size]++
	return append(rest, thing{x: api.Ins{Op: gives, A: n}}), true
}

// kindsOf is what an instruction of P7 or P8 takes, and what it gives, each told by its const; of all others nothing.
func kindsOf(op byte) ([]byte, byte) {
	const i, l = 65, 66
	switch {
	case op == 69, 103 <= op && op <= 105, op == 192, op == 193:
		return []byte{i}, i
	case 70 <= op && op <= 79, 106 <= op && op <= 120:
		return []byte{i, i}, i
	case op == 80, op == 167:
		return []byte{l}, i
	case 81 <= op && op <= 90:
		return []byte{l, l}, i
	case 121 <= op && op <= 123, 194 <= op && op <= 196:
		return []byte{l}, l
	case 124 <= op && op <= 138:
		return []byte{l, l}, l
	case op == 172, op == 173:
		return []byte{i}, l
	}
	return nil, 0
}
