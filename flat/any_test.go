package flat_test

import (
	"slices"
	"strconv"
	"testing"

	"troupe/api"
	"troupe/flat"
	"troupe/valid"
)

func sameSpot(x, y api.Spot) bool {
	return slices.Equal(x.To, y.To)
}

// reckoned holds Func of a sound body against the second reckoning, and against what valid knows of the stack at both ends of each way.
func reckoned(t *testing.T, m api.Module, at int) []api.Spot {
	t.Helper()
	got, err := flat.Func(m, at)
	if want := reckon(m, at); err != api.OK || !slices.EqualFunc(got, want, sameSpot) {
		t.Fatalf("%v: %s, %d, not %s", m.Funcs[at].Body, told(got), err, told(want))
	}
	shapes, _ := valid.Shapes(m, at)
	for place, s := range got {
		for _, j := range s.To {
			arrives(t, m, at, shapes, place, j)
		}
	}
	return got
}

// arrives holds what a way leaves on the stack against what is known at its other end, or, where that is the end of a block, behind it.
func arrives(t *testing.T, m api.Module, at int, shapes []api.Shape, place int, j api.Jump) {
	t.Helper()
	list, stack := m.Funcs[at].Body, shapes[place].Stack
	switch list[place].Op {
	case 4, 13, 14:
		stack = stack[:len(stack)-1]
	}
	next := slices.Concat(stack[:j.Height], stack[len(stack)-j.Keep:])
	if j.At == len(list)-1 {
		if !slices.Equal(next, m.Types[m.Funcs[at].Type].Out) {
			t.Fatalf("%v: the way %v from %d brings %v out of the body", list, j, place, next)
		}
		return
	}
	known := shapes[j.At]
	if list[j.At].Op == 11 {
		known = shapes[j.At+1]
	}
	if known.Dead || !slices.Equal(next, known.Stack) {
		t.Fatalf("%v: the way %v from %d brings %v, but %v is known there", list, j, place, next, known)
	}
}

// closed is a beginning of a body with what closes all blocks in a sound way.
func closed(list []api.Ins) []api.Ins {
	var open []api.Ins
	for _, x := range list {
		switch {
		case opens(x.Op):
			open = append(open, x)
		case x.Op == 5:
			open[len(open)-1].Op = 5
		case x.Op == 11:
			open = open[:len(open)-1]
		}
	}
	all := slices.Clone(list)
	for _, x := range slices.Backward(open) {
		if x.Op == 4 && x.A != 64 {
			all = append(all, one("unreachable"), one("else"))
		}
		all = append(all, one("unreachable"), one("end"))
	}
	return append(all, one("unreachable"), one("end"))
}

// fits tells whether one more instruction may stand behind the beginning of a body.
func fits(list []api.Ins, x api.Ins) bool {
	deep, half := 0, []bool{}
	for _, y := range list {
		switch {
		case opens(y.Op):
			deep++
			half = append(half, y.Op == 4)
		case y.Op == 5:
			half[deep-1] = false
		case y.Op == 11:
			deep--
			half = half[:deep]
		}
	}
	switch {
	case x.Op == 11:
		return deep > 0
	case x.Op == 5:
		return deep > 0 && half[deep-1]
	}
	return !opens(x.Op) || deep < api.MaxDeep
}

// P23: all short sound bodies of some instructions, and all beginnings of such, closed.
func TestShortBodies(t *testing.T) {
	alphabet := []string{"int", "drop", "nop", "unreachable", "return", "block", "block i32", "loop", "loop i32", "if", "if i32", "else", "end",
		"br 0", "br 1", "br_if 0", "br_if 1", "br_table 0 1"}
	bodies, ways := 0, 0
	var grow func(number int, list []api.Ins, left int)
	grow = func(number int, list []api.Ins, left int) {
		for _, all := range [][]api.Ins{append(slices.Clone(list), one("end")), closed(list)} {
			m := with(number, nil, all)
			if _, err := valid.Func(m, 0); err != api.OK {
				continue
			}
			bodies++
			for _, s := range reckoned(t, m, 0) {
				ways += len(s.To)
			}
		}
		if left == 0 {
			return
		}
		for _, word := range alphabet {
			x := one(word)
			if !fits(list, x) {
				continue
			}
			longer := append(slices.Clone(list), x)
			if _, err := valid.Func(with(number, nil, closed(longer)), 0); err == api.OK {
				grow(number, longer, left-1)
			}
		}
	}
	grow(typeNothing, nil, 4)
	grow(typeInt, nil, 4)
	for _, start := range []string{"int, int, if, ", "int, int, if i32, int, else, ", "int, block i32, int, int, ", "int, loop i32, int, int, if, "} {
		list := body(start)
		grow(typeNothing, list[:len(list)-1], 3)
		grow(typeInt, list[:len(list)-1], 3)
	}
	if bodies < 30000 || ways < 30000 {
		t.Errorf("only %d bodies with %d ways", bodies, ways)
	}
}

// next makes an instruction that may be sound behind others, sometimes with a number ahead of it.
func (d *dice) next() []api.Ins {
	x := d.single()
	if takesNumber := x.Op == 4 || x.Op == 13 || x.Op == 14; takesNumber && d.below(2) == 0 {
		return []api.Ins{one("int"), x}
	}
	return []api.Ins{x}
}

func (d *dice) single() api.Ins {
	switch d.below(16) {
	case 0, 1, 2:
		return one(pick(d, "int", "long", "get 0", "gget 1", "size", "nop"))
	case 3:
		return one(pick(d, "drop", "select", "106", "124", "167", "172", "40 1 5", "54 0 7", "grow", "tee 0", "set 1", "gset 0"))
	case 4:
		return one(pick(d, "call ", "indirect ") + strconv.Itoa(d.below(6)))
	case 5, 6, 7:
		return one(pick(d, "block", "loop", "if") + pick(d, "", " i32", " i64"))
	case 8:
		return one(pick(d, "drop", "end", "else"))
	case 9, 10:
		return one("br_if " + strconv.Itoa(d.below(5)))
	case 11, 12:
		x := api.Ins{Op: api.OpBrTable, A: int64(d.below(4))}
		for range d.below(5) {
			x.To = append(x.To, int64(d.below(6)))
		}
		return x
	case 13, 14:
		return one(pick(d, "br ", "br ", "br_if ") + strconv.Itoa(d.below(pick(d, 3, 13))))
	}
	return one(pick(d, "return", "return", "unreachable"))
}

// dies tells whether all behind an instruction is dead, up to the end or else of its block.
func dies(x api.Ins) bool {
	return slices.Contains([]byte{0, 12, 14, 15}, x.Op)
}

// isSound tells whether the beginning of a body is.
func isSound(m api.Module, list []api.Ins) bool {
	m.Funcs = slices.Clone(m.Funcs)
	m.Funcs[0].Body = closed(list)
	_, err := valid.Func(m, 0)
	return err == api.OK
}

// closeOne closes the innermost block, or its first half, behind what it takes for that.
func (d *dice) closeOne(m api.Module, list []api.Ins) []api.Ins {
	closing := one(pick(d, "else", "else", "end"))
	if !fits(list, closing) {
		closing = one("end")
	}
	if !fits(list, closing) {
		return list
	}
	for drops := range 12 {
		for _, value := range []string{"nop", "int", "long"} {
			longer := append(slices.Clone(list), slices.Repeat([]api.Ins{one("drop")}, drops)...)
			longer = append(longer, one(value), closing)
			if isSound(m, longer) {
				return longer
			}
		}
	}
	return list
}

// sound makes a module whose first own function has a sound body, which grows by up to so many instructions.
func (d *dice) sound(tries int) api.Module {
	m := with(d.below(6), kinds(i64, i32), nil)
	var list []api.Ins
	for range tries {
		isDead := len(list) > 0 && dies(list[len(list)-1])
		if d.below(6) == 0 || isDead && d.below(2) == 0 {
			list = d.closeOne(m, list)
			continue
		}
		more := d.next()
		last := more[len(more)-1]
		// A body that dies itself has no ways any more.
		if dies(last) && !fits(list, one("end")) && d.below(20) > 0 || !fits(list, last) {
			continue
		}
		if longer := slices.Concat(list, more); isSound(m, longer) {
			list = longer
		}
	}
	m.Funcs[0].Body = closed(list)
	return m
}

// P23, P24: any sound bodies.
func TestAnyBodies(t *testing.T) {
	d := dice(88172645463325252)
	count, high, long, kept := map[byte]int{}, 0, 0, 0
	for range 700 {
		m := d.sound(pick(&d, 20, 60, 300))
		spots := reckoned(t, m, 0)
		whole, err := flat.Whole(m)
		if err != api.OK || len(whole) != 3 || !slices.EqualFunc(whole[0], spots, sameSpot) {
			t.Fatalf("%v: Whole is %v, %d", m.Funcs[0].Body, whole, err)
		}
		long = max(long, len(spots))
		for at, s := range spots {
			for _, j := range s.To {
				count[m.Funcs[0].Body[at].Op]++
				high = max(high, j.Height)
				kept += j.Keep
			}
		}
	}
	for _, op := range []byte{4, 5, 12, 13, 14, 15} {
		if count[op] < 300 {
			t.Errorf("only %d ways of %d", count[op], op)
		}
	}
	if high < 8 || long < 100 || kept < 1000 {
		t.Errorf("%d high, %d long, %d kept", high, long, kept)
	}
}
