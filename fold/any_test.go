package fold_test

import (
	"slices"
	"strings"
	"testing"

	"troupe/api"
	"troupe/fold"
	"troupe/inst"
	"troupe/nest"
	"troupe/probe"
	"troupe/valid"
	"troupe/walk"
)

// counts is how often each rule was found.
type counts [12]int

func (c *counts) add(other [12]int) {
	for rule, n := range other {
		c[rule] += n
	}
}

func (c *counts) enough(t *testing.T, least int) {
	t.Helper()
	for rule := 1; rule <= 11; rule++ {
		if c[rule] < least {
			t.Errorf("rule %d: only %d", rule, c[rule])
		}
	}
}

// folded holds what becomes of a body against the second reckoning, and that nothing is left to do then.
func folded(t *testing.T, l []api.Ins, c *counts) {
	t.Helper()
	want, count := reckon(l)
	c.add(count)
	got, err := fold.Body(l)
	if err != api.OK || !sameBody(got, want) {
		t.Fatalf("%v becomes %v, %d, not %v", l, got, err, want)
	}
	if again, err := fold.Body(got); err != api.OK || !sameBody(again, got) {
		t.Fatalf("%v becomes %v, but that %v, %d", l, got, again, err)
	}
}

// P33: every body of up to four of these, and its own end.
func TestAllShortBodies(t *testing.T) {
	words := strings.Split("nop, int 0, int 7, long 0, eqz, add, 81, drop, br_if 0, return, set 0, get 0, get 1, tee 0, select, block, loop i32, if, else, end", ", ")
	var c counts
	var longer func(l []api.Ins, more int)
	longer = func(l []api.Ins, more int) {
		whole := append(l, api.Ins{Op: api.OpEnd})
		if nest.Check(whole) == api.OK {
			folded(t, whole, &c)
		}
		if more > 0 {
			for _, word := range words {
				longer(append(slices.Clone(l), one(word)), more-1)
			}
		}
	}
	longer(nil, 4)
	c.enough(t, 50)
}

// P33: long bodies, sound or not, on which rules apply at many places.
func TestLongBodies(t *testing.T) {
	d := probe.Dice(88172645463325252)
	var c counts
	for range 10000 {
		folded(t, anyBody(&d), &c)
	}
	c.enough(t, 500)
}

// anyBody is a body, sound or not.
func anyBody(d *probe.Dice) []api.Ins {
	for {
		if l := append(lump(d, 70, 0), api.Ins{Op: api.OpEnd}); len(l) <= api.MaxBody {
			return l
		}
	}
}

// lump is a piece of a body that has at most size instructions and blocks beside one another, and so many blocks around it.
func lump(d *probe.Dice, size, around int) []api.Ins {
	var all []api.Ins
	for range d.Below(size + 1) {
		if around == api.MaxDeep || d.Below(6) > 0 {
			all = append(all, one(scrap(d)))
			continue
		}
		head := probe.Pick(d, "block", "loop", "if", "if", "block i32", "loop i64", "if i32")
		all = slices.Concat(all, []api.Ins{one(head)}, lump(d, size/3, around+1))
		if head[:2] == "if" && d.Below(2) == 0 {
			all = slices.Concat(all, []api.Ins{one("else")}, lump(d, size/3, around+1))
		}
		all = append(all, one("end"))
	}
	return all
}

// scrap is an instruction that opens and closes nothing.
func scrap(d *probe.Dice) string {
	if d.Below(40) == 0 {
		return probe.Pick(d, "br 1", "br_table 0 1 2", "br_table 1", "return", "unreachable")
	}
	return probe.Pick(d, "nop", "int 0", "int 1", "int -1", "int 5", "long 0", "long 1", "long -5", "int 0", "int 1", "int 2", "int 3", "long 8",
		"int 0", "int 4", "long 2", "eqz", "80", "105", "cut", "widen", "196",
		"add", "sub", "div", "112", "add64", "div64", "87", "drop", "drop", "br_if 0", "br_if 2", "get 0", "get 1", "gget 0", "set 0", "set 1", "tee 0", "tee 1",
		"get 0", "set 0", "select", "select", "gset 0", "size", "grow", "load 0 3", "store 1 2", "call 3", "indirect 2")
}

// strewn is a body in which something stands here and there that may do nothing, or make the rest dead.
func strewn(d *probe.Dice, l []api.Ins) []api.Ins {
	for range 1 + d.Below(6) {
		text := probe.Pick(d, "nop", "int 5, drop", "get 0, drop", "gget 2, drop", "int 0, br_if 0", "int 1, br_if 0", "int 0, br_if 1", "int -1, br_if 1", "return",
			"unreachable", "br 0", "br 1", "set 0, get 0", "tee 0, drop", "tee 0, drop, get 0", "block, end", "loop, end", "int 1, if, end", "int 0, if, call 3, end",
			"int 7, if, call 3, gset 0, int 2, else, call 3, end", "int 7, if, call 3, else, int 1, gset 0, end", "int 0, if, nop, else, int 2, gset 0, end",
			"int 0, if, int 9, gset 0, end", "int 1, if i32, int 3, else, int 4, end, gset 0", "int 0, if i64, long 3, else, long 4, end, gset 1", "eqz", "80", "int 3, sub",
			"int 1, select", "size, size, int 3, select, gset 0", "gget 0, gget 2, int 0, select, gset 0", "int 8, int 9, int 1, select, gset 0", "int 6, int 3, div, gset 0",
			"int 6, int 0, div, gset 0", "long 6, long 3, sub64, gset 1", "int 6, eqz, gset 0", "long 6, 80, gset 0", "int 6, widen, gset 1")
		snip := body(text)
		l = slices.Insert(slices.Clone(l), d.Below(len(l)), snip[:len(snip)-1]...)
	}
	return l
}

// strewnModule is a sound module in whose bodies such stands.
func strewnModule(d *probe.Dice) api.Module {
	m := d.Play()
	for range 12 {
		own := d.Below(len(m.Funcs))
		other := m
		other.Funcs = slices.Clone(m.Funcs)
		other.Funcs[own].Body = strewn(d, m.Funcs[own].Body)
		if valid.Module(other) == api.OK {
			m = other
		}
	}
	return m
}

// P33, P34: a module does the same with bodies that were folded, for no more of the fuel, and is sound as well.
func TestDoesTheSame(t *testing.T) {
	d := probe.Dice(2463534242987654321)
	var c counts
	ends := map[int]int{}
	for range 3000 {
		m := strewnModule(&d)
		for _, f := range m.Funcs {
			_, count := reckon(f.Body)
			c.add(count)
		}
		other, err := fold.Module(m)
		if err != api.OK || valid.Module(other) != api.OK {
			t.Fatalf("%v becomes %v, %d", m, other, err)
		}
		for range 3 {
			ends[doesTheSame(t, &d, m, other)]++
		}
	}
	c.enough(t, 200)
	if ends[api.EndDone] < 2000 || ends[api.EndTrap] < 500 || ends[api.EndFuel] < 20 {
		t.Errorf("they end as %v", ends)
	}
}

// doesTheSame holds what comes of a call against what comes of it with bodies that were folded, and answers how it ends.
func doesTheSame(t *testing.T, d *probe.Dice, m, other api.Module) int {
	t.Helper()
	number := len(m.Imports) + d.Below(len(m.Funcs))
	x := d.Later(m)
	args := d.Longs(len(m.Types[m.Funcs[number-len(m.Imports)].Type].In))
	answers := d.Longs(4)
	want, image, asks, _ := walk.Call(m, x, number, args, answers, 2000)
	got, after, asked, err := walk.Call(other, x, number, args, answers, 2000)
	if want.End == api.EndFuel {
		if len(asked) < len(asks) || !slices.EqualFunc(asked[:len(asks)], asks, probe.SameAsk) {
			t.Fatalf("%v: %d asks %v, and folded %v", m, number, asks, asked)
		}
		return want.End
	}
	isLess := got.Left >= want.Left
	want.Left = got.Left
	if err != api.OK || !isLess || !probe.SameOut(got, want) || !probe.SameImage(after, image) || !slices.EqualFunc(asked, asks, probe.SameAsk) {
		t.Fatalf("%v: %d ends as %v with %v, and folded as %v with %v", m, number, want, image, got, after)
	}
	return want.End
}

// P1, P33, P34: whatever is given.
func TestAnything(t *testing.T) {
	d := probe.Dice(141421356237309)
	var c counts
	bodies, modules := 0, 0
	for round := range 20000 {
		m := d.WildModule()
		if round%2 == 0 {
			m = d.Spoilt()
		}
		for _, f := range m.Funcs {
			l := f.Body
			if d.Below(2) == 0 {
				l = d.Altered(l)
			}
			if err := nest.Check(l); err != api.OK {
				refuses(t, l, err)
				continue
			}
			bodies++
			folded(t, l, &c)
		}
		if foldsModule(t, m) == api.OK {
			modules++
		}
	}
	if bodies < 5000 || modules < 2000 {
		t.Errorf("only %d bodies and %d modules are right", bodies, modules)
	}
}

// P34: a module that is sound is folded, whether it has an instance or not.
func TestWithoutInstance(t *testing.T) {
	m := stage()
	m.Data[0].At = 255
	if _, err := inst.Make(m); err != api.ErrBounds {
		t.Fatalf("its instance: %d", err)
	}
	foldsModule(t, m)
}
