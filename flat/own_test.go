package flat_test

import (
	"math"
	"reflect"
	"slices"
	"testing"

	"troupe/api"
	"troupe/flat"
	"troupe/valid"
)

func cloneAll[T any](list []T, one func(T) T) []T {
	var out []T
	for _, x := range list {
		out = append(out, one(x))
	}
	return out
}

// roomy is a list with room behind it in which fill stands.
func roomy[T any](list []T, fill T) []T {
	wide := append(slices.Clone(list), fill, fill, fill)
	return wide[:len(list)]
}

func roomySig(s api.Sig) api.Sig {
	return api.Sig{In: roomy(s.In, 99), Out: roomy(s.Out, 99)}
}

func roomyIns(x api.Ins) api.Ins {
	x.To = roomy(x.To, 99)
	return x
}

func roomyFunc(f api.Func) api.Func {
	list := roomy(cloneAll(f.Body, roomyIns), api.Ins{Op: 99})
	return api.Func{Type: f.Type, Locals: roomy(f.Locals, 99), Body: list}
}

func roomyElem(e api.Elem) api.Elem {
	return api.Elem{At: e.At, Funcs: roomy(e.Funcs, 99)}
}

// roomyModule is m with memory of its own, and room behind each list.
func roomyModule(m api.Module) api.Module {
	m.Types = roomy(cloneAll(m.Types, roomySig), api.Sig{In: kinds(99)})
	m.Imports = roomy(m.Imports, api.Import{Type: 99})
	m.Funcs = roomy(cloneAll(m.Funcs, roomyFunc), api.Func{Type: 99})
	m.Globals = roomy(m.Globals, api.Global{Kind: 99})
	m.Exports = roomy(m.Exports, api.Export{Func: 99})
	m.Elems = roomy(cloneAll(m.Elems, roomyElem), api.Elem{At: 99})
	m.Data = roomy(m.Data, api.Data{At: 99})
	return m
}

func wide[T any](list []T) []T {
	return list[:cap(list)]
}

// unroomy is m with the room behind each list as a part of it.
func unroomy(m api.Module) api.Module {
	m.Types, m.Imports, m.Funcs = slices.Clone(wide(m.Types)), wide(m.Imports), slices.Clone(wide(m.Funcs))
	m.Globals, m.Exports, m.Elems, m.Data = wide(m.Globals), wide(m.Exports), slices.Clone(wide(m.Elems)), wide(m.Data)
	for i, s := range m.Types {
		m.Types[i] = api.Sig{In: wide(s.In), Out: wide(s.Out)}
	}
	for i, f := range m.Funcs {
		list := slices.Clone(wide(f.Body))
		for k := range list {
			list[k].To = wide(list[k].To)
		}
		m.Funcs[i] = api.Func{Type: f.Type, Locals: wide(f.Locals), Body: list}
	}
	for i, e := range m.Elems {
		m.Elems[i].Funcs = wide(e.Funcs)
	}
	return m
}

// everything is a sound module whose bodies have each kind of way, of some more than once.
func everything() api.Module {
	m := with(typeBoth, kinds(i64), body("get 1, block, loop, int, br_table 0 1 1 0, end, end, "+
		"int, if i32, int, else, int, int, br_if 0, end, br_if 0, block i64, long, br 0, end, drop, "+
		"block, int, br_table 0 0 0 0 0, end, int, if, long, return, else, nop, end"))
	m.Funcs[1].Body = body("int, int, int, br_if 0, drop, return")
	return m
}

// P2: what is handed in is as it was, the room behind lists included.
func TestHandedIn(t *testing.T) {
	d := dice(314159265358979)
	if err := valid.Module(everything()); err != api.OK {
		t.Fatal(err)
	}
	modules := []api.Module{everything(), stage(), {}}
	for range 30 {
		modules = append(modules, d.sound(60))
	}
	for _, m := range wrongs() {
		modules = append(modules, m)
	}
	for _, m := range modules {
		given, want := roomyModule(m), roomyModule(m)
		flat.Whole(given)
		for at := -1; at <= len(m.Funcs); at++ {
			flat.Func(given, at)
		}
		if !reflect.DeepEqual(unroomy(given), unroomy(want)) {
			t.Fatalf("%v has become %v", want, given)
		}
	}
}

// alone fills each list of ways with the room behind it, and then holds all others, and those behind that, against what was answered.
func alone(t *testing.T, given, want []api.Spot) {
	t.Helper()
	for at := range given {
		ways := wide(given[at].To)
		for i := range ways {
			ways[i] = api.Jump{At: 99, Keep: 99, Height: 99}
		}
		for other := at + 1; other < len(given); other++ {
			if !sameSpot(given[other], want[other]) {
				t.Fatalf("the ways of %d and %d share memory", at, other)
			}
		}
	}
}

// P2: what is answered shares no memory with the module, nor one list with another, nor with what is answered next.
func TestAnswered(t *testing.T) {
	m := roomyModule(everything())
	want, err := flat.Func(m, 0)
	if err != api.OK {
		t.Fatal(err)
	}
	spots, _ := flat.Func(m, 0)
	alone(t, spots, want)
	clear(wide(spots))
	whole, _ := flat.Whole(m)
	other, _ := flat.Whole(m)
	for at := range whole {
		alone(t, whole[at], other[at])
		clear(wide(whole[at]))
		for next := at + 1; next < len(whole); next++ {
			if !slices.EqualFunc(whole[next], other[next], sameSpot) {
				t.Fatalf("what is told of %d and %d shares memory", at, next)
			}
		}
	}
	clear(wide(whole))
	if !reflect.DeepEqual(unroomy(m), unroomy(roomyModule(everything()))) {
		t.Error("the module has changed")
	}
	again, err := flat.Func(m, 0)
	if err != api.OK || !slices.EqualFunc(again, want, sameSpot) || !slices.EqualFunc(other[0], want, sameSpot) {
		t.Error("Func is another one")
	}
}

// P2: what was answered is not that of a module that has changed since.
func TestKept(t *testing.T) {
	m := everything()
	spots, _ := flat.Func(m, 0)
	before := told(spots)
	for at := range m.Funcs[0].Body {
		clear(m.Funcs[0].Body[at].To)
	}
	clear(m.Funcs[0].Body)
	if told(spots) != before {
		t.Errorf("%s has become %s", before, told(spots))
	}
	if spots, err := flat.Func(m, 0); spots != nil || err != api.ErrShort {
		t.Errorf("%s, %d", told(spots), err)
	}
}

// wild answers numbers at all edges.
func (d *dice) wild() int64 {
	switch d.below(4) {
	case 0:
		return int64(d.below(3))
	case 1:
		return pick[int64](d, math.MinInt64, math.MaxInt64, -1, 1<<31, 1<<32-1, 1<<32, -1<<31, 63, 64)
	}
	return int64(d.below(20)) - 2
}

func wildList[T any](d *dice, one func() T) []T {
	var list []T
	for range d.below(pick(d, 2, 4, 19)) {
		list = append(list, one())
	}
	return list
}

func (d *dice) wildIns() api.Ins {
	if d.below(3) > 0 {
		return d.single()
	}
	return api.Ins{Op: byte(d.below(256)), A: d.wild(), B: d.wild(), To: wildList(d, d.wild)}
}

func (d *dice) wildModule() api.Module {
	number := func() int { return int(d.wild()) }
	kind := func() api.Kind { return pick(d, i32, i64, i32, i64, api.NoKind, api.Kind(d.below(256))) }
	name := func() string { return pick(d, "", "a", "b", "\xff", "a name of 17 byte", "a name of 16 byt") }
	return api.Module{
		Types:   wildList(d, func() api.Sig { return api.Sig{In: wildList(d, kind), Out: wildList(d, kind)} }),
		Imports: wildList(d, func() api.Import { return api.Import{Name: name(), Type: number()} }),
		Funcs: wildList(d, func() api.Func {
			return api.Func{Type: number(), Locals: wildList(d, kind), Body: append(wildList(d, d.wildIns), one("end"))}
		}),
		Table:   number(),
		Pages:   number(),
		Most:    number(),
		Globals: wildList(d, func() api.Global { return api.Global{Kind: kind(), Mut: d.below(2) == 0, Start: d.wild()} }),
		Exports: wildList(d, func() api.Export { return api.Export{Name: name(), Func: number()} }),
		Start:   number(),
		Elems:   wildList(d, func() api.Elem { return api.Elem{At: number(), Funcs: wildList(d, number)} }),
		Data:    wildList(d, func() api.Data { return api.Data{At: number(), Bytes: name()} }),
	}
}

// ask holds what the calls say of any module against valid: P1 is that they say something.
func ask(t *testing.T, m api.Module, at int) {
	t.Helper()
	_, want := valid.Func(m, at)
	spots, err := flat.Func(m, at)
	if err != want || err != api.OK && spots != nil || err == api.OK && len(spots) != len(m.Funcs[at].Body) {
		t.Fatalf("%v: Func of %d is %v, %d, not %d", m, at, spots, err, want)
	}
	want = valid.Module(m)
	whole, err := flat.Whole(m)
	if err != want || err != api.OK && whole != nil || err == api.OK && len(whole) != len(m.Funcs) {
		t.Fatalf("%v: Whole is %v, %d, not %d", m, whole, err, want)
	}
}

// P1, P23, P24: whatever is given.
func TestAnything(t *testing.T) {
	d := dice(271828182845904)
	for range 10000 {
		m := d.wildModule()
		for _, at := range []int{0, 1, int(d.wild())} {
			ask(t, m, at)
		}
	}
	// Parts of a sound module are spoilt one by one, so that what is behind them is come to as well.
	for range 10000 {
		m, other := stage(), d.wildModule()
		m.Funcs[0].Body = append(wildList(&d, d.wildIns), one("end"))
		switch d.below(6) {
		case 0:
			m.Types = other.Types
		case 1:
			m.Imports = other.Imports
		case 2:
			m.Funcs = other.Funcs
		case 3:
			m.Table, m.Most = other.Table, other.Most
		case 4:
			m.Exports, m.Start = other.Exports, other.Start
		}
		for _, at := range []int{0, 1, int(d.wild())} {
			ask(t, m, at)
		}
	}
}
