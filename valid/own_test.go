package valid_test

import (
	"math"
	"reflect"
	"slices"
	"testing"

	"troupe/api"
	"troupe/valid"
)

// roomy is a list with room behind it in which fill stands.
func roomy[T any](list []T, fill T) []T {
	wide := append(slices.Clone(list), fill, fill, fill)
	return wide[:len(list)]
}

func roomySig(s api.Sig) api.Sig {
	return api.Sig{In: roomy(s.In, 99), Out: roomy(s.Out, 99)}
}

func roomyIns(x api.Ins) api.Ins {
	x.To = roomy(x.To, 99)
	return x
}

func roomyFunc(f api.Func) api.Func {
	body := roomy(cloneAll(f.Body, roomyIns), api.Ins{Op: 99})
	return api.Func{Type: f.Type, Locals: roomy(f.Locals, 99), Body: body}
}

func roomyElem(e api.Elem) api.Elem {
	return api.Elem{At: e.At, Funcs: roomy(e.Funcs, 99)}
}

// roomyModule is m with memory of its own, and room behind each list.
func roomyModule(m api.Module) api.Module {
	m.Types = roomy(cloneAll(m.Types, roomySig), api.Sig{In: kinds(99)})
	m.Imports = roomy(m.Imports, api.Import{Type: 99})
	m.Funcs = roomy(cloneAll(m.Funcs, roomyFunc), api.Func{Type: 99})
	m.Globals = roomy(m.Globals, api.Global{Kind: 99})
	m.Exports = roomy(m.Exports, api.Export{Func: 99})
	m.Elems = roomy(cloneAll(m.Elems, roomyElem), api.Elem{At: 99})
	m.Data = roomy(m.Data, api.Data{At: 99})
	return m
}

func wide[T any](list []T) []T {
	return list[:cap(list)]
}

// unroomy is m with the room behind each list as a part of it.
func unroomy(m api.Module) api.Module {
	m.Types, m.Imports, m.Funcs = slices.Clone(wide(m.Types)), wide(m.Imports), slices.Clone(wide(m.Funcs))
	m.Globals, m.Exports, m.Elems, m.Data = wide(m.Globals), wide(m.Exports), slices.Clone(wide(m.Elems)), wide(m.Data)
	for i, s := range m.Types {
		m.Types[i] = api.Sig{In: wide(s.In), Out: wide(s.Out)}
	}
	for i, f := range m.Funcs {
		list := slices.Clone(wide(f.Body))
		for k := range list {
			list[k].To = wide(list[k].To)
		}
		m.Funcs[i] = api.Func{Type: f.Type, Locals: wide(f.Locals), Body: list}
	}
	for i, e := range m.Elems {
		m.Elems[i].Funcs = wide(e.Funcs)
	}
	return m
}

// everything is a module whose bodies have each kind of instruction that looks at a list of the module.
func everything() api.Module {
	m := with(typeBoth, kinds(i64, i32, i32), "get 0, get 1, int, indirect 3, set 2, long, int, int, long, int, indirect 4, "+
		"int, long, call 0, drop, block i64, long, int, br_if 0, int, br_table 0 1 0, end, gget 1, 124, "+
		"int, if i64, long, else, long, return, end, drop, tee 2, int, int, call 4, drop, loop, end, br_if 0, unreachable, select")
	m.Funcs[2].Body = body("get 0, int, indirect 5, br 0")
	return m
}

// P2: what is handed in is as it was, the room behind lists included.
func TestHandedIn(t *testing.T) {
	d := dice(314159265358979)
	modules := []api.Module{everything(), stage()}
	for range 500 {
		modules = append(modules, d.module())
	}
	for _, f := range headFaults() {
		modules = append(modules, changed(f.spoil))
	}
	if err := valid.Module(everything()); err != api.OK {
		t.Fatal(err)
	}
	for _, m := range modules {
		given, want := roomyModule(m), roomyModule(m)
		valid.Head(given)
		valid.Module(given)
		for at := range m.Funcs {
			valid.Func(given, at)
			valid.Shapes(given, at)
		}
		if !reflect.DeepEqual(unroomy(given), unroomy(want)) {
			t.Fatalf("%v has become %v", want, given)
		}
	}
}

// P2: what is answered shares no memory with the module, nor one list with another.
func TestAnswered(t *testing.T) {
	m := roomyModule(everything())
	shapes, err := valid.Shapes(m, 0)
	if err != api.OK {
		t.Fatal(err)
	}
	want, _ := valid.Shapes(m, 0)
	for at := range shapes {
		if shapes[at].Dead && shapes[at].Stack != nil {
			t.Errorf("%d is dead and has a stack", at)
		}
		stack := wide(shapes[at].Stack)
		for i := range stack {
			stack[i] = 99
		}
		for other := range shapes {
			if other > at && !sameShape(shapes[other], want[other]) {
				t.Fatalf("%d and %d share memory", at, other)
			}
		}
	}
	clear(wide(shapes))
	if !reflect.DeepEqual(unroomy(m), unroomy(roomyModule(everything()))) {
		t.Error("the module has changed")
	}
	again, err := valid.Shapes(m, 0)
	if err != api.OK || !slices.EqualFunc(again, want, sameShape) {
		t.Error("Shapes is another one")
	}
}

// wild answers numbers at all edges.
func (d *dice) wild() int64 {
	switch d.below(4) {
	case 0:
		return int64(d.below(3))
	case 1:
		return pick[int64](d, math.MinInt64, math.MaxInt64, -1, 1<<31, 1<<32-1, 1<<32, -1<<31, 63, 64)
	}
	return int64(d.below(20)) - 2
}

func wildList[T any](d *dice, one func() T) []T {
	var list []T
	for range d.below(pick(d, 2, 4, 19)) {
		list = append(list, one())
	}
	return list
}

func (d *dice) wildKind() api.Kind {
	return pick(d, api.I32, api.I64, api.I32, api.I64, api.I32, api.NoKind, api.Kind(d.below(256)))
}

func (d *dice) wildIns() api.Ins {
	if d.below(3) > 0 {
		return d.single()
	}
	return api.Ins{Op: byte(d.below(256)), A: d.wild(), B: d.wild(), To: wildList(d, d.wild)}
}

func (d *dice) wildModule() api.Module {
	number := func() int { return int(d.wild()) }
	kind := d.wildKind
	name := func() string { return pick(d, "", "a", "b", "\xff", "a name of 17 byte", "a name of 16 byt") }
	return api.Module{
		Types:   wildList(d, func() api.Sig { return api.Sig{In: wildList(d, kind), Out: wildList(d, kind)} }),
		Imports: wildList(d, func() api.Import { return api.Import{Name: name(), Type: number()} }),
		Funcs: wildList(d, func() api.Func {
			return api.Func{Type: number(), Locals: wildList(d, kind), Body: append(wildList(d, d.wildIns), one("end"))}
		}),
		Table:   number(),
		Pages:   number(),
		Most:    number(),
		Globals: wildList(d, func() api.Global { return api.Global{Kind: kind(), Mut: d.below(2) == 0, Start: d.wild()} }),
		Exports: wildList(d, func() api.Export { return api.Export{Name: name(), Func: number()} }),
		Start:   number(),
		Elems:   wildList(d, func() api.Elem { return api.Elem{At: number(), Funcs: wildList(d, number)} }),
		Data:    wildList(d, func() api.Data { return api.Data{At: number(), Bytes: name()} }),
	}
}

// ask holds what the calls say of a module against each other: P1 is that they say something.
func ask(t *testing.T, m api.Module, at int) {
	t.Helper()
	head := valid.Head(m)
	place, err := valid.Func(m, at)
	shapes, other := valid.Shapes(m, at)
	whole := valid.Module(m)
	isThere := at >= 0 && at < len(m.Funcs)
	switch {
	case head != api.OK && (place != 0 || err != head || shapes != nil || other != head || whole != head):
		t.Fatalf("%v: %d, %d, %v, %d, %d", m, place, err, shapes, other, whole)
	case err != other || err == api.OK && (place != 0 || len(shapes) != len(m.Funcs[at].Body)):
		t.Fatalf("%v: %d, %d, %v, %d", m, place, err, shapes, other)
	case head == api.OK && isThere != (err != api.ErrArg):
		t.Fatalf("%v: %d, %d, but %d", m, place, err, at)
	case head == api.OK && isThere && err != api.OK && whole == api.OK:
		t.Fatalf("%v: Module is OK, but %d", m, err)
	}
}

// P1: whatever is given.
func TestAnything(t *testing.T) {
	d := dice(271828182845904)
	for range 20000 {
		m := d.wildModule()
		for _, at := range []int{0, 1, int(d.wild())} {
			ask(t, m, at)
		}
	}
	// Parts of a sound module are spoilt one by one, so that what is behind them is come to as well.
	for range 20000 {
		m, other := roomyModule(stage()), d.wildModule()
		m.Funcs[0].Body = append(wildList(&d, d.wildIns), one("end"))
		switch d.below(9) {
		case 0:
			m.Types = other.Types
		case 1:
			m.Imports = other.Imports
		case 2:
			m.Funcs = other.Funcs
		case 3:
			m.Table, m.Most = other.Table, other.Most
		case 4:
			m.Globals = other.Globals
		case 5:
			m.Exports = other.Exports
		case 6:
			m.Start = other.Start
		case 7:
			m.Elems, m.Data = other.Elems, other.Data
		}
		for _, at := range []int{0, 1, int(d.wild())} {
			ask(t, m, at)
		}
	}
}
