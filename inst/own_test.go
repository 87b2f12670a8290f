package inst_test

import (
	"reflect"
	"slices"
	"testing"

	"troupe/api"
	"troupe/inst"
)

// roomy is a list with memory of its own, and room behind it in which fill stands.
func roomy[T any](from []T, fill T) []T {
	wide := make([]T, len(from)+3)
	for at := range wide {
		wide[at] = fill
	}
	copy(wide, from)
	return wide[:len(from)]
}

func wide[T any](list []T) []T {
	return list[:cap(list)]
}

func cloneAll[T any](from []T, one func(T) T) []T {
	var out []T
	for _, x := range from {
		out = append(out, one(x))
	}
	return out
}

func roomyFunc(f api.Func) api.Func {
	body := cloneAll(f.Body, func(x api.Ins) api.Ins {
		x.To = roomy(x.To, 99)
		return x
	})
	return api.Func{Type: f.Type, Locals: roomy(f.Locals, 99), Body: roomy(body, api.Ins{Op: 99})}
}

// roomyModule is m with memory of its own, and room behind each list.
func roomyModule(m api.Module) api.Module {
	m.Types = roomy(cloneAll(m.Types, func(s api.Sig) api.Sig { return api.Sig{In: roomy(s.In, 99), Out: roomy(s.Out, 99)} }), api.Sig{In: kinds(99)})
	m.Imports = roomy(m.Imports, api.Import{Type: 99})
	m.Funcs = roomy(cloneAll(m.Funcs, roomyFunc), api.Func{Type: 99})
	m.Globals = roomy(m.Globals, api.Global{Kind: 99})
	m.Exports = roomy(m.Exports, api.Export{Func: 99})
	m.Elems = roomy(cloneAll(m.Elems, func(e api.Elem) api.Elem { return api.Elem{At: e.At, Funcs: roomy(e.Funcs, 99)} }), api.Elem{At: 99})
	m.Data = roomy(m.Data, api.Data{At: 99})
	return m
}

func roomyImage(x api.Image) api.Image {
	return api.Image{Mem: x.Mem, Table: roomy(x.Table, 99), Globals: roomy(x.Globals, 99)}
}

// unroomyModule is m with the room behind each list as a part of it.
func unroomyModule(m api.Module) api.Module {
	m.Types = cloneAll(wide(m.Types), func(s api.Sig) api.Sig { return api.Sig{In: wide(s.In), Out: wide(s.Out)} })
	m.Imports, m.Globals, m.Exports, m.Data = wide(m.Imports), wide(m.Globals), wide(m.Exports), wide(m.Data)
	m.Funcs = cloneAll(wide(m.Funcs), func(f api.Func) api.Func {
		body := cloneAll(wide(f.Body), func(x api.Ins) api.Ins {
			x.To = wide(x.To)
			return x
		})
		return api.Func{Type: f.Type, Locals: wide(f.Locals), Body: body}
	})
	m.Elems = cloneAll(wide(m.Elems), func(e api.Elem) api.Elem { return api.Elem{At: e.At, Funcs: wide(e.Funcs)} })
	return m
}

func unroomyImage(x api.Image) api.Image {
	return api.Image{Mem: x.Mem, Table: wide(x.Table), Globals: wide(x.Globals)}
}

// P2: what is handed in is as it was, the room behind lists included.
func TestHandedIn(t *testing.T) {
	d := dice(577215664901532)
	modules := []api.Module{stage(), {}}
	for range 300 {
		modules = append(modules, d.spoilt())
	}
	for _, m := range wrongs() {
		modules = append(modules, m)
	}
	for _, m := range modules {
		x := stageImage()
		given, image := roomyModule(m), roomyImage(x)
		inst.Make(given)
		inst.Fits(given, image)
		if !reflect.DeepEqual(unroomyModule(given), unroomyModule(roomyModule(m))) {
			t.Fatalf("%v has become %v", m, given)
		}
		if !reflect.DeepEqual(unroomyImage(image), unroomyImage(roomyImage(x))) {
			t.Fatalf("%v has become %v", x, image)
		}
	}
}

// P2: what is answered shares no memory with the module, nor with what is answered next, whatever is done to it.
func TestAnswered(t *testing.T) {
	m := roomyModule(stage())
	first, _ := inst.Make(m)
	second, _ := inst.Make(m)
	for at := range wide(first.Table) {
		wide(first.Table)[at] = 77
	}
	for at := range wide(first.Globals) {
		wide(first.Globals)[at] = 77
	}
	if !sameImage(second, stageImage()) {
		t.Errorf("%v shares memory with the first one", second)
	}
	if !reflect.DeepEqual(unroomyModule(m), unroomyModule(roomyModule(stage()))) {
		t.Error("the module has changed")
	}
	makes(t, "a third time", m, stageImage())
}

// P2: what was answered is not that of a module that has changed since.
func TestKept(t *testing.T) {
	m := stage()
	m.Elems = []api.Elem{{At: 0, Funcs: []int{0, 1, 2, 3, 4, 0}}}
	x, _ := inst.Make(m)
	clear(m.Elems[0].Funcs)
	clear(m.Elems)
	clear(m.Globals)
	clear(m.Data)
	if !slices.Equal(x.Table, []int{0, 1, 2, 3, 4, 0}) || x.Mem != stageImage().Mem || !slices.Equal(x.Globals, stageImage().Globals) {
		t.Errorf("%v has changed with its module", x)
	}
}

// P2: what a call answers hangs on nothing that was asked ahead of it.
func TestNothingIsKept(t *testing.T) {
	other := changed(func(m *api.Module) { m.Data[1].At, m.Table, m.Elems, m.Globals = 0, 2, nil, nil })
	for range 3 {
		makes(t, "stage", stage(), stageImage())
		makes(t, "another one", other, api.Image{Mem: "overi" + zeros(507), Table: []int{-1, -1}})
		fit(t, "that of stage", other, stageImage(), false)
		fails(t, "one that doesn't fit", changed(func(m *api.Module) { m.Data[1].At = 510 }), api.ErrBounds)
	}
}
