package valid_test

import (
	"math"
	"slices"
	"strconv"
	"strings"
	"testing"

	"troupe/api"
	"troupe/valid"
)

// headIs holds Head against an error, and with it all calls that ask Head first.
func headIs(t *testing.T, what string, m api.Module, want api.Errno) {
	t.Helper()
	if got := valid.Head(m); got != want {
		t.Errorf("%s: Head is %d, not %d", what, got, want)
	}
	if want == api.OK {
		return
	}
	if got := valid.Module(m); got != want {
		t.Errorf("%s: Module is %d, not %d", what, got, want)
	}
	for _, at := range []int{0, 1, -1, 99} {
		if place, err := valid.Func(m, at); place != 0 || err != want {
			t.Errorf("%s: Func of %d is %d, %d, not 0, %d", what, at, place, err, want)
		}
		if shapes, err := valid.Shapes(m, at); shapes != nil || err != want {
			t.Errorf("%s: Shapes of %d is %v, %d, not %d", what, at, shapes, err, want)
		}
	}
}

// changed is stage with a change.
func changed(change func(m *api.Module)) api.Module {
	m := stage()
	change(&m)
	return m
}

// P18: what may be.
func TestHeadSound(t *testing.T) {
	headIs(t, "nothing", api.Module{}, api.OK)
	headIs(t, "something of everything", stage(), api.OK)
	for what, change := range map[string]func(m *api.Module){
		"the last type":                      func(m *api.Module) { m.Imports[0].Type, m.Funcs[2].Type = 5, 5 },
		"no memory and no data":              func(m *api.Module) { m.Pages, m.Most, m.Data = 0, 0, nil },
		"an empty memory that may grow":      func(m *api.Module) { m.Pages, m.Most = 0, 1 },
		"no table and no elems":              func(m *api.Module) { m.Table, m.Elems = 0, nil },
		"elems that do not fit":              func(m *api.Module) { m.Elems[0].At = 16 },
		"data that do not fit":               func(m *api.Module) { m.Data[0].At = 100000 },
		"no start":                           func(m *api.Module) { m.Start = 0 },
		"a start from outside":               func(m *api.Module) { m.Start, m.Imports[0].Type = 1, typeNothing },
		"the last one as start":              func(m *api.Module) { m.Start, m.Funcs[2].Type = 5, typeNothing },
		"a start that isn't sound":           func(m *api.Module) { m.Funcs[0].Body = body("drop") },
		"bodies that aren't sound":           func(m *api.Module) { m.Funcs[1].Body, m.Funcs[2].Body = body("br 9"), body("int") },
		"one function under many names":      func(m *api.Module) { m.Exports[0].Func, m.Exports[1].Func = 4, 4 },
		"names that begin alike":             func(m *api.Module) { m.Exports[0].Name, m.Exports[1].Name = "ab", "a" },
		"names in other letters":             func(m *api.Module) { m.Exports[0].Name, m.Exports[1].Name = "ab", "aB" },
		"two from outside with one name":     func(m *api.Module) { m.Imports[0].Name, m.Imports[1].Name = "a", "a" },
		"a name from outside, and shown":     func(m *api.Module) { m.Exports[0].Name = "both" },
		"a function twice in an elem":        func(m *api.Module) { m.Elems[0].Funcs = []int{1, 1, 0, 0} },
		"a type that nobody has":             func(m *api.Module) { m.Types = append(m.Types, api.Sig{In: kinds(i64)}) },
		"a body that names what isn't there": func(m *api.Module) { m.Funcs[0].Body = body("call 5, get 0, gget 4, 40 9") },
	} {
		headIs(t, what, changed(change), api.OK)
	}
}

// P18: how many are there, at the edge and beyond: of numbers of types and of functions.
func TestHeadNumbers(t *testing.T) {
	for _, c := range []struct {
		what  string
		count int
		set   func(m *api.Module, n int)
	}{
		{"type of the first import", 6, func(m *api.Module, n int) { m.Imports[0].Type = n }},
		{"type of the second import", 6, func(m *api.Module, n int) { m.Imports[1].Type = n }},
		{"type of the second function", 6, func(m *api.Module, n int) { m.Funcs[1].Type = n }},
		{"type of the last function", 6, func(m *api.Module, n int) { m.Funcs[2].Type = n }},
		{"the first export", 5, func(m *api.Module, n int) { m.Exports[0].Func = n }},
		{"the last export", 5, func(m *api.Module, n int) { m.Exports[2].Func = n }},
		{"the first of an elem", 5, func(m *api.Module, n int) { m.Elems[0].Funcs[0] = n }},
		{"the last of an elem", 5, func(m *api.Module, n int) { m.Elems[0].Funcs[1] = n }},
		{"one of the last elem", 5, func(m *api.Module, n int) { m.Elems[1].Funcs = []int{0, n} }},
		{"the only one of the last elem", 5, func(m *api.Module, n int) { m.Elems[1].Funcs = []int{n} }},
		{"type of the start", 1, func(m *api.Module, n int) {
			if n > 0 {
				n += 5
			}
			m.Funcs[0].Type = n
		}},
	} {
		for n := range c.count {
			headIs(t, c.what, changed(func(m *api.Module) { c.set(m, n) }), api.OK)
		}
		for _, n := range []int{c.count, c.count + 1, 17, 127, 1 << 20, 1 << 31, math.MaxUint32 - 5} {
			headIs(t, c.what+" "+strconv.Itoa(n), changed(func(m *api.Module) { c.set(m, n) }), api.ErrIndex)
		}
		for _, n := range []int{-1, -7, math.MinInt, math.MaxInt - 9, 1 << 32} {
			headIs(t, c.what+" "+strconv.Itoa(n), changed(func(m *api.Module) { c.set(m, n) }), api.ErrArg)
		}
	}
}

// P18: functions are numbered from those outside on, and there need be none of either.
func TestHeadCounting(t *testing.T) {
	for imports := range 17 {
		for funcs := range 17 {
			m := api.Module{Types: make([]api.Sig, 1), Table: 1}
			m.Imports = make([]api.Import, imports)
			m.Funcs = slices.Repeat([]api.Func{{Body: body("")}}, funcs)
			for n := range 35 {
				want := api.ErrIndex
				if n < imports+funcs {
					want = api.OK
				}
				m.Exports, m.Elems, m.Start = []api.Export{{Func: n}}, nil, 0
				headIs(t, "export", m, want)
				m.Exports, m.Elems, m.Start = nil, []api.Elem{{Funcs: []int{n}}}, 0
				headIs(t, "elem", m, want)
				m.Exports, m.Elems, m.Start = nil, nil, n+1
				headIs(t, "start", m, want)
			}
		}
	}
}

// P18: with which function a module may begin.
func TestHeadStart(t *testing.T) {
	for n, want := range []api.Errno{api.OK, api.ErrType, api.ErrType, api.OK, api.ErrType, api.ErrType, api.ErrIndex, api.ErrIndex} {
		headIs(t, "start "+strconv.Itoa(n), changed(func(m *api.Module) { m.Start = n }), want)
	}
	headIs(t, "the largest start", changed(func(m *api.Module) { m.Start = math.MaxUint32 }), api.ErrIndex)
	headIs(t, "a start below 0", changed(func(m *api.Module) { m.Start = -1 }), api.ErrArg)
	for number, s := range stage().Types {
		want := api.ErrType
		if len(s.In) == 0 && len(s.Out) == 0 {
			want = api.OK
		}
		headIs(t, "own start", changed(func(m *api.Module) { m.Start, m.Funcs[1].Type = 4, number }), want)
		headIs(t, "start from outside", changed(func(m *api.Module) { m.Start, m.Imports[1].Type = 2, number }), want)
	}
	headIs(t, "a start that takes", changed(func(m *api.Module) { m.Types[0].In = kinds(i32) }), api.ErrType)
	headIs(t, "a start that gives", changed(func(m *api.Module) { m.Types[0].Out = kinds(i64) }), api.ErrType)
}

// P18: a table and a memory must be there, even if nothing is put into them.
func TestHeadParts(t *testing.T) {
	headIs(t, "no table", changed(func(m *api.Module) { m.Table = 0 }), api.ErrIndex)
	headIs(t, "no table, an empty elem", changed(func(m *api.Module) { m.Table, m.Elems = 0, make([]api.Elem, 1) }), api.ErrIndex)
	headIs(t, "a small table", changed(func(m *api.Module) { m.Table = 1 }), api.OK)
	headIs(t, "no memory", changed(func(m *api.Module) { m.Pages, m.Most = 0, 0 }), api.ErrIndex)
	headIs(t, "no memory, empty data", changed(func(m *api.Module) { m.Pages, m.Most, m.Data = 0, 0, make([]api.Data, 1) }), api.ErrIndex)
	headIs(t, "pages without most", changed(func(m *api.Module) { m.Most = 0 }), api.ErrArg)
}

// P18: each export is held against all that are ahead of it.
func TestHeadNames(t *testing.T) {
	names := strings.Split("a b c d e f g ", " ")
	for first := range names {
		for second := range names {
			m := stage()
			m.Exports = nil
			for _, name := range names {
				m.Exports = append(m.Exports, api.Export{Name: name})
			}
			want := api.OK
			if first != second {
				m.Exports[first].Name, want = m.Exports[second].Name, api.ErrName
			}
			headIs(t, "names", m, want)
			for at := range names {
				m.Exports[at].Func = 5
				later := max(first, second)
				if want == api.ErrName && at > later {
					headIs(t, "a name, then a function", m, api.ErrName)
				} else {
					headIs(t, "a function, then a name", m, api.ErrIndex)
				}
				m.Exports[at].Func = 0
			}
		}
	}
}

// fault spoils one part of a module.
type fault struct {
	what  string
	want  api.Errno
	spoil func(m *api.Module)
}

// headFaults are told in the order in which Head comes to them; none undoes one that is ahead of it.
func headFaults() []fault {
	return []fault{
		{"kind of a type", api.ErrArg, func(m *api.Module) { m.Types[3].In[1] = 64 }},
		{"a body", api.ErrShort, func(m *api.Module) { m.Funcs[1].Body = nil }},
		{"bytes", api.ErrLarge, func(m *api.Module) { m.Data[1].Bytes = strings.Repeat("a", 65) }},
		{"type of an import", api.ErrIndex, func(m *api.Module) { m.Imports[1].Type = 6 }},
		{"type of a function", api.ErrIndex, func(m *api.Module) { m.Funcs[2].Type = 6 }},
		{"the first export", api.ErrIndex, func(m *api.Module) { m.Exports[0].Func = 5 }},
		{"name of the second export", api.ErrName, func(m *api.Module) { m.Exports[1].Name = m.Exports[0].Name }},
		{"the third export", api.ErrIndex, func(m *api.Module) { m.Exports[2].Func = 5 }},
		{"name of the third export", api.ErrName, func(m *api.Module) { m.Exports[2].Name = m.Exports[0].Name }},
		{"start that isn't there", api.ErrIndex, func(m *api.Module) { m.Start = 6 }},
		{"start that gives something", api.ErrType, func(m *api.Module) { m.Start = 4 }},
		{"elems without a table", api.ErrIndex, func(m *api.Module) { m.Table = 0 }},
		{"function of an elem", api.ErrIndex, func(m *api.Module) { m.Elems[0].Funcs[0] = 5 }},
		{"data without a memory", api.ErrIndex, func(m *api.Module) { m.Pages, m.Most = 0, 0 }},
	}
}

// P18: in this order: of any two faults the first one is told; and every one ahead of what bodies do.
func TestHeadOrder(t *testing.T) {
	all := headFaults()
	for i, first := range all {
		m := stage()
		first.spoil(&m)
		headIs(t, first.what, m, first.want)
		m = stage()
		m.Funcs[0].Body = body("40 9, drop")
		first.spoil(&m)
		headIs(t, first.what+" and a body", m, first.want)
		for _, second := range all[i+1:] {
			m := stage()
			second.spoil(&m)
			first.spoil(&m)
			headIs(t, first.what+" and "+second.what, m, first.want)
		}
	}
}
