package bin_test

import (
	"math"
	"slices"
	"strings"
	"testing"

	"troupe/api"
	"troupe/bin"
)

// refusedByCheck holds Check, and Write with it, against an error.
func refusedByCheck(t *testing.T, what string, m api.Module, want api.Errno) {
	t.Helper()
	if got := bin.Check(m); got != want {
		t.Errorf("%s: Check is %d, not %d", what, got, want)
	}
	if want == api.OK {
		return
	}
	if s, err := bin.Write(m); s != "" || err != want {
		t.Errorf("%s: Write is %x, %d, not %d", what, s, err, want)
	}
}

// ofKinds is a module of one type with these.
func ofKinds(in, out []api.Kind) api.Module {
	return api.Module{Types: []api.Sig{{In: in, Out: out}}}
}

func kinds(n int) []api.Kind {
	return slices.Repeat([]api.Kind{api.I32}, n)
}

func funcs(n int) []api.Func {
	return slices.Repeat([]api.Func{{Body: body()}}, n)
}

// P15: how many there may be.
func TestCheckCounts(t *testing.T) {
	for _, c := range []struct {
		what string
		most int
		make func(n int) api.Module
	}{
		{"types", 16, func(n int) api.Module { return api.Module{Types: make([]api.Sig, n)} }},
		{"in", 4, func(n int) api.Module { return ofKinds(kinds(n), nil) }},
		{"out", 1, func(n int) api.Module { return ofKinds(nil, kinds(n)) }},
		{"imports", 16, func(n int) api.Module { return api.Module{Imports: make([]api.Import, n)} }},
		{"a name from outside", 16, func(n int) api.Module {
			return api.Module{Imports: []api.Import{{Name: strings.Repeat("a", n)}}}
		}},
		{"funcs", 16, func(n int) api.Module { return api.Module{Funcs: funcs(n)} }},
		{"locals", 16, func(n int) api.Module { return api.Module{Funcs: []api.Func{{Locals: kinds(n), Body: body()}}} }},
		{"a body", 200, func(n int) api.Module {
			return api.Module{Funcs: []api.Func{{Body: body(slices.Repeat([]byte{1}, max(n-1, 0))...)}}}
		}},
		{"table", 16, func(n int) api.Module { return api.Module{Table: n} }},
		{"most", 8, func(n int) api.Module { return api.Module{Most: n} }},
		{"pages and most", 8, func(n int) api.Module { return api.Module{Pages: n, Most: n} }},
		{"globals", 8, func(n int) api.Module {
			return api.Module{Globals: slices.Repeat([]api.Global{{Kind: api.I64}}, n)}
		}},
		{"exports", 8, func(n int) api.Module { return api.Module{Exports: make([]api.Export, n)} }},
		{"a name that is shown", 16, func(n int) api.Module {
			return api.Module{Exports: []api.Export{{Name: strings.Repeat("a", n)}}}
		}},
		{"elems", 4, func(n int) api.Module { return api.Module{Elems: make([]api.Elem, n)} }},
		{"an elem's funcs", 16, func(n int) api.Module { return api.Module{Elems: []api.Elem{{Funcs: make([]int, n)}}} }},
		{"data", 4, func(n int) api.Module { return api.Module{Data: make([]api.Data, n)} }},
		{"bytes", 64, func(n int) api.Module { return api.Module{Data: []api.Data{{Bytes: strings.Repeat("\xff", n)}}} }},
	} {
		for _, n := range []int{0, 1, c.most - 1, c.most} {
			refusedByCheck(t, c.what, c.make(n), api.OK)
		}
		for _, n := range []int{c.most + 1, c.most + 2, 2 * c.most, 1000} {
			if n > c.most {
				refusedByCheck(t, c.what, c.make(n), api.ErrLarge)
			}
		}
	}
}

// P15: numbers that must be in their bounds.
func TestCheckNumbers(t *testing.T) {
	unsigned := []int{0, 1, 127, 1 << 31, math.MaxUint32}
	signed := []int{math.MinInt32, -1, 0, 1, math.MaxInt32}
	for _, c := range []struct {
		what string
		good []int
		make func(n int) api.Module
	}{
		{"type of an import", unsigned, func(n int) api.Module { return api.Module{Imports: []api.Import{{Type: n}}} }},
		{"type of a function", unsigned, func(n int) api.Module { return api.Module{Funcs: []api.Func{{Type: n, Body: body()}}} }},
		{"export", unsigned, func(n int) api.Module { return api.Module{Exports: []api.Export{{Func: n}}} }},
		{"start", unsigned, func(n int) api.Module { return api.Module{Start: n} }},
		{"function of an elem", unsigned, func(n int) api.Module { return api.Module{Elems: []api.Elem{{Funcs: []int{5, n}}}} }},
		{"elem", signed, func(n int) api.Module { return api.Module{Elems: []api.Elem{{At: n}}} }},
		{"data", signed, func(n int) api.Module { return api.Module{Data: []api.Data{{At: n}}} }},
		{"global", signed, func(n int) api.Module {
			return api.Module{Globals: []api.Global{{Kind: api.I32, Start: int64(n)}}}
		}},
	} {
		for _, n := range c.good {
			refusedByCheck(t, c.what, c.make(n), api.OK)
		}
		last := len(c.good) - 1
		for _, n := range []int{c.good[0] - 1, c.good[last] + 1, math.MinInt, math.MaxInt, 1 << 40, -1 << 40} {
			refusedByCheck(t, c.what, c.make(n), api.ErrArg)
		}
	}
	for _, n := range []int64{math.MinInt64, math.MinInt32 - 1, 0, math.MaxInt32 + 1, math.MaxInt64} {
		refusedByCheck(t, "global of 64 bits", api.Module{Globals: []api.Global{{Kind: api.I64, Start: n}}}, api.OK)
	}
}

// P15: every byte as a kind.
func TestCheckKinds(t *testing.T) {
	for b := range 256 {
		kind, want := api.Kind(b), api.ErrArg
		if b == 126 || b == 127 {
			want = api.OK
		}
		refusedByCheck(t, "in", ofKinds([]api.Kind{127, kind}, nil), want)
		refusedByCheck(t, "out", ofKinds(nil, []api.Kind{kind}), want)
		refusedByCheck(t, "local", api.Module{Funcs: []api.Func{{Locals: []api.Kind{126, kind}, Body: body()}}}, want)
		refusedByCheck(t, "global", api.Module{Globals: []api.Global{{Kind: kind}}}, want)
	}
}

// P15: what hangs on more than one number, and what other packages say.
func TestCheckByHand(t *testing.T) {
	for _, c := range []struct {
		what string
		m    api.Module
		want api.Errno
	}{
		{"nothing", api.Module{}, api.OK},
		{"something of everything", full(), api.OK},
		{"pages without most", api.Module{Pages: 1}, api.ErrArg},
		{"pages above most", api.Module{Pages: 4, Most: 3}, api.ErrArg},
		{"pages below most", api.Module{Pages: 3, Most: 4}, api.OK},
		{"no pages at first", api.Module{Most: 8}, api.OK},
		{"pages below 0", api.Module{Pages: -1, Most: 4}, api.ErrArg},
		{"pages below 0, most too large", api.Module{Pages: -1, Most: 9}, api.ErrArg},
		{"pages above most, most too large", api.Module{Pages: 10, Most: 9}, api.ErrArg},
		{"pages at most, most too large", api.Module{Pages: 9, Most: 9}, api.ErrLarge},
		{"most below 0", api.Module{Most: -1}, api.ErrArg},
		{"both below 0", api.Module{Pages: -2, Most: -1}, api.ErrArg},
		{"both the least", api.Module{Pages: math.MinInt, Most: math.MinInt}, api.ErrArg},
		{"both the most", api.Module{Pages: math.MaxInt, Most: math.MaxInt}, api.ErrLarge},
		{"a table below 0", api.Module{Table: -1}, api.ErrArg},
		{"a table far below 0", api.Module{Table: math.MinInt}, api.ErrArg},
		{"a table far too large", api.Module{Table: math.MaxInt}, api.ErrLarge},
		{"a name from outside that is none", api.Module{Imports: []api.Import{{Name: "\xff"}}}, api.ErrForm},
		{"a long one that is none", api.Module{Imports: []api.Import{{Name: strings.Repeat("\xff", 17)}}}, api.ErrLarge},
		{"a name that is shown and is none", api.Module{Exports: []api.Export{{Name: "a\xc3"}}}, api.ErrForm},
		{"one name twice", api.Module{Exports: []api.Export{{Name: "a"}, {Name: "a"}}}, api.OK},
		{"a body without anything", api.Module{Funcs: []api.Func{{}}}, api.ErrShort},
		{"a body that goes on", api.Module{Funcs: []api.Func{{Body: body(11)}}}, api.ErrForm},
		{"a body too deep", api.Module{Funcs: []api.Func{{Body: body(slices.Repeat([]byte{2}, 13)...)}}}, api.ErrDeep},
		{"no instruction", api.Module{Funcs: []api.Func{{Body: body(6)}}}, api.ErrUnsup},
		{"an instruction that is wrong", api.Module{Funcs: []api.Func{{Body: []api.Ins{{Op: 2}, {Op: 11}, {Op: 11}}}}}, api.ErrArg},
		{"a way with too many", api.Module{Funcs: []api.Func{{Body: []api.Ins{{Op: 14, To: make([]int64, 17)}}}}}, api.ErrLarge},
		{"the last function wrong", api.Module{Funcs: append(funcs(15), api.Func{})}, api.ErrShort},
		{"functions that are not there", api.Module{Exports: []api.Export{{Func: 9}}, Start: 9, Elems: []api.Elem{{Funcs: []int{9}}}}, api.OK},
		{"data without a memory", api.Module{Data: []api.Data{{At: 1, Bytes: "a"}}}, api.OK},
	} {
		refusedByCheck(t, c.what, c.m, c.want)
	}
}

// fault spoils one part of a module.
type fault struct {
	what  string
	want  api.Errno
	spoil func(m *api.Module)
}

// upToSize is list with as many more behind it as are wanted.
func upToSize[T any](list []T, n int, x T) []T {
	for len(list) < n {
		list = append(list, x)
	}
	return list
}

// faults are told in the order in which Check comes to them; none undoes another one.
func faults() []fault {
	return []fault{
		{"types", api.ErrLarge, func(m *api.Module) { m.Types = upToSize(m.Types, 17, api.Sig{}) }},
		{"in", api.ErrLarge, func(m *api.Module) { m.Types[0].In = upToSize(m.Types[0].In, 5, 127) }},
		{"kind of in", api.ErrArg, func(m *api.Module) { m.Types[0].In[1] = 64 }},
		{"out", api.ErrLarge, func(m *api.Module) { m.Types[0].Out = upToSize(m.Types[0].Out, 2, 127) }},
		{"kind of out", api.ErrArg, func(m *api.Module) { m.Types[0].Out[0] = 0 }},
		{"in of the second", api.ErrLarge, func(m *api.Module) { m.Types[1].In = kinds(5) }},
		{"kind of the third", api.ErrArg, func(m *api.Module) { m.Types[2].Out[0] = 125 }},
		{"imports", api.ErrLarge, func(m *api.Module) { m.Imports = upToSize(m.Imports, 17, api.Import{}) }},
		{"name of an import", api.ErrForm, func(m *api.Module) { m.Imports[0].Name = "\x80" }},
		{"type of an import", api.ErrArg, func(m *api.Module) { m.Imports[0].Type = -1 }},
		{"name of the second", api.ErrLarge, func(m *api.Module) { m.Imports[1].Name = strings.Repeat("a", 17) }},
		{"funcs", api.ErrLarge, func(m *api.Module) { m.Funcs = upToSize(m.Funcs, 17, api.Func{}) }},
		{"type of a function", api.ErrArg, func(m *api.Module) { m.Funcs[0].Type = 1 << 32 }},
		{"locals", api.ErrLarge, func(m *api.Module) { m.Funcs[0].Locals = upToSize(m.Funcs[0].Locals, 17, 126) }},
		{"kind of a local", api.ErrArg, func(m *api.Module) { m.Funcs[0].Locals[2] = 64 }},
		{"a body", api.ErrUnsup, func(m *api.Module) { m.Funcs[0].Body[0].Op = 255 }},
		{"the second body", api.ErrShort, func(m *api.Module) { m.Funcs[1].Body = body()[:0] }},
		{"table", api.ErrLarge, func(m *api.Module) { m.Table = 17 }},
		{"pages", api.ErrArg, func(m *api.Module) { m.Pages = 9 - 2*m.Most }},
		{"most", api.ErrLarge, func(m *api.Module) { m.Most = 9 }},
		{"globals", api.ErrLarge, func(m *api.Module) { m.Globals = upToSize(m.Globals, 9, api.Global{Kind: 127}) }},
		{"kind of a global", api.ErrArg, func(m *api.Module) { m.Globals[1].Kind = 64 }},
		{"exports", api.ErrLarge, func(m *api.Module) { m.Exports = upToSize(m.Exports, 9, api.Export{}) }},
		{"name of an export", api.ErrForm, func(m *api.Module) { m.Exports[0].Name = "\xff" }},
		{"func of an export", api.ErrArg, func(m *api.Module) { m.Exports[0].Func = -1 }},
		{"the second export", api.ErrLarge, func(m *api.Module) { m.Exports[1].Name = strings.Repeat("\xff", 17) }},
		{"start", api.ErrArg, func(m *api.Module) { m.Start = -1 }},
		{"elems", api.ErrLarge, func(m *api.Module) { m.Elems = upToSize(m.Elems, 5, api.Elem{}) }},
		{"at of an elem", api.ErrArg, func(m *api.Module) { m.Elems[0].At = 1 << 31 }},
		{"funcs of an elem", api.ErrLarge, func(m *api.Module) { m.Elems[0].Funcs = upToSize(m.Elems[0].Funcs, 17, 0) }},
		{"func of an elem", api.ErrArg, func(m *api.Module) { m.Elems[0].Funcs[2] = -1 }},
		{"data", api.ErrLarge, func(m *api.Module) { m.Data = upToSize(m.Data, 5, api.Data{}) }},
		{"at of data", api.ErrArg, func(m *api.Module) { m.Data[0].At = -1 << 40 }},
		{"bytes", api.ErrLarge, func(m *api.Module) { m.Data[0].Bytes = strings.Repeat("a", 65) }},
		{"at of the second", api.ErrArg, func(m *api.Module) { m.Data[1].At = 1 << 31 }},
	}
}

// P15: part by part, in the order of the fields: of any two faults the first one is told.
func TestCheckOrder(t *testing.T) {
	all := faults()
	for i, first := range all {
		m := full()
		first.spoil(&m)
		refusedByCheck(t, first.what, m, first.want)
		for _, second := range all[i+1:] {
			m := full()
			second.spoil(&m)
			first.spoil(&m)
			refusedByCheck(t, first.what+" and "+second.what, m, first.want)
		}
	}
}

// P15: every module of the right sizes can be told.
func TestCheckAnything(t *testing.T) {
	d := dice(88172645463325252)
	for range 2000 {
		if m := d.module(); bin.Check(m) != api.OK {
			t.Fatalf("Check of %v is %d", m, bin.Check(m))
		}
	}
}
