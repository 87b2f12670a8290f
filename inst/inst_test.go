package inst_test

import (
	"math"
	"slices"
	"strconv"
	"strings"
	"testing"

	"troupe/api"
	"troupe/inst"
	"troupe/valid"
)

// makes holds Make of a module against what it has at first, which must fit.
func makes(t *testing.T, what string, m api.Module, want api.Image) {
	t.Helper()
	got, err := inst.Make(m)
	if err != api.OK || !sameImage(got, want) {
		t.Errorf("%s: %v, %d, not %v", what, got, err, want)
	}
	if err := inst.Fits(m, got); err != api.OK {
		t.Errorf("%s: what is there at first doesn't fit: %d", what, err)
	}
}

// fails holds Make of a module against an error.
func fails(t *testing.T, what string, m api.Module, want api.Errno) {
	t.Helper()
	if got, err := inst.Make(m); err != want || !isEmpty(got) {
		t.Errorf("%s: %v, %d, not %d", what, got, err, want)
	}
}

// P25: what an instance has at first.
func TestMake(t *testing.T) {
	makes(t, "nothing", api.Module{}, api.Image{})
	makes(t, "something of everything", stage(), stageImage())
	makes(t, "a memory alone", api.Module{Pages: 1, Most: 1}, api.Image{Mem: zeros(256)})
	makes(t, "a memory that may grow", api.Module{Most: 8}, api.Image{})
	makes(t, "pages at first, not at most", api.Module{Pages: 3, Most: 8}, api.Image{Mem: zeros(768)})
	makes(t, "a table alone", api.Module{Table: 2}, api.Image{Table: []int{-1, -1}})
	makes(t, "a global alone", api.Module{Globals: []api.Global{{Kind: i32, Start: -9}}}, api.Image{Globals: []int64{-9}})
}

// P25: all sizes of memories and tables.
func TestMakeSizes(t *testing.T) {
	for most := range api.MaxPages + 1 {
		for pages := range most + 1 {
			makes(t, "memory", api.Module{Pages: pages, Most: most}, api.Image{Mem: zeros(256 * pages)})
		}
	}
	for places := range api.MaxTable + 1 {
		makes(t, "table", api.Module{Table: places}, api.Image{Table: slices.Repeat([]int{-1}, places)})
	}
}

// P25: globals begin at their Start, whatever their kind, and whether they are Mut or not.
func TestMakeGlobals(t *testing.T) {
	var m api.Module
	var want []int64
	for _, n := range []int64{0, -1, math.MinInt32, math.MaxInt32} {
		m.Globals = append(m.Globals, api.Global{Kind: i32, Start: n}, api.Global{Kind: i32, Mut: true, Start: n})
		want = append(want, n, n)
	}
	makes(t, "I32", m, api.Image{Globals: want})
	m, want = api.Module{}, nil
	for _, n := range []int64{1, -1 << 32, math.MinInt64, math.MaxInt64} {
		m.Globals = append(m.Globals, api.Global{Kind: i64, Mut: true, Start: n}, api.Global{Kind: i64, Start: n})
		want = append(want, n, n)
	}
	makes(t, "I64", m, api.Image{Globals: want})
}

// P25: of Data that lie over one another the last one is seen.
func TestMakeDataOver(t *testing.T) {
	m := api.Module{Pages: 1, Most: 2}
	m.Data = []api.Data{{At: 0, Bytes: "abcdef"}, {At: 1, Bytes: "XYZ"}, {At: 2, Bytes: "\x00"}, {At: 5, Bytes: "!?"}}
	makes(t, "four", m, api.Image{Mem: "aX\x00Ze!?" + zeros(249)})
	slices.Reverse(m.Data)
	makes(t, "the other way round", m, api.Image{Mem: "abcdef?" + zeros(249)})
	m.Data = []api.Data{{At: 9}, {At: 9, Bytes: "\xff\x80"}, {At: 10}}
	makes(t, "nothing over something", m, api.Image{Mem: zeros(9) + "\xff\x80" + zeros(245)})
}

// P25: of Elems that lie over one another the last one is seen.
func TestMakeElemsOver(t *testing.T) {
	m := stage()
	m.Elems = []api.Elem{{At: 0, Funcs: []int{0, 1, 2, 3}}, {At: 1, Funcs: []int{4, 4}}, {At: 2, Funcs: []int{0}}, {At: 3}}
	want := stageImage()
	want.Table = []int{0, 4, 0, 3, -1, -1}
	makes(t, "four", m, want)
	slices.Reverse(m.Elems)
	want.Table = []int{0, 1, 2, 3, -1, -1}
	makes(t, "the other way round", m, want)
}

// P25: each function of the module, from outside or its own, may stand in each place.
func TestMakeEachFunction(t *testing.T) {
	for number := range 5 {
		for place := range 6 {
			m, want := stage(), stageImage()
			m.Elems = []api.Elem{{At: place, Funcs: []int{number}}}
			want.Table = slices.Repeat([]int{-1}, 6)
			want.Table[place] = number
			makes(t, "function "+strconv.Itoa(number), m, want)
		}
	}
}

// places are where parts may begin, for a list of so many: around its beginning and its end, and far off; those below 0 are so without a sign.
func places(length int) []int {
	all := []int{math.MinInt32, math.MinInt32 + 1, math.MinInt32 + length, -65536, -256, -64, -16, -2, -1,
		1 << 16, 1 << 30, math.MaxInt32 - 64, math.MaxInt32 - 1, math.MaxInt32}
	for near := -70; near <= 70; near++ {
		all = append(all, length+near)
	}
	for at := range 70 {
		all = append(all, at)
	}
	return all
}

// P25: Data fit, if all their bytes lie in the pages that are there at first.
func TestMakeDataBounds(t *testing.T) {
	fit := 0
	for pages := range 9 {
		for _, at := range places(256 * pages) {
			for _, count := range []int{0, 1, 2, 63, 64} {
				m := api.Module{Pages: pages, Most: 8}
				bytes := strings.Repeat("\xab", count)
				m.Data = []api.Data{{At: at, Bytes: bytes}}
				if at < 0 || at+count > 256*pages {
					fails(t, "Data at "+strconv.Itoa(at), m, api.ErrBounds)
					continue
				}
				fit++
				makes(t, "Data at "+strconv.Itoa(at), m, api.Image{Mem: zeros(at) + bytes + zeros(256*pages-at-count)})
			}
		}
	}
	if fit < 1000 {
		t.Errorf("only %d fit", fit)
	}
}

// P25: Elems fit, if all their functions lie in the table.
func TestMakeElemsBounds(t *testing.T) {
	for length := 1; length <= 16; length++ {
		for _, at := range places(length) {
			for count := range 17 {
				m := api.Module{Types: make([]api.Sig, 1), Imports: make([]api.Import, 1), Table: length}
				m.Elems = []api.Elem{{At: at, Funcs: make([]int, count)}}
				if at < 0 || at+count > length {
					fails(t, "Elems at "+strconv.Itoa(at), m, api.ErrBounds)
					continue
				}
				want := slices.Repeat([]int{-1}, length)
				clear(want[at : at+count])
				makes(t, "Elems at "+strconv.Itoa(at), m, api.Image{Table: want})
			}
		}
	}
}

// P25: each one must fit, not the first one alone, nor the last one.
func TestMakeEachMustFit(t *testing.T) {
	for spoilt := range 4 {
		m := stage()
		m.Data = slices.Repeat([]api.Data{{At: 510, Bytes: "ab"}}, 4)
		m.Elems = slices.Repeat([]api.Elem{{At: 4, Funcs: []int{1, 1}}}, 4)
		want := api.Image{Mem: zeros(510) + "ab", Table: []int{-1, -1, -1, -1, 1, 1}, Globals: stageImage().Globals}
		makes(t, "all fit", m, want)
		m.Data[spoilt].At = 511
		fails(t, "one of Data", m, api.ErrBounds)
		m.Elems[spoilt].At = 5
		fails(t, "one of both", m, api.ErrBounds)
		m.Data[spoilt].At = 510
		fails(t, "one of Elems", m, api.ErrBounds)
	}
}

// P25: even what has nothing must not begin behind the end.
func TestMakeEmptyParts(t *testing.T) {
	m := changed(func(m *api.Module) { m.Data, m.Elems = []api.Data{{At: 512}}, []api.Elem{{At: 6}} })
	makes(t, "at the end", m, api.Image{Mem: zeros(512), Table: slices.Repeat([]int{-1}, 6), Globals: stageImage().Globals})
	m.Data[0].At = 513
	fails(t, "Data behind the end", m, api.ErrBounds)
	m.Data[0].At, m.Elems[0].At = -1, 6
	fails(t, "Data far behind the end", m, api.ErrBounds)
	m.Data[0].At, m.Elems[0].At = 512, 7
	fails(t, "Elems behind the end", m, api.ErrBounds)
	m.Elems[0].At = -1
	fails(t, "Elems far behind the end", m, api.ErrBounds)
	makes(t, "no page yet", api.Module{Most: 1, Data: make([]api.Data, 1)}, api.Image{})
	fails(t, "a byte, no page yet", api.Module{Most: 1, Data: []api.Data{{Bytes: "a"}}}, api.ErrBounds)
}

// P25, P26: an error of valid.Module comes first, and beside it there is nothing.
func TestErrors(t *testing.T) {
	for want, m := range wrongs() {
		if err := valid.Module(m); err != want {
			t.Fatalf("the test's module is %d, not %d", err, want)
		}
		fails(t, "a wrong module", m, want)
		for _, x := range []api.Image{stageImage(), {}, {Mem: "a"}} {
			if err := inst.Fits(m, x); err != want {
				t.Errorf("Fits: %d, not %d", err, want)
			}
		}
		m.Data, m.Elems = []api.Data{{At: -1}}, []api.Elem{{At: -1}}
		fails(t, "a wrong module with parts that do not fit", m, want)
	}
	// An At that is no I32 is the module's own error, whatever its lowest bits are.
	for _, at := range []int{1 << 32, -1 << 32, math.MaxInt32 + 1, math.MinInt32 - 1, math.MaxInt, math.MinInt} {
		fails(t, "Data", changed(func(m *api.Module) { m.Data[0].At = at }), api.ErrArg)
		fails(t, "Elems", changed(func(m *api.Module) { m.Elems[0].At = at }), api.ErrArg)
	}
	fails(t, "Data without a memory", changed(func(m *api.Module) { m.Pages, m.Most = 0, 0 }), api.ErrIndex)
	fails(t, "Elems without a table", changed(func(m *api.Module) { m.Table = 0 }), api.ErrIndex)
}
