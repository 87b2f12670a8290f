package inst_test

import (
	"math"
	"slices"
	"strconv"
	"strings"
	"testing"

	"troupe/api"
	"troupe/inst"
)

// fit holds Fits against whether x may be what an instance of m has.
func fit(t *testing.T, what string, m api.Module, x api.Image, want bool) {
	t.Helper()
	err := api.ErrArg
	if want {
		err = api.OK
	}
	if got := inst.Fits(m, x); got != err {
		t.Errorf("%s: %d, not %d", what, got, err)
	}
}

// P26: what fits is whatever a run may make of it, not only what is there at first.
func TestFits(t *testing.T) {
	fit(t, "nothing", api.Module{}, api.Image{}, true)
	fit(t, "lists without anything", api.Module{}, api.Image{Table: []int{}, Globals: []int64{}}, true)
	fit(t, "at first", stage(), stageImage(), true)
	fit(t, "nothing of something", stage(), api.Image{}, false)
	fit(t, "something of nothing", api.Module{}, stageImage(), false)
	late := api.Image{Mem: strings.Repeat("\xff", 1024), Table: []int{4, 3, 2, 1, 0, -1}, Globals: []int64{-1, -1, -3, -1 << 50}}
	fit(t, "late", stage(), late, true)
	for what, spoil := range map[string]func(x *api.Image){
		"no Mem":     func(x *api.Image) { x.Mem = "" },
		"no Table":   func(x *api.Image) { x.Table = nil },
		"no Globals": func(x *api.Image) { x.Globals = nil },
	} {
		fit(t, what, stage(), changedImage(spoil), false)
	}
}

// P26: Mem is a whole number of pages, from Pages to Most.
func TestFitsMem(t *testing.T) {
	for most := range 9 {
		for pages := range most + 1 {
			m := api.Module{Pages: pages, Most: most}
			for length := 0; length <= 2600; length++ {
				if length > 1 && length%256 > 1 && length%256 < 255 && length%37 != 0 {
					continue
				}
				want := length%256 == 0 && length >= 256*pages && length <= 256*most
				fit(t, strconv.Itoa(length)+" bytes", m, api.Image{Mem: zeros(length)}, want)
			}
			fit(t, "very many bytes", m, api.Image{Mem: zeros(1 << 24)}, false)
		}
	}
}

// P26: with Most 0 Mem is empty.
func TestFitsNoMem(t *testing.T) {
	m := changed(func(m *api.Module) { m.Pages, m.Most, m.Data = 0, 0, nil })
	x := stageImage()
	for _, pages := range []int{1, 2, 3, 4} {
		x.Mem = zeros(256 * pages)
		fit(t, "a memory that isn't there", m, x, false)
	}
	x.Mem = ""
	fit(t, "none", m, x, true)
}

// P26: Table has as many places as the module's.
func TestFitsTableLength(t *testing.T) {
	for places := range 17 {
		for length := range 40 {
			x := api.Image{Table: slices.Repeat([]int{-1}, length)}
			fit(t, strconv.Itoa(length)+" places", api.Module{Table: places}, x, length == places)
		}
	}
}

// P26: in each place of the Table is -1 or the number of a function, from outside or the module's own.
func TestFitsTableNumbers(t *testing.T) {
	numbers := []int{math.MinInt, math.MinInt32, -1 << 32, 1<<32 + 1, 1<<32 - 1, 99, math.MaxInt32, math.MaxInt}
	for n := -6; n <= 40; n++ {
		numbers = append(numbers, n)
	}
	for imports := range 17 {
		for funcs := range 17 {
			m := api.Module{Types: make([]api.Sig, 1), Imports: make([]api.Import, imports), Table: 3}
			m.Funcs = slices.Repeat([]api.Func{{Body: list()}}, funcs)
			for _, n := range numbers {
				for place := range 3 {
					x := api.Image{Table: []int{-1, -1, -1}}
					x.Table[place] = n
					fit(t, "function "+strconv.Itoa(n), m, x, -1 <= n && n < imports+funcs)
				}
			}
		}
	}
}

// P26: Globals are as many as the module's.
func TestFitsGlobalsLength(t *testing.T) {
	for count := range 9 {
		m := api.Module{Globals: slices.Repeat([]api.Global{{Kind: i64, Mut: true}}, count)}
		for length := range 20 {
			fit(t, strconv.Itoa(length)+" globals", m, api.Image{Globals: make([]int64, length)}, length == count)
		}
	}
}

// edges are numbers within I32, at its edges, and beyond.
func edges() []int64 {
	return []int64{math.MinInt64, math.MinInt64 + 1, -1 << 32, -1<<32 + 5, math.MinInt32 - 1, math.MinInt32, math.MinInt32 + 1, -5, -1, 0, 1, 5,
		math.MaxInt32 - 1, math.MaxInt32, math.MaxInt32 + 1, math.MaxUint32, 1 << 32, 1<<32 + 5, 1<<62 - 1, math.MaxInt64 - 1, math.MaxInt64}
}

// P26: a global that is Mut may be any number of its kind, another one its Start alone.
func TestFitsGlobals(t *testing.T) {
	for _, start := range edges() {
		for _, n := range edges() {
			small := math.MinInt32 <= start && start <= math.MaxInt32
			for place := range 3 {
				m := api.Module{Globals: slices.Repeat([]api.Global{{Kind: i64, Mut: true}, {Kind: i32}}, 2)}
				x := api.Image{Globals: make([]int64, 4)}
				x.Globals[place] = n
				m.Globals[place] = api.Global{Kind: i64, Mut: true, Start: start}
				fit(t, "I64 that is Mut", m, x, true)
				m.Globals[place].Mut = false
				fit(t, "I64", m, x, n == start)
				if !small {
					continue
				}
				m.Globals[place] = api.Global{Kind: i32, Mut: true, Start: start}
				fit(t, "I32 that is Mut", m, x, math.MinInt32 <= n && n <= math.MaxInt32)
				m.Globals[place].Mut = false
				fit(t, "I32", m, x, n == start)
			}
		}
	}
}

// P26: nothing is asked beside that: not where parts begin, nor what they put.
func TestFitsParts(t *testing.T) {
	m := changed(func(m *api.Module) { m.Data[0].At, m.Elems[0].At = -1, -1 })
	fails(t, "parts that do not fit", m, api.ErrBounds)
	fit(t, "parts that do not fit", m, stageImage(), true)
	fit(t, "another table", stage(), changedImage(func(x *api.Image) { x.Table = slices.Repeat([]int{3}, 6) }), true)
	fit(t, "another memory", stage(), changedImage(func(x *api.Image) { x.Mem = strings.Repeat("x", 512) }), true)
}

// spoilers are the ways in which an image doesn't fit stage, by its parts.
func spoilers() [][]func(x *api.Image) {
	return [][]func(x *api.Image){
		{
			func(x *api.Image) { x.Mem = x.Mem[1:] },
			func(x *api.Image) { x.Mem += "a" },
			func(x *api.Image) { x.Mem = x.Mem[256:] },
			func(x *api.Image) { x.Mem += zeros(256 * 3) },
		},
		{
			func(x *api.Image) { x.Table = x.Table[1:] },
			func(x *api.Image) { x.Table = append(x.Table, -1) },
			func(x *api.Image) { x.Table[0] = -2 },
			func(x *api.Image) { x.Table[5] = 5 },
		},
		{
			func(x *api.Image) { x.Globals = x.Globals[:3] },
			func(x *api.Image) { x.Globals = append(x.Globals, 0) },
			func(x *api.Image) { x.Globals[0] = 1 << 31 },
			func(x *api.Image) { x.Globals[2]++ },
			func(x *api.Image) { x.Globals[3]++ },
		},
	}
}

// P26: one part that doesn't fit is enough, and two are no better.
func TestFitsOneWrong(t *testing.T) {
	all := spoilers()
	for part := range all {
		for _, first := range all[part] {
			fit(t, "one", stage(), changedImage(first), false)
			for _, second := range slices.Concat(all[part+1:]...) {
				x := changedImage(first)
				second(&x)
				fit(t, "two", stage(), x, false)
			}
		}
	}
}
