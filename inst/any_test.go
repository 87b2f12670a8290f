package inst_test

import (
	"math"
	"strings"
	"testing"

	"troupe/api"
	"troupe/inst"
	"troupe/valid"
)

// wild answers numbers at all edges.
func (d *dice) wild() int {
	switch d.below(4) {
	case 0:
		return d.below(3)
	case 1:
		return pick(d, math.MinInt64, math.MaxInt64, -1, 1<<31, 1<<32-1, 1<<32, -1<<31, 63, 64, 256, 2048)
	}
	return d.below(20) - 2
}

func (d *dice) wildLong() int64 {
	return int64(d.wild())
}

func (d *dice) wildText() string {
	return strings.Repeat("x", pick(d, 0, 1, 2, 63, 64, 65, 255, 256, 512, 1024, 2048, 2304, 3000))
}

func wildList[T any](d *dice, one func() T) []T {
	var all []T
	for range d.below(pick(d, 2, 4, 19)) {
		all = append(all, one())
	}
	return all
}

func (d *dice) wildModule() api.Module {
	kind := func() api.Kind { return pick(d, i32, i64, i32, i64, api.NoKind, api.Kind(d.below(256))) }
	name := func() string { return pick(d, "", "a", "b", "\xff", "a name of 17 byte", "a name of 16 byt") }
	single := func() api.Ins {
		return api.Ins{Op: byte(d.below(256)), A: d.wildLong(), B: d.wildLong(), To: wildList(d, d.wildLong)}
	}
	return api.Module{
		Types:   wildList(d, func() api.Sig { return api.Sig{In: wildList(d, kind), Out: wildList(d, kind)} }),
		Imports: wildList(d, func() api.Import { return api.Import{Name: name(), Type: d.wild()} }),
		Funcs: wildList(d, func() api.Func {
			return api.Func{Type: d.wild(), Locals: wildList(d, kind), Body: list(wildList(d, single)...)}
		}),
		Table:   d.wild(),
		Pages:   d.wild(),
		Most:    d.wild(),
		Globals: wildList(d, func() api.Global { return api.Global{Kind: kind(), Mut: d.below(2) == 0, Start: d.wildLong()} }),
		Exports: wildList(d, func() api.Export { return api.Export{Name: name(), Func: d.wild()} }),
		Start:   d.wild(),
		Elems:   wildList(d, func() api.Elem { return api.Elem{At: d.wild(), Funcs: wildList(d, d.wild)} }),
		Data:    wildList(d, func() api.Data { return api.Data{At: d.wild(), Bytes: d.wildText()} }),
	}
}

func (d *dice) wildImage() api.Image {
	return api.Image{Mem: d.wildText(), Table: wildList(d, d.wild), Globals: wildList(d, d.wildLong)}
}

// few is a list of at most four.
func few[T any](d *dice, one func() T) []T {
	var all []T
	for range d.below(5) {
		all = append(all, one())
	}
	return all
}

// nearElem and nearData are parts that may fit stage, lie over one another, or just do not fit.
func (d *dice) nearElem() api.Elem {
	return api.Elem{At: pick(d, 0, 1, 2, 3, 4, 5, 6, 7, -1), Funcs: few(d, func() int { return d.below(5) })}
}

func (d *dice) nearData() api.Data {
	at := pick(d, 0, 1, 2, 3, 4, 254, 255, 256, 508, 509, 510, 511, 512, 513, -1)
	return api.Data{At: at, Bytes: string(few(d, func() byte { return byte(d.below(256)) }))}
}

func (d *dice) nearGlobal() api.Global {
	return api.Global{Kind: pick(d, i32, i64), Mut: d.below(2) == 0, Start: int64(d.below(5))}
}

// spoilt is stage with other parts, near ones or wild ones; some are sound.
func (d *dice) spoilt() api.Module {
	m, other := stage(), d.wildModule()
	for range 1 + d.below(3) {
		switch d.below(10) {
		case 0:
			m.Table = pick(d, 5, 6, 7, 16, other.Table)
		case 1:
			m.Pages = pick(d, 0, 1, 2, 3, other.Pages)
		case 2:
			m.Most = pick(d, 2, 3, 8, other.Most)
		case 3:
			m.Globals = few(d, d.nearGlobal)
		case 4, 5:
			m.Elems = few(d, d.nearElem)
		case 6, 7:
			m.Data = few(d, d.nearData)
		case 8:
			m.Elems, m.Globals = other.Elems, other.Globals
		case 9:
			m.Data = other.Data
		}
	}
	return m
}

// unsigned answers an At as an I32 without a sign.
func unsigned(at int) int {
	if at < 0 {
		return at + 1<<32
	}
	return at
}

// bear is the second reckoning of Make of a sound module: it asks of each place who comes to stand there last.
func bear(m api.Module) (api.Image, api.Errno) {
	bytes := make([]byte, 256*m.Pages)
	var x api.Image
	for _, e := range m.Elems {
		if unsigned(e.At) > m.Table-len(e.Funcs) {
			return x, api.ErrBounds
		}
	}
	for _, d := range m.Data {
		if unsigned(d.At) > len(bytes)-len(d.Bytes) {
			return x, api.ErrBounds
		}
		for i := range len(d.Bytes) {
			bytes[unsigned(d.At)+i] = d.Bytes[i]
		}
	}
	for place := range m.Table {
		number := -1
		for _, e := range m.Elems {
			if at := place - e.At; at >= 0 && at < len(e.Funcs) {
				number = e.Funcs[at]
			}
		}
		x.Table = append(x.Table, number)
	}
	for _, g := range m.Globals {
		x.Globals = append(x.Globals, g.Start)
	}
	x.Mem = string(bytes)
	return x, api.OK
}

// suits is the second reckoning of Fits of a sound module.
func suits(m api.Module, x api.Image) bool {
	wrong := len(x.Table) != m.Table || len(x.Globals) != len(m.Globals)
	for pages := m.Pages; !wrong; pages++ {
		if pages > m.Most {
			return false
		}
		if len(x.Mem) == 256*pages {
			break
		}
	}
	for _, number := range x.Table {
		wrong = wrong || number < -1 || number >= len(m.Imports)+len(m.Funcs)
	}
	for at, g := range m.Globals {
		if wrong {
			break
		}
		n := x.Globals[at]
		wrong = !g.Mut && n != g.Start || g.Kind == i32 && (n < -2147483648 || n > 2147483647)
	}
	return !wrong
}

// nearly is what an instance of a sound module has at first, with at most some changes.
func (d *dice) nearly(m api.Module) api.Image {
	x, err := bear(m)
	if err != api.OK {
		x = stageImage()
	}
	for range d.below(3) {
		switch d.below(4) {
		case 0:
			x.Mem = strings.Repeat("m", pick(d, 0, 256, 512, 768, 1024, 1025, 2048))
		case 1:
			x.Table = append(x.Table, d.wild())
		case 2:
			if len(x.Table) > 0 {
				x.Table[d.below(len(x.Table))] = pick(d, -1, 0, 4, 5, d.wild())
			}
		case 3:
			if len(x.Globals) > 0 {
				x.Globals[d.below(len(x.Globals))] = d.wildLong()
			}
		}
	}
	return x
}

// ask holds what the calls say of any module and image against the second reckoning: P1 is that they say something.
func ask(t *testing.T, m api.Module, x api.Image) (api.Errno, api.Errno) {
	t.Helper()
	want, err := api.Image{}, valid.Module(m)
	fits := err
	if err == api.OK {
		want, err = bear(m)
		if !suits(m, x) {
			fits = api.ErrArg
		}
	}
	got, made := inst.Make(m)
	if made != err || !sameImage(got, want) || made != api.OK && !isEmpty(got) {
		t.Fatalf("%v: Make is %v, %d, not %v, %d", m, got, made, want, err)
	}
	if got := inst.Fits(m, x); got != fits {
		t.Fatalf("%v: Fits of %v is %d, not %d", m, x, got, fits)
	}
	if made == api.OK && inst.Fits(m, got) != api.OK {
		t.Fatalf("%v: what is there at first, %v, doesn't fit", m, got)
	}
	return made, fits
}

// P1, P25, P26: whatever is given.
func TestAnything(t *testing.T) {
	d := dice(141421356237309)
	made, fits := map[api.Errno]int{}, map[api.Errno]int{}
	for range 5000 {
		ask(t, d.wildModule(), d.wildImage())
	}
	for range 100000 {
		m := d.spoilt()
		x := d.wildImage()
		if valid.Module(m) == api.OK {
			x = d.nearly(m)
		}
		one, other := ask(t, m, x)
		made[one]++
		fits[other]++
	}
	for _, count := range []int{made[api.OK], made[api.ErrBounds], fits[api.OK], fits[api.ErrArg]} {
		if count < 1000 {
			t.Errorf("too few of a kind: %v, %v", made, fits)
		}
	}
}
