package walk_test

import (
	"math"
	"slices"
	"strings"
	"testing"

	"troupe/api"
	"troupe/inst"
	"troupe/valid"
	"troupe/walk"
)

// longs answers so many numbers, small ones and such at edges.
func (d *dice) longs(count int) []int64 {
	var all []int64
	for range count {
		n := int64(d.below(12)) - 2
		if d.below(3) == 0 {
			n = pick(d, edges()...)
		}
		all = append(all, n)
	}
	return all
}

// later is an image that an instance of a module like stage may have after a while.
func (d *dice) later(m api.Module) api.Image {
	x := first(m)
	if d.below(2) == 0 {
		return x
	}
	x.Mem += strings.Repeat("\x81", 256*d.below(m.Most-m.Pages+1))
	x.Table[d.below(len(x.Table))] = d.below(9) - 1
	x.Globals[0], x.Globals[1] = int64(int32(d.longs(1)[0])), d.longs(1)[0]
	return x
}

// reckoned holds what comes of a call on a sound module against the second reckoning.
func reckoned(t *testing.T, m api.Module, x api.Image, f int, args, answers []int64, fuel int) api.Out {
	t.Helper()
	got := called(t, m, x, f, args, answers, fuel)
	if want := reckon(m, x, f, args, answers, fuel); !got.same(want) {
		t.Fatalf("%v: Call of %d with %v, %v and %d of the fuel is %v, %v, %v, not %v, %v, %v", m, f, args, answers, fuel,
			got.out, got.image.Globals, got.asks, want.out, want.image.Globals, want.asks)
	}
	if inst.Fits(m, got.image) != api.OK {
		t.Fatalf("%v: no instance has %v", m, got.image)
	}
	return got.out
}

// calls asks some calls of a module, and counts how they end.
func (d *dice) calls(t *testing.T, m api.Module, count map[api.Errno]int) {
	t.Helper()
	for range 4 {
		f := main + d.below(len(m.Funcs))
		values := d.longs(len(sigOf(m, f).In))
		fuel := pick(d, d.below(30), d.below(300), 3000)
		out := reckoned(t, m, d.later(m), f, values, d.longs(d.below(6)), fuel)
		switch out.End {
		case 2:
			count[out.Trap]++
		default:
			count[api.Errno(-out.End)]++
		}
	}
}

// P27, P28: any sound modules.
func TestAnyBodies(t *testing.T) {
	d := dice(88172645463325252)
	count := map[api.Errno]int{}
	for range 6000 {
		d.calls(t, d.play(), count)
	}
	for _, end := range []api.Errno{-1, -3, 20, 21, 22, 23, 24, 25, 26} {
		if count[end] < 50 {
			t.Errorf("%d: only %d", end, count[end])
		}
	}
	if count[-1] < 5000 {
		t.Errorf("only %d are done", count[-1])
	}
}

// altered is a body in which some instructions have gone, or are other ones, or have come from elsewhere in it.
func (d *dice) altered(list []api.Ins) []api.Ins {
	list = slices.Clone(list)
	for range 1 + d.below(3) {
		at := d.below(len(list))
		switch d.below(4) {
		case 0:
			list = slices.Delete(list, at, at+1)
		case 1:
			list = slices.Insert(list, at, list[d.below(len(list))])
		case 2:
			list[at].A = pick[int64](d, 0, 1, 2, 3, 64, 126, 127)
		case 3:
			list[at] = one(pick(d, "nop", "drop", "int 1", "long 1", "return", "unreachable", "br 0", "br 1", "br_if 0", "block", "end", "else", "br_table 0 1 0"))
		}
		if len(list) == 0 {
			return list
		}
	}
	return list
}

// P27, P28: bodies that are a little other than sound ones, and sound as well.
func TestAlteredBodies(t *testing.T) {
	d := dice(2463534242987654321)
	count, sound := map[api.Errno]int{}, 0
	for range 3000 {
		m := d.play()
		for range 5 {
			other := m
			other.Funcs = slices.Clone(m.Funcs)
			own := d.below(len(m.Funcs))
			other.Funcs[own].Body = d.altered(m.Funcs[own].Body)
			if valid.Module(other) == api.OK {
				sound++
				d.calls(t, other, count)
			}
		}
	}
	if sound < 1500 {
		t.Errorf("only %d are sound", sound)
	}
}

// P28: a call with less of the fuel does as much as it can of the same: what it has done is the beginning of that.
func TestAnyFuel(t *testing.T) {
	d := dice(362436069521288629)
	for range 150 {
		m := d.play()
		values := d.longs(len(m.Types[m.Funcs[0].Type].In))
		all := reckoned(t, m, first(m), main, values, nil, 400)
		for fuel := range 60 {
			out := reckoned(t, m, first(m), main, values, nil, fuel)
			cost, isSpent := 400-all.Left, out.End == 3
			if all.End != 3 && isSpent != (fuel < cost) {
				t.Fatalf("%v: it costs %d, but with %d it is %v", m, cost, fuel, out)
			}
		}
	}
}

// wild answers numbers at all edges.
func (d *dice) wild() int {
	switch d.below(4) {
	case 0:
		return d.below(3)
	case 1:
		return pick(d, math.MinInt64, math.MaxInt64, -1, 1<<31, 1<<32-1, 1<<32, -1<<31, 63, 64, 256, 2048)
	}
	return d.below(20) - 2
}

func wildList[T any](d *dice, one func() T) []T {
	var all []T
	for range d.below(pick(d, 2, 4, 19)) {
		all = append(all, one())
	}
	return all
}

func (d *dice) wildModule() api.Module {
	long := func() int64 { return int64(d.wild()) }
	kind := func() api.Kind { return pick(d, i32, i64, i32, i64, api.NoKind, api.Kind(d.below(256))) }
	name := func() string { return pick(d, "", "a", "b", "\xff", "a name of 17 byte", "a name of 16 byt") }
	single := func() api.Ins {
		return api.Ins{Op: byte(d.below(256)), A: long(), B: long(), To: wildList(d, long)}
	}
	return api.Module{
		Types:   wildList(d, func() api.Sig { return api.Sig{In: wildList(d, kind), Out: wildList(d, kind)} }),
		Imports: wildList(d, func() api.Import { return api.Import{Name: name(), Type: d.wild()} }),
		Funcs: wildList(d, func() api.Func {
			return api.Func{Type: d.wild(), Locals: wildList(d, kind), Body: append(wildList(d, single), one("end"))}
		}),
		Table:   d.wild(),
		Pages:   d.wild(),
		Most:    d.wild(),
		Globals: wildList(d, func() api.Global { return api.Global{Kind: kind(), Mut: d.below(2) == 0, Start: long()} }),
		Exports: wildList(d, func() api.Export { return api.Export{Name: name(), Func: d.wild()} }),
		Start:   d.wild(),
		Elems:   wildList(d, func() api.Elem { return api.Elem{At: d.wild(), Funcs: wildList(d, d.wild)} }),
		Data:    wildList(d, func() api.Data { return api.Data{At: d.wild(), Bytes: name()} }),
	}
}

func (d *dice) wildImage() api.Image {
	text := strings.Repeat("x", pick(d, 0, 1, 255, 256, 512, 1024, 2048, 2304))
	return api.Image{Mem: text, Table: wildList(d, d.wild), Globals: wildList(d, func() int64 { return int64(d.wild()) })}
}

// spoilt is a sound module some parts of which are other ones.
func (d *dice) spoilt() api.Module {
	m, other := d.play(), d.wildModule()
	switch d.below(9) {
	case 0:
		m.Types = other.Types
	case 1:
		m.Imports = other.Imports
	case 2:
		m.Funcs = other.Funcs
	case 3:
		m.Table = other.Table
	case 4:
		m.Pages, m.Most = other.Pages, other.Most
	case 5:
		m.Globals = other.Globals
	case 6:
		m.Exports, m.Start = other.Exports, other.Start
	case 7:
		m.Elems, m.Data = other.Elems, other.Data
	}
	return m
}

// errorOf is what a call must say, by the words of P27.
func errorOf(m api.Module, x api.Image, f int, args []int64, fuel int) api.Errno {
	if err := inst.Fits(m, x); err != api.OK {
		return err
	}
	own := f - len(m.Imports)
	if f < 0 || own < 0 || own >= len(m.Funcs) {
		return api.ErrIndex
	}
	if len(args) != len(m.Types[m.Funcs[own].Type].In) || fuel < 0 || fuel > 100000 {
		return api.ErrArg
	}
	return api.OK
}

// argsOf are numbers, often as many as the function takes, if there is such a one.
func (d *dice) argsOf(m api.Module, x api.Image, f int) []int64 {
	if err := errorOf(m, x, f, nil, 0); err == api.OK || err == api.ErrArg && inst.Fits(m, x) == api.OK && d.below(4) > 0 {
		return d.longs(len(sigOf(m, f).In))
	}
	return d.longs(d.below(5))
}

// P1, P27: whatever is given.
func TestAnything(t *testing.T) {
	d := dice(141421356237309)
	count := map[api.Errno]int{}
	for round := range 20000 {
		m := d.wildModule()
		if round%2 == 0 {
			m = d.spoilt()
		}
		x := d.wildImage()
		if _, err := inst.Make(m); err == api.OK && d.below(8) > 0 {
			x = first(m)
		}
		f, fuel := pick(&d, d.wild(), main+d.below(4)), pick(&d, d.wild(), d.below(200), 200)
		values, answers := d.argsOf(m, x, f), d.longs(d.below(3))
		want := errorOf(m, x, f, values, fuel)
		count[want]++
		if want == api.OK {
			reckoned(t, m, x, f, values, answers, fuel)
			continue
		}
		out, image, asks, err := walk.Call(m, x, f, values, answers, fuel)
		if got := (result{out: out, image: image, asks: asks}); err != want || !got.same(result{}) {
			t.Fatalf("%v, %v: Call of %d with %v and %d is %v, %d, not %d", m, x, f, values, fuel, got, err, want)
		}
	}
	for _, err := range []api.Errno{api.OK, api.ErrIndex, api.ErrArg} {
		if count[err] < 500 {
			t.Errorf("%d: only %d", err, count[err])
		}
	}
}
