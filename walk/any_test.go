package walk_test

import (
	"slices"
	"testing"

	"troupe/api"
	"troupe/inst"
	"troupe/valid"
	"troupe/walk"
)

// reckoned holds what comes of a call on a sound module against the second reckoning.
func reckoned(t *testing.T, m api.Module, x api.Image, f int, args, answers []int64, fuel int) api.Out {
	t.Helper()
	got := called(t, m, x, f, args, answers, fuel)
	if want := reckon(m, x, f, args, answers, fuel); !got.same(want) {
		t.Fatalf("%v: Call of %d with %v, %v and %d of the fuel is %v, %v, %v, not %v, %v, %v", m, f, args, answers, fuel,
			got.out, got.image.Globals, got.asks, want.out, want.image.Globals, want.asks)
	}
	if inst.Fits(m, got.image) != api.OK {
		t.Fatalf("%v: no instance has %v", m, got.image)
	}
	return got.out
}

// calls asks some calls of a module, and counts how they end.
func (d *dice) calls(t *testing.T, m api.Module, count map[api.Errno]int) {
	t.Helper()
	for range 4 {
		f := main + d.below(len(m.Funcs))
		values := d.longs(len(sigOf(m, f).In))
		fuel := pick(d, d.below(30), d.below(300), 3000)
		out := reckoned(t, m, d.later(m), f, values, d.longs(d.below(6)), fuel)
		switch out.End {
		case 2:
			count[out.Trap]++
		default:
			count[api.Errno(-out.End)]++
		}
	}
}

// P27, P28: any sound modules.
func TestAnyBodies(t *testing.T) {
	d := dice(88172645463325252)
	count := map[api.Errno]int{}
	for range 6000 {
		d.calls(t, d.play(), count)
	}
	for _, end := range []api.Errno{-1, -3, 20, 21, 22, 23, 24, 25, 26} {
		if count[end] < 50 {
			t.Errorf("%d: only %d", end, count[end])
		}
	}
	if count[-1] < 5000 {
		t.Errorf("only %d are done", count[-1])
	}
}

// P27, P28: bodies that are a little other than sound ones, and sound as well.
func TestAlteredBodies(t *testing.T) {
	d := dice(2463534242987654321)
	count, sound := map[api.Errno]int{}, 0
	for range 3000 {
		m := d.play()
		for range 5 {
			other := m
			other.Funcs = slices.Clone(m.Funcs)
			own := d.below(len(m.Funcs))
			other.Funcs[own].Body = d.from().Altered(m.Funcs[own].Body)
			if valid.Module(other) == api.OK {
				sound++
				d.calls(t, other, count)
			}
		}
	}
	if sound < 1500 {
		t.Errorf("only %d are sound", sound)
	}
}

// P28: a call with less of the fuel does as much as it can of the same: what it has done is the beginning of that.
func TestAnyFuel(t *testing.T) {
	d := dice(362436069521288629)
	for range 150 {
		m := d.play()
		values := d.longs(len(m.Types[m.Funcs[0].Type].In))
		all := reckoned(t, m, first(m), main, values, nil, 400)
		for fuel := range 60 {
			out := reckoned(t, m, first(m), main, values, nil, fuel)
			cost, isSpent := 400-all.Left, out.End == 3
			if all.End != 3 && isSpent != (fuel < cost) {
				t.Fatalf("%v: it costs %d, but with %d it is %v", m, cost, fuel, out)
			}
		}
	}
}

// errorOf is what a call must say, by the words of P27.
func errorOf(m api.Module, x api.Image, f int, args []int64, fuel int) api.Errno {
	if err := inst.Fits(m, x); err != api.OK {
		return err
	}
	own := f - len(m.Imports)
	if f < 0 || own < 0 || own >= len(m.Funcs) {
		return api.ErrIndex
	}
	if len(args) != len(m.Types[m.Funcs[own].Type].In) || fuel < 0 || fuel > 100000 {
		return api.ErrArg
	}
	return api.OK
}

// argsOf are numbers, often as many as the function takes, if there is such a one.
func (d *dice) argsOf(m api.Module, x api.Image, f int) []int64 {
	if err := errorOf(m, x, f, nil, 0); err == api.OK || err == api.ErrArg && inst.Fits(m, x) == api.OK && d.below(4) > 0 {
		return d.longs(len(sigOf(m, f).In))
	}
	return d.longs(d.below(5))
}

// P1, P27: whatever is given.
func TestAnything(t *testing.T) {
	d := dice(141421356237309)
	count := map[api.Errno]int{}
	for round := range 20000 {
		m := d.from().WildModule()
		if round%2 == 0 {
			m = d.from().Spoilt()
		}
		x := d.from().WildImage()
		if _, err := inst.Make(m); err == api.OK && d.below(8) > 0 {
			x = first(m)
		}
		f, fuel := pick(&d, d.from().Wild(), main+d.below(4)), pick(&d, d.from().Wild(), d.below(200), 200)
		values, answers := d.argsOf(m, x, f), d.longs(d.below(3))
		want := errorOf(m, x, f, values, fuel)
		count[want]++
		if want == api.OK {
			reckoned(t, m, x, f, values, answers, fuel)
			continue
		}
		out, image, asks, err := walk.Call(m, x, f, values, answers, fuel)
		if got := (result{out: out, image: image, asks: asks}); err != want || !got.same(result{}) {
			t.Fatalf("%v, %v: Call of %d with %v and %d is %v, %d, not %d", m, x, f, values, fuel, got, err, want)
		}
	}
	for _, err := range []api.Errno{api.OK, api.ErrIndex, api.ErrArg} {
		if count[err] < 500 {
			t.Errorf("%d: only %d", err, count[err])
		}
	}
}
