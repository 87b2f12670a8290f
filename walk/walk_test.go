package walk_test

import (
	"math"
	"strconv"
	"testing"

	"troupe/api"
	"troupe/inst"
	"troupe/probe"
	"troupe/walk"
)

// plenty is enough of the fuel for all bodies here that end.
const plenty = 1000

// plays holds how main ends, with plenty of the fuel, against want, whose Left is what it cost; it answers all that came of it.
func plays(t *testing.T, what string, m api.Module, args []int64, want api.Out) result {
	t.Helper()
	want.Left = plenty - want.Left
	got := called(t, m, first(m), main, args, nil, plenty)
	if !sameOut(got.out, want) {
		t.Errorf("%s with %v: %v, not %v", what, args, got.out, want)
	}
	return got
}

// sample is a body of main, and how it ends; Left is what it cost.
type sample struct {
	number int // of its type
	text   string
	args   []int64
	want   api.Out
}

func playAll(t *testing.T, locals []api.Kind, samples []sample) {
	t.Helper()
	for _, s := range samples {
		plays(t, s.text, with(s.number, locals, s.text), s.args, s.want)
	}
}

// P27: how it ends, with what is left of the fuel, what the instance has then, and what was asked.
func TestCall(t *testing.T) {
	m := with(typeInt, nil, "int 2, int 3, mul")
	x := first(m)
	for fuel := range 3 {
		if got := called(t, m, x, main, nil, nil, fuel); !got.same(result{out: spent(), image: x}) {
			t.Errorf("%d of the fuel: %v", fuel, got)
		}
	}
	for fuel := 3; fuel < 10; fuel++ {
		if got := called(t, m, x, main, nil, nil, fuel); !got.same(result{out: done(fuel-3, 6), image: x}) {
			t.Errorf("%d of the fuel: %v", fuel, got)
		}
	}
	if got := called(t, m, x, less, args(50, 8), nil, 5); !got.same(result{out: done(2, 42), image: x}) {
		t.Errorf("less: %v", got)
	}
	if got := called(t, m, x, main, nil, nil, api.MaxFuel); got.out.Left != 99997 {
		t.Errorf("most of the fuel: %v", got)
	}
}

// P27: a body that does nothing is done with none of the fuel.
func TestNothing(t *testing.T) {
	for _, answers := range [][]int64{nil, {}, args(1, 2, 3)} {
		m := with(typeNothing, nil, "")
		if got := called(t, m, first(m), main, nil, answers, 0); !got.same(result{out: done(0), image: first(m)}) {
			t.Errorf("%v", got)
		}
	}
	small := api.Module{Types: []api.Sig{{}}, Funcs: []api.Func{{Body: body("")}}}
	if got := called(t, small, api.Image{}, 0, nil, nil, 0); !got.same(result{out: done(0)}) {
		t.Errorf("a module with a function alone: %v", got)
	}
}

// P27: each of args is fitted to its kind.
func TestArgs(t *testing.T) {
	m := with(typeBoth, nil, "get 0, gset 0, get 1")
	for _, n := range []int64{math.MinInt64, -1 << 32, -1<<32 + 5, math.MinInt32 - 1, math.MinInt32, -1, 0, 1,
		math.MaxInt32, math.MaxInt32 + 1, math.MaxUint32, 1 << 32, 1<<32 + 7, math.MaxInt64} {
		got := called(t, m, first(m), main, args(n, n), nil, plenty)
		if !sameOut(got.out, done(plenty-3, n)) || got.image.Globals[0] != int64(int32(n)) {
			t.Errorf("%d: %v, %v", n, got.out, got.image.Globals)
		}
	}
}

// refuses holds the error of a call that can't be made against want, and that nothing is told beside it.
func refuses(t *testing.T, what string, m api.Module, x api.Image, f int, args []int64, fuel int, want api.Errno) {
	t.Helper()
	out, image, asks, err := walk.Call(m, x, f, args, []int64{1}, fuel)
	if err != want {
		t.Errorf("%s: %d, not %d", what, err, want)
	}
	got := result{out: out, image: image, asks: asks}
	if err != api.OK && (!got.same(result{}) || out.Vals != nil || image.Table != nil || image.Globals != nil || asks != nil) {
		t.Errorf("%s: beside %d is told %v", what, err, got)
	}
}

// P27: an error of inst.Fits comes ahead of all others.
func TestErrorsOfFits(t *testing.T) {
	for want, m := range probe.WrongModules() {
		for _, f := range []int{main, -1, 99} {
			refuses(t, "a module that is not sound", m, first(stage()), f, nil, plenty, want)
			refuses(t, "a module that is not sound", m, api.Image{}, f, args(1, 2, 3), -1, want)
		}
	}
	for at, x := range probe.WrongImages() {
		if inst.Fits(stage(), x) != api.ErrArg {
			t.Fatalf("image %d fits", at)
		}
		for _, f := range []int{main, -1, 3, 8, 99} {
			refuses(t, "image "+strconv.Itoa(at), stage(), x, f, nil, plenty, api.ErrArg)
		}
	}
}

// P27: then comes ErrIndex, if f is not the number of one of Funcs.
func TestErrIndex(t *testing.T) {
	for _, f := range []int{hostBoth, hostFour, hostInt, hostNothing, -1, -4, 8, 9, 12, 99, math.MinInt, math.MaxInt, math.MinInt + 4, 1<<32 + main} {
		refuses(t, "function "+strconv.Itoa(f), stage(), first(stage()), f, nil, plenty, api.ErrIndex)
		refuses(t, "function "+strconv.Itoa(f), stage(), first(stage()), f, args(1, 2, 3, 4, 5), -1, api.ErrIndex)
	}
	for _, f := range []int{-1, 0, 1} {
		refuses(t, "no functions", api.Module{}, api.Image{}, f, nil, 0, api.ErrIndex)
	}
}

// P27: then comes ErrArg, if args are not as many as the function takes, or fuel is not from 0 to MaxFuel.
func TestErrArg(t *testing.T) {
	for f, count := range map[int]int{main: 0, next: 1, less: 2, four: 4} {
		for length := range 8 {
			want := api.ErrArg
			if length == count {
				want = api.OK
			}
			for _, fuel := range []int{0, 1, api.MaxFuel - 1, api.MaxFuel} {
				refuses(t, strconv.Itoa(length)+" args", stage(), first(stage()), f, make([]int64, length), fuel, want)
			}
			for _, fuel := range []int{-1, api.MaxFuel + 1, math.MinInt, math.MaxInt, 1 << 32, -api.MaxFuel} {
				refuses(t, strconv.Itoa(fuel)+" of the fuel", stage(), first(stage()), f, make([]int64, length), fuel, api.ErrArg)
			}
		}
	}
}

// P27: the call is on an instance that has x, whatever it had at first.
func TestImageBefore(t *testing.T) {
	x := api.Image{Mem: zeros(600) + "\x05\xff\x03" + zeros(165), Table: []int{less, -1, -1, -1, -1, -1, -1, main}, Globals: args(-9, 12, -3, -1<<50)}
	m := with(typeInt, nil, "int 600, load 0 0")
	if got := called(t, m, x, main, nil, nil, plenty); !got.same(result{out: done(plenty-2, 0x03ff05), image: x}) {
		t.Errorf("the memory: %v", got.out)
	}
	m = with(typeInt, nil, "size")
	if got := called(t, m, x, main, nil, nil, plenty); !got.same(result{out: done(plenty-1, 3), image: x}) {
		t.Errorf("the pages: %v", got.out)
	}
	m = with(typeInt, nil, "int 50, int 9, int 0, indirect 6, gget 0, add")
	if got := called(t, m, x, main, nil, nil, plenty); !got.same(result{out: done(plenty-9, 32), image: x}) {
		t.Errorf("the table and the globals: %v", got.out)
	}
	m = with(typeInt, nil, "int 1, indirect 1")
	if got := called(t, m, x, main, nil, nil, plenty); !got.same(result{out: trapped(plenty-2, api.ErrElement), image: x}) {
		t.Errorf("a place of the table that is empty: %v", got.out)
	}
}

// P27: what the instance has then, and what was asked, is told however it ends.
func TestImageAfter(t *testing.T) {
	deeds := "int 5, grow, drop, int 1, grow, drop, int 300, int -2, store 2 1, int 8, gset 0, long 9, gset 1, call 3, call 2, drop, call 3, "
	want := result{
		image: api.Image{Mem: zeros(3) + "hi" + zeros(296) + "\xfe\xff\xff\xff" + zeros(207), Table: first(stage()).Table, Globals: args(8, 9, -3, -1<<50)},
		asks:  []api.Ask{{Host: hostNothing}, {Host: hostInt}, {Host: hostNothing}},
	}
	for _, s := range []sample{
		{text: "", want: done(17)},
		{text: "return", want: done(18)},
		{text: "unreachable", want: trapped(18, api.ErrUnreachable)},
		{text: "int 999, load 2, drop", want: trapped(19, api.ErrBounds)},
		{text: "int 77, indirect 0", want: trapped(19, api.ErrElement)},
		{text: "loop, br 0, end", want: api.Out{End: 3, Left: plenty}},
	} {
		got := plays(t, s.text, with(typeNothing, nil, deeds+s.text), nil, s.want)
		want.out = got.out
		if !got.same(want) {
			t.Errorf("%s: %v, not %v", s.text, got, want)
		}
	}
}
