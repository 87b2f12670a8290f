package run_test

import (
	"math"
	"testing"

	"troupe/api"
	"troupe/inst"
	"troupe/probe"
	"troupe/run"
)

// P29: a new machine has what an instance has at first, and nothing is under way.
func TestNew(t *testing.T) {
	for _, m := range []api.Module{{}, stage(), with(probe.TypeInt, nil, "int 1")} {
		r := begun(t, m)
		if !sameImage(r.Image(), first(m)) {
			t.Errorf("%v: %v", m, r.Image())
		}
		stands(t, m, r, api.State{})
		if _, err := r.Go(5); err != api.ErrIdle {
			t.Errorf("Go is %d", err)
		}
		if err := r.Answer(5); err != api.ErrIdle {
			t.Errorf("Answer is %d", err)
		}
	}
}

// P29: New answers inst.Make's error, and no machine.
func TestNewErrors(t *testing.T) {
	modules := probe.WrongModules()
	high := stage()
	high.Data = []api.Data{{At: 255, Bytes: "hi"}}
	modules[api.ErrBounds] = high
	for want, m := range modules {
		if _, err := inst.Make(m); err != want {
			t.Fatalf("the test has a wrong module: %d, not %d", err, want)
		}
		if r, err := run.New(m); r != nil || err != want {
			t.Errorf("New is %v, %d, not %d", r, err, want)
		}
	}
}

// P29: nothing of a function that is called is done as yet; its values are fitted to their kinds.
func TestStart(t *testing.T) {
	m := with(probe.TypeIn, kinds(i64, i32), "unreachable")
	for _, n := range probe.Edges() {
		r := started(t, m, n)
		stands(t, m, r, under(having(at(0, 0), int64(int32(n)), 0, 0)))
		if !sameImage(r.Image(), first(m)) {
			t.Errorf("%v has changed", r.Image())
		}
	}
	r := begun(t, stage())
	if err := r.Start(probe.Four, args(1<<32, 1<<32, -1<<31-1, -1<<63)); err != api.OK {
		t.Errorf("Start is %d", err)
	}
	stands(t, stage(), r, under(having(at(3, 0), 1<<32, 0, 1<<31-1, -1<<63)))
}

// P29: each of the module's own functions may be called, also if it is not shown, and also if there is no import.
func TestStartAny(t *testing.T) {
	r := begun(t, stage())
	for number, values := range map[int][]int64{probe.Main: nil, probe.Next: args(4), probe.Less: args(4, 9), probe.Four: args(1, 2, 3, 4)} {
		if err := r.Start(number, values); err != api.OK || r.State().Calls[0].Func != number-probe.Main {
			t.Errorf("Start of %d is %d, %v", number, err, r.State())
		}
		if out, err := r.Go(100); out.End != 1 || err != api.OK {
			t.Errorf("Go is %v, %d", out, err)
		}
	}
	m := api.Module{Types: []api.Sig{{Out: kinds(i32)}}, Funcs: []api.Func{{Body: probe.Body("int 8")}}}
	r = begun(t, m)
	if err := r.Start(0, nil); err != api.OK {
		t.Errorf("Start is %d", err)
	}
	goes(t, r, 1, done(0, 8))
}

// P29: then what walk.Call says of f and args.
func TestStartErrors(t *testing.T) {
	r := begun(t, with(probe.TypeTwo, nil, "get 0"))
	for _, f := range []int{-1, 0, 3, 8, 9, 99, math.MinInt, math.MinInt + 4, math.MaxInt, 1<<32 + probe.Main} {
		for _, values := range [][]int64{nil, args(1, 2)} {
			if err := r.Start(f, values); err != api.ErrIndex {
				t.Errorf("Start of %d with %v is %d", f, values, err)
			}
		}
	}
	for _, values := range [][]int64{nil, args(1), args(1, 2, 3), args(1, 2, 3, 4, 5)} {
		if err := r.Start(probe.Main, values); err != api.ErrArg {
			t.Errorf("Start with %v is %d", values, err)
		}
	}
	stands(t, with(probe.TypeTwo, nil, "get 0"), r, api.State{})
}

// busy holds that nothing can be called while something is under way, and that this changes nothing.
func busy(t *testing.T, r *run.Machine) {
	t.Helper()
	before, image := r.State(), r.Image()
	for _, f := range []int{probe.Main, probe.Next, 0, -1, 99} {
		for _, values := range [][]int64{nil, args(1), args(1, 2)} {
			if err := r.Start(f, values); err != api.ErrBusy {
				t.Errorf("Start of %d with %v is %d", f, values, err)
			}
		}
	}
	if !sameState(r.State(), before) || !sameImage(r.Image(), image) {
		t.Errorf("%v has become %v", before, r.State())
	}
}

// P29: ErrBusy, if a call is under way, whether it is begun, has stopped, or waits; and no more of it once it has ended.
func TestStartBusy(t *testing.T) {
	r := playing(t, probe.TypeInt, nil, "int 1, call 2, add, unreachable")
	busy(t, r)
	goes(t, r, 1, spent())
	busy(t, r)
	goes(t, r, 1, asked(0, probe.HostInt))
	busy(t, r)
	if err := r.Answer(6); err != api.OK {
		t.Errorf("Answer is %d", err)
	}
	busy(t, r)
	goes(t, r, 7, trapped(5, api.ErrUnreachable))
	if err := r.Start(probe.Less, args(7, 9)); err != api.OK {
		t.Errorf("Start behind a trap is %d", err)
	}
	busy(t, r)
	goes(t, r, 7, done(4, -2))
	if err := r.Start(probe.Next, args(7)); err != api.OK {
		t.Errorf("Start behind another call is %d", err)
	}
	goes(t, r, 3, done(0, 8))
}

// P30: ErrArg, if fuel is not from 0 to MaxFuel, whatever is under way; then ErrIdle, then ErrBusy; none of these changes anything.
func TestGoErrors(t *testing.T) {
	m := with(probe.TypeInt, nil, "int 1, call 2, add")
	r := begun(t, m)
	refuses := func(want api.Errno) {
		t.Helper()
		before := r.State()
		for _, fuel := range []int{-1, 100001, math.MinInt, math.MaxInt, 1 << 32} {
			if out, err := r.Go(fuel); err != api.ErrArg || !sameOut(out, api.Out{}) {
				t.Errorf("Go of %d is %v, %d", fuel, out, err)
			}
		}
		for _, fuel := range []int{0, 1, 50, 100000} {
			if want == api.OK {
				break
			}
			if out, err := r.Go(fuel); err != want || !sameOut(out, api.Out{}) {
				t.Errorf("Go of %d is %v, %d, not %d", fuel, out, err, want)
			}
		}
		if !sameState(r.State(), before) {
			t.Errorf("%v has become %v", before, r.State())
		}
	}
	refuses(api.ErrIdle)
	r = started(t, m)
	refuses(api.OK)
	goes(t, r, 100000, asked(99998, probe.HostInt))
	refuses(api.ErrBusy)
	r.Answer(4)
	refuses(api.OK)
	goes(t, r, 1, done(0, 5))
	refuses(api.ErrIdle)
}

// P30: an answer can be given once for each that is waited for, and at no other time.
func TestAnswerErrors(t *testing.T) {
	r := begun(t, with(probe.TypeInt, nil, "call 3, call 2, nop"))
	idle := func() {
		t.Helper()
		before := r.State()
		if err := r.Answer(77); err != api.ErrIdle || !sameState(r.State(), before) {
			t.Errorf("Answer is %d, and %v has become %v", err, before, r.State())
		}
	}
	idle()
	r.Start(probe.Main, nil)
	idle()
	goes(t, r, 0, spent())
	idle()
	goes(t, r, 1, asked(0, probe.HostNothing))
	r.Answer(77)
	idle()
	goes(t, r, 9, asked(8, probe.HostInt))
	r.Answer(5)
	idle()
	goes(t, r, 0, spent())
	idle()
	goes(t, r, 4, done(3, 5))
	idle()
}

// P30: EndDone and EndTrap, with what is left; no call is under way any more.
func TestEnds(t *testing.T) {
	for _, s := range []struct {
		number int
		text   string
		cost   int
		want   api.Out
	}{
		{probe.TypeNothing, "", 0, done(0)},
		{probe.TypeNothing, "nop", 1, done(0)},
		{probe.TypeInt, "int 2, int 3, mul", 3, done(0, 6)},
		{probe.TypeLong, "long 7, int 1, long -9, return", 4, done(0, -9)},
		{probe.TypeInt, "int 8, int 3, call 6, call 5", 10, done(0, 6)},
		{probe.TypeNothing, "unreachable", 1, trapped(0, api.ErrUnreachable)},
		{probe.TypeInt, "int 1, int 0, div", 3, trapped(0, api.ErrDivide)},
		{probe.TypeInt, "int -2147483648, int -1, div", 3, trapped(0, api.ErrOverflow)},
		{probe.TypeInt, "int 253, load 0", 2, trapped(0, api.ErrBounds)},
		{probe.TypeInt, "int 7, indirect 1", 2, trapped(0, api.ErrElement)},
		{probe.TypeInt, "int 6, indirect 0, int 1", 2, trapped(0, api.ErrMatch)},
		{probe.TypeNothing, "call 4", 40, trapped(0, api.ErrStack)},
		{probe.TypeNothing, "int 6, indirect 0", 80, trapped(0, api.ErrStack)},
	} {
		m := with(s.number, nil, s.text)
		for _, left := range []int{0, 1, 500} {
			r := started(t, m)
			s.want.Left = left
			goes(t, r, s.cost+left, s.want)
			stands(t, m, r, api.State{})
		}
		if s.cost > 0 {
			goes(t, started(t, m), s.cost-1, spent())
		}
	}
}

// P30: where a way leads, what costs nothing is done without any of the fuel; what costs is not.
func TestNoFuel(t *testing.T) {
	goes(t, playing(t, probe.TypeNothing, nil, ""), 0, done(0))
	r := playing(t, probe.TypeInt, nil, "int 1, if i32, int 5, else, int 6, end")
	goes(t, r, 2, spent())
	goes(t, r, 0, spent())
	goes(t, r, 1, done(0, 5))
	r = playing(t, probe.TypeInt, nil, "block i32, block, block, call 2, br 2, end, end, int 6, end")
	goes(t, r, 4, asked(0, probe.HostInt))
	r.Answer(9)
	goes(t, r, 0, spent())
	goes(t, r, 1, done(0, 9))
	r = playing(t, probe.TypeInt, nil, "int 1, if i32, block i32, call 2, end, else, int 3, end")
	goes(t, r, 4, asked(0, probe.HostInt))
	r.Answer(9)
	goes(t, r, 0, done(0, 9))
}

// P30: an import is told by its number, with what it took; Left is what is left behind the call.
func TestAsked(t *testing.T) {
	text := "int 1, long 2, call 0, drop, long 3, int 4, int 5, long 6, call 1, int 4, indirect 1, drop, call 3"
	r := playing(t, probe.TypeNothing, nil, text)
	goes(t, r, 20, asked(17, probe.HostBoth, 1, 2))
	r.Answer(0)
	goes(t, r, 6, asked(0, probe.HostFour, 3, 4, 5, 6))
	r.Answer(0)
	goes(t, r, 2, asked(0, probe.HostInt))
	r.Answer(0)
	goes(t, r, 7, asked(5, probe.HostNothing))
	r.Answer(0)
	goes(t, r, 0, done(0))
}

// P30: an answer is fitted to the kind of what the import gives, and lies above what was there; if it gives nothing, nothing is given.
func TestAnswer(t *testing.T) {
	m := with(probe.TypeInt, nil, "int 50, call 2, drop")
	for _, n := range probe.Edges() {
		r := started(t, m)
		r.Go(2)
		r.Answer(n)
		stands(t, m, r, under(at(0, 2, 50, int64(int32(n)))))
		r = playing(t, probe.TypeLong, nil, "int 50, long 60, call 0")
		r.Go(3)
		r.Answer(n)
		goes(t, r, 0, done(0, n))
		r = playing(t, probe.TypeInt, nil, "int 50, call 3")
		r.Go(2)
		r.Answer(n)
		goes(t, r, 0, done(0, 50))
	}
}

// P30: an import may be asked by a call that another one has made, also if as many are under way as there may be.
func TestAskedDeep(t *testing.T) {
	text := "get 0, if i32, get 0, int 1, sub, call 4, int 1, add, else, call 2, end"
	m := with(probe.TypeIntInt, nil, text)
	r := started(t, m, 39)
	goes(t, r, 1000, asked(1000-6*39-3, probe.HostInt))
	if s := r.State(); len(s.Calls) != api.MaxCalls {
		t.Errorf("%d calls", len(s.Calls))
	}
	r.Answer(5)
	goes(t, r, 77, spent())
	goes(t, r, 1, done(0, 44))
	r = started(t, m, 40)
	goes(t, r, 1000, trapped(1000-6*40, api.ErrStack))
	stands(t, m, r, api.State{})
}

// P30: Peek and Poke are mem.Bytes and mem.Put of its memory, whatever is under way.
func TestMemory(t *testing.T) {
	m := with(probe.TypeInt, nil, "int 250, load 0, int 0, int 1, store 0, int 1, grow, call 2, drop, drop")
	r := begun(t, m)
	peeks := func(at, n int64, want string, wantErr api.Errno) {
		t.Helper()
		if got, err := r.Peek(at, n); got != want || err != wantErr {
			t.Errorf("Peek of %d, %d is %q, %d, not %q, %d", at, n, got, err, want, wantErr)
		}
	}
	pokes := func(at int64, s string, want api.Errno) {
		t.Helper()
		if err := r.Poke(at, s); err != want {
			t.Errorf("Poke of %q at %d is %d, not %d", s, at, err, want)
		}
	}
	peeks(2, 4, "\x00hi\x00", api.OK)
	peeks(256, 0, "", api.OK)
	peeks(255, 2, "", api.ErrBounds)
	peeks(-1, 2, "", api.ErrBounds)
	peeks(2, -1, "", api.ErrBounds)
	peeks(math.MaxInt64, math.MaxInt64, "", api.ErrBounds)
	pokes(250, "abcd", api.OK)
	pokes(253, "abcd", api.ErrBounds)
	pokes(-1, "a", api.ErrBounds)
	pokes(math.MinInt64, "", api.ErrBounds)
	pokes(math.MaxInt64, "a", api.ErrBounds)
	peeks(249, 7, "\x00abcd\x00\x00", api.OK)
	r.Start(probe.Main, nil)
	pokes(253, "e", api.OK)
	goes(t, r, 2, spent())
	stands(t, m, r, under(at(0, 2, 0x65636261)))
	peeks(0, 5, "\x00\x00\x00hi", api.OK)
	goes(t, r, 6, asked(0, probe.HostInt))
	peeks(0, 5, "\x01\x00\x00\x00i", api.OK)
	pokes(510, "yz", api.OK)
	pokes(511, "yz", api.ErrBounds)
	peeks(509, 3, "\x00yz", api.OK)
	if x := r.Image(); len(x.Mem) != 512 || x.Mem[510:] != "yz" {
		t.Errorf("%d bytes", len(x.Mem))
	}
	r = begun(t, api.Module{})
	peeks(0, 0, "", api.OK)
	peeks(0, 1, "", api.ErrBounds)
	pokes(0, "", api.OK)
	pokes(0, "a", api.ErrBounds)
}

// P29: a function that is called behind another one finds what that has left.
func TestSecondCall(t *testing.T) {
	m := with(probe.TypeInt, nil, "gget 0, int 1, add, gset 0, int 1, grow, drop, int 300, gget 0, store 0, gget 0")
	r := begun(t, m)
	for round := range 3 {
		if err := r.Start(probe.Main, nil); err != api.OK {
			t.Fatalf("Start is %d", err)
		}
		goes(t, r, 12, done(1, int64(8+round)))
		x := r.Image()
		if x.Globals[0] != int64(8+round) || x.Mem[300] != byte(8+round) || len(x.Mem) != 256*min(round+2, 3) {
			t.Errorf("%v, %d bytes", x.Globals, len(x.Mem))
		}
	}
}
