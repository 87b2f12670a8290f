package run_test

import (
	"slices"
	"testing"

	"troupe/api"
	"troupe/inst"
	"troupe/mod"
	"troupe/probe"
	"troupe/run"
	"troupe/valid"
	"troupe/walk"
)

// drive is a machine that goes on in pieces, and what the second reckoning must know to begin anew.
type drive struct {
	*probe.Dice
	r     *run.Machine
	so    probe.Run // all the fuel that was spent, and all answers that were given
	ended bool
	count map[int]int
}

// begin calls any function of a module, with fitting values, on an instance that has any image.
func begin(t *testing.T, d *probe.Dice, m api.Module, count map[int]int) *drive {
	t.Helper()
	v := &drive{Dice: d, count: count}
	f := probe.Main + d.Below(len(m.Funcs))
	v.so = probe.Run{M: m, X: d.Later(m), F: f, Args: d.Longs(len(mod.TypeOf(m, f).In)), Waits: true}
	r, err := run.Resume(m, v.so.X, api.State{})
	if err != api.OK || r.Start(f, v.so.Args) != api.OK {
		t.Fatalf("%v: Resume is %d", m, err)
	}
	v.r = r
	return v
}

// piece goes on for some of the fuel, and holds what comes of that against the second reckoning; it answers whether the run goes on.
func (v *drive) piece(t *testing.T, fuel int) bool {
	t.Helper()
	out, err := v.r.Go(fuel)
	v.so.Fuel += fuel
	want := v.so.Reckon()
	v.so.Fuel -= out.Left
	v.count[out.End]++
	if err != api.OK || !sameOut(out, want.Out) || !sameState(v.r.State(), want.State) || !sameImage(v.r.Image(), want.Image) {
		t.Fatalf("%v: with %v and %v, behind %d, it is %v, %d, %v, not %v, %v", v.so.M, v.so.Args, v.so.Answers, v.so.Fuel,
			out, err, v.r.State(), want.Out, want.State)
	}
	if err := run.Check(v.so.M, v.r.Image(), v.r.State()); err != api.OK {
		t.Fatalf("%v: %v can't be: %d", v.so.M, v.r.State(), err)
	}
	return out.End == api.EndFuel || out.End == api.EndHost && v.answer(t, want.State)
}

// answer gives any answer: s is what waits for it.
func (v *drive) answer(t *testing.T, s api.State) bool {
	t.Helper()
	v.maybeMove(t)
	n := v.Longs(1)[0]
	if err := v.r.Answer(n); err != api.OK {
		t.Fatalf("%v: Answer is %d", v.so.M, err)
	}
	v.so.Answers = append(v.so.Answers, n)
	inner := &s.Calls[len(s.Calls)-1]
	for _, kind := range mod.TypeOf(v.so.M, s.Host-1).Out {
		if kind == i32 {
			n = int64(int32(n))
		}
		inner.Stack = append(inner.Stack, n)
	}
	s.Host = 0
	if !sameState(v.r.State(), s) {
		t.Fatalf("%v: behind the answer it is %v, not %v", v.so.M, v.r.State(), s)
	}
	return true
}

// maybeMove takes up what is under way with another machine.
func (v *drive) maybeMove(t *testing.T) {
	t.Helper()
	if v.Below(3) > 0 {
		return
	}
	q, err := run.Resume(v.so.M, v.r.Image(), v.r.State())
	if err != api.OK || !sameState(q.State(), v.r.State()) || !sameImage(q.Image(), v.r.Image()) {
		t.Fatalf("%v: %v can't be taken up: %d", v.so.M, v.r.State(), err)
	}
	v.r = q
}

// P28, P30, P31, P32: into whatever pieces a run is cut, whoever goes on with it, it is one run.
func TestAnyPieces(t *testing.T) {
	d := probe.Dice(88172645463325252)
	count := map[int]int{}
	for range 1200 {
		m := d.Play()
		for range 2 {
			v := begin(t, &d, m, count)
			most := probe.Pick(&d, 2, 8, 30, 300)
			for range 25 {
				v.maybeMove(t)
				if !v.piece(t, d.Below(most)) {
					break
				}
			}
		}
	}
	for end := 1; end <= 4; end++ {
		if count[end] < 500 {
			t.Errorf("%d: only %d", end, count[end])
		}
	}
}

// P30: at once, a run is that of walk.Call, if the answers are the same.
func TestAtOnce(t *testing.T) {
	d := probe.Dice(2463534242987654321)
	for range 1500 {
		m := d.Play()
		v := begin(t, &d, m, map[int]int{})
		answers, fuel := d.Longs(d.Below(6)), probe.Pick(&d, d.Below(30), d.Below(300), 3000)
		want, image, asks, err := walk.Call(m, v.so.X, v.so.F, v.so.Args, answers, fuel)
		out, wrong := v.r.Go(fuel)
		for out.End == api.EndHost {
			if len(asks) == 0 || !probe.SameAsk(asks[0], api.Ask{Host: out.Host, Vals: out.Vals}) {
				t.Fatalf("%v: it asks %v, not %v", m, out, asks)
			}
			answers = append(answers, 0)
			v.r.Answer(answers[0])
			asks, answers = asks[1:], answers[1:]
			out, wrong = v.r.Go(out.Left)
		}
		if err != api.OK || wrong != api.OK || !sameOut(out, want) || !sameImage(v.r.Image(), image) || len(asks) > 0 {
			t.Fatalf("%v: %v, %d, not %v, %d", m, out, wrong, want, err)
		}
	}
}

// valueOf is any value of that kind.
func valueOf(d *probe.Dice, kind api.Kind) int64 {
	if kind == i32 {
		return int64(int32(d.Longs(1)[0]))
	}
	return d.Longs(1)[0]
}

func valuesOf(d *probe.Dice, kinds []api.Kind) []int64 {
	var all []int64
	for _, kind := range kinds {
		all = append(all, valueOf(d, kind))
	}
	return all
}

// callees are the functions that an instruction may call, by their numbers.
func callees(m api.Module, x api.Ins) []int {
	var all []int
	for number := range len(m.Imports) + len(m.Funcs) {
		s := mod.TypeOf(m, number)
		switch x.Op {
		case 16:
			if int(x.A) == number {
				all = append(all, number)
			}
		case 17:
			want := m.Types[x.A]
			if string(want.In) == string(s.In) && string(want.Out) == string(s.Out) {
				all = append(all, number)
			}
		}
	}
	return all
}

// midst is a call of a function at any place at which it may stand, and the number of what it has called then, or -1.
func midst(d *probe.Dice, m api.Module, own int, mayCall bool) (api.Call, int) {
	f := m.Funcs[own]
	shapes, _ := valid.Shapes(m, own)
	c := api.Call{Func: own, Locals: valuesOf(d, slices.Concat(m.Types[f.Type].In, f.Locals))}
	for range 500 {
		c.At = d.Below(len(f.Body))
		s := shapes[c.At]
		if s.Dead {
			continue
		}
		number := -1
		if mayCall && c.At > 0 && d.Below(12) > 0 {
			all := callees(m, f.Body[c.At-1])
			if len(all) == 0 {
				continue
			}
			number = probe.Pick(d, all...)
			s.Stack = s.Stack[:len(s.Stack)-len(mod.TypeOf(m, number).Out)]
		}
		c.Stack = valuesOf(d, s.Stack)
		return c, number
	}
	return api.Call{Func: own, Locals: c.Locals}, -1
}

// stateOf is any state that a machine of a module may have, as far as P32 knows.
func stateOf(d *probe.Dice, m api.Module) api.State {
	var s api.State
	number := len(m.Imports) + d.Below(len(m.Funcs))
	for number >= len(m.Imports) {
		var c api.Call
		c, number = midst(d, m, number-len(m.Imports), len(s.Calls) < api.MaxCalls-1)
		s.Calls = append(s.Calls, c)
	}
	s.Host = number + 1
	return s
}

// P32: any state that can be may be taken up, and goes on without going wrong.
func TestAnyStates(t *testing.T) {
	d := probe.Dice(362436069521288629)
	deep, waits := 0, 0
	for range 5000 {
		m := d.Play()
		x, s := d.Later(m), stateOf(&d, m)
		r, err := run.Resume(m, x, s)
		if err != api.OK || !sameState(r.State(), s) || !sameImage(r.Image(), x) {
			t.Fatalf("%v: %v can't be taken up: %d", m, s, err)
		}
		if deep = max(deep, len(s.Calls)); s.Host > 0 {
			waits++
		}
		for range 6 {
			if r.State().Host > 0 {
				r.Answer(d.Longs(1)[0])
			}
			out, err := r.Go(d.Below(100))
			if wrong := run.Check(m, r.Image(), r.State()); err != api.OK || wrong != api.OK {
				t.Fatalf("%v: %v goes on to %v, %d, %v, which is %d", m, s, out, err, r.State(), wrong)
			}
			if out.End == api.EndDone || out.End == api.EndTrap {
				break
			}
		}
	}
	if deep < 8 || waits < 500 {
		t.Errorf("only %d deep, %d wait", deep, waits)
	}
}

// isOf tells by the words of P32 whether values are of the kinds.
func isOf(kinds []api.Kind, values []int64) bool {
	if len(kinds) != len(values) {
		return false
	}
	for at, kind := range kinds {
		if kind == i32 && (values[at] < -2147483648 || values[at] > 2147483647) {
			return false
		}
	}
	return true
}

// canBe tells by the words of P32 whether a sound module may have a state of not too many calls.
func canBe(m api.Module, s api.State) bool {
	if s.Host < 0 || s.Host > len(m.Imports) || len(s.Calls) == 0 && s.Host != 0 {
		return false
	}
	for at, c := range s.Calls {
		if c.Func < 0 || c.Func >= len(m.Funcs) {
			return false
		}
		f := m.Funcs[c.Func]
		shapes, _ := valid.Shapes(m, c.Func)
		if c.At < 0 || c.At >= len(f.Body) || shapes[c.At].Dead || !isOf(slices.Concat(m.Types[f.Type].In, f.Locals), c.Locals) {
			return false
		}
		stack, number := shapes[c.At].Stack, s.Host-1
		if at < len(s.Calls)-1 {
			number = len(m.Imports) + s.Calls[at+1].Func
		}
		if at < len(s.Calls)-1 || s.Host > 0 {
			if c.At == 0 || !slices.Contains(callees(m, f.Body[c.At-1]), number) {
				return false
			}
			stack = stack[:len(stack)-len(mod.TypeOf(m, number).Out)]
		}
		if !isOf(stack, c.Stack) {
			return false
		}
	}
	return true
}

// spoiled is a state of which something is another one.
func spoiled(d *probe.Dice, s api.State) api.State {
	s = probe.RoomyState(s)
	if len(s.Calls) == 0 {
		return api.State{Host: d.Below(6)}
	}
	c := &s.Calls[d.Below(len(s.Calls))]
	step := probe.Pick(d, -1, 1)
	switch d.Below(10) {
	case 0:
		s.Host = d.Below(6)
	case 1:
		s.Host += step
	case 2:
		c.Func = d.Below(5)
	case 3:
		c.At += step
	case 4:
		c.At = d.Below(200)
	case 5:
		c.Locals = d.Longs(len(c.Locals))
	case 6:
		c.Stack = d.Longs(len(c.Stack))
	case 7:
		c.Stack = append(c.Stack, d.Longs(1)...)
	case 8:
		c.Stack = c.Stack[:d.Below(len(c.Stack)+1)]
	case 9:
		s.Calls = s.Calls[:d.Below(len(s.Calls)+1)]
	}
	return s
}

// P32: any states that are a little other than such as can be.
func TestSpoiledStates(t *testing.T) {
	d := probe.Dice(141421356237309)
	count := map[api.Errno]int{}
	for range 4000 {
		m := d.Play()
		s := stateOf(&d, m)
		for range 5 {
			s, want := spoiled(&d, s), api.OK
			if !canBe(m, s) {
				want = api.ErrArg
			}
			count[want]++
			if err := run.Check(m, first(m), s); err != want {
				t.Fatalf("%v: Check of %v is %d, not %d", m, s, err, want)
			}
		}
	}
	if count[api.OK] < 1500 || count[api.ErrArg] < 5000 {
		t.Errorf("only %v", count)
	}
}

// errorOf is what Check must say of anything, by the words of P32.
func errorOf(m api.Module, x api.Image, s api.State) api.Errno {
	if err := inst.Fits(m, x); err != api.OK {
		return err
	}
	if len(s.Calls) > 40 {
		return api.ErrLarge
	}
	if !canBe(m, s) {
		return api.ErrArg
	}
	return api.OK
}

// P1, P32: Check and Resume, whatever is given.
func TestCheckAnything(t *testing.T) {
	d := probe.Dice(271828182845904)
	count := map[api.Errno]int{}
	for range 10000 {
		m := d.Spoilt()
		if d.Below(4) == 0 {
			m = d.WildModule()
		}
		x, s := d.WildImage(), d.WildState()
		if _, err := inst.Make(m); err == api.OK && d.Below(8) > 0 {
			x = first(m)
			s = probe.Pick(&d, s, api.State{}, stateOf(&d, with(probe.TypeNothing, nil, "call 4")))
		}
		want := errorOf(m, x, s)
		count[want]++
		r, err := run.Resume(m, x, s)
		if check := run.Check(m, x, s); check != want || err != want || (r == nil) != (want != api.OK) {
			t.Fatalf("%v, %v, %v: Check is %d, Resume is %v, %d, not %d", m, x, s, check, r, err, want)
		}
	}
	for _, err := range []api.Errno{api.OK, api.ErrArg, api.ErrLarge} {
		if count[err] < 50 {
			t.Errorf("%d: only %d", err, count[err])
		}
	}
}

// P1: the calls of a machine, whatever is given, in any order.
func TestAnyCalls(t *testing.T) {
	d := probe.Dice(577215664901532)
	for range 1500 {
		m := probe.Pick(&d, d.Spoilt(), d.WildModule(), d.Play())
		_, want := inst.Make(m)
		r, err := run.New(m)
		if err != want || (r == nil) != (want != api.OK) {
			t.Fatalf("%v: New is %d, not %d", m, err, want)
		}
		for range 40 {
			if r == nil {
				break
			}
			calls(t, &d, m, r)
		}
	}
}

// calls makes one call of a machine, and holds its error against what the machine tells of itself.
func calls(t *testing.T, d *probe.Dice, m api.Module, r *run.Machine) {
	t.Helper()
	s := r.State()
	isIdle, waits := len(s.Calls) == 0, s.Host > 0
	var err, want api.Errno
	switch d.Below(5) {
	case 0:
		f := probe.Pick(d, d.Wild(), len(m.Imports)+d.Below(4))
		values := d.Longs(d.Below(5))
		err = r.Start(f, values)
		switch {
		case !isIdle:
			want = api.ErrBusy
		case f < len(m.Imports) || f >= len(m.Imports)+len(m.Funcs):
			want = api.ErrIndex
		case len(values) != len(mod.TypeOf(m, f).In):
			want = api.ErrArg
		}
	case 1, 2:
		fuel := probe.Pick(d, d.Wild(), d.Below(50))
		_, err = r.Go(fuel)
		switch {
		case fuel < 0 || fuel > 100000:
			want = api.ErrArg
		case isIdle:
			want = api.ErrIdle
		case waits:
			want = api.ErrBusy
		}
	case 3:
		err = r.Answer(int64(d.Wild()))
		if !waits {
			want = api.ErrIdle
		}
	case 4:
		at, n, length := int64(d.Wild()), int64(d.Wild()), int64(len(r.Image().Mem))
		_, err = r.Peek(at, n)
		if at < 0 || n < 0 || at > length || n > length-at {
			want = api.ErrBounds
		}
	}
	if err != want {
		t.Fatalf("%v, %v: %d, not %d", m, s, err, want)
	}
	if err != api.OK && !sameState(r.State(), s) {
		t.Fatalf("%v: %v has become %v", m, s, r.State())
	}
}
