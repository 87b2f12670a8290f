package shot_test

import (
	"testing"

	"troupe/api"
	"troupe/mod"
	"troupe/probe"
	"troupe/run"
	"troupe/shot"
)

// moved is a machine that was told as a text, and taken up elsewhere.
func moved(t *testing.T, m api.Module, r *run.Machine) *run.Machine {
	t.Helper()
	text, err := shot.Write(r.Image(), r.State())
	if err != api.OK {
		t.Fatalf("%v, %v can't be told: %d", r.Image(), r.State(), err)
	}
	x, s, err := shot.Read(text)
	if err != api.OK {
		t.Fatalf("%x can't be read: %d", text, err)
	}
	q, err := run.Resume(m, x, s)
	if err != api.OK {
		t.Fatalf("%v: %v, %v can't be taken up: %d", m, x, s, err)
	}
	return q
}

// started is a machine of m on which a function is called.
func started(t *testing.T, m api.Module, f int, values []int64) *run.Machine {
	t.Helper()
	r, err := run.New(m)
	if err != api.OK {
		t.Fatalf("%v: New is %d", m, err)
	}
	if err := r.Start(f, values); err != api.OK {
		t.Fatalf("%v: Start is %d", m, err)
	}
	return r
}

// after lets a machine go on for as much of the fuel, piece by piece, and answers how that ended; behind each piece it is moved, if that is asked for.
func after(t *testing.T, m api.Module, r *run.Machine, fuel, piece int, moves bool) (*run.Machine, api.Out) {
	t.Helper()
	for {
		size := min(piece, fuel)
		out, err := r.Go(size)
		if err != api.OK {
			t.Fatalf("%v: Go is %d", m, err)
		}
		fuel -= size - out.Left
		if moves {
			r = moved(t, m, r)
		}
		switch {
		case out.End == api.EndHost:
			if err := r.Answer(int64(3*out.Host - 4)); err != api.OK {
				t.Fatalf("%v: Answer is %d", m, err)
			}
		case out.End != api.EndFuel || fuel == 0:
			out.Left = fuel
			return r, out
		}
	}
}

// P35, P36: into whatever pieces a run is cut, told as texts and taken up elsewhere, it is one run.
func TestOneRun(t *testing.T) {
	d := probe.Dice(141421356237309)
	count := map[int]int{}
	for range 500 {
		m := d.Play()
		f := probe.Main + d.Below(len(m.Funcs))
		values := d.Longs(len(mod.TypeOf(m, f).In))
		for _, fuel := range []int{0, 1 + d.Below(20), 200} {
			want, out := after(t, m, started(t, m, f, values), fuel, fuel, false)
			count[out.End]++
			for _, piece := range []int{1, 2 + d.Below(9), fuel} {
				r, got := after(t, m, started(t, m, f, values), fuel, piece, true)
				if !probe.SameOut(got, out) || !probe.SameImage(r.Image(), want.Image()) || !probe.SameState(r.State(), want.State()) {
					t.Fatalf("%v: with %v, for %d by %d: %v, %v, not %v, %v", m, values, fuel, piece, got, r.State(), out, want.State())
				}
			}
		}
	}
	for _, end := range []int{api.EndDone, api.EndTrap, api.EndFuel} {
		if count[end] < 100 {
			t.Errorf("%d: only %d", end, count[end])
		}
	}
}

// P35, P36: as many calls as there may be in one another.
func TestDeepest(t *testing.T) {
	m := probe.With(probe.TypeIntInt, probe.Kinds(api.I64), "get 0, int 1, add, call 4")
	r := started(t, m, probe.Main, args(7))
	for {
		out, err := r.Go(4)
		if err != api.OK || out.End == api.EndTrap {
			break
		}
		r = moved(t, m, r)
		if calls := r.State().Calls; len(calls) == 40 {
			if last := calls[39]; last.Locals[0] != 46 {
				t.Errorf("the innermost of 40 calls is %v", last)
			}
			return
		}
	}
	t.Error("there are never 40 calls")
}
