package run_test

import (
	"testing"

	"troupe/api"
	"troupe/probe"
	"troupe/run"
)

// P31: of EndFuel the place is that of the instruction that would have cost; the stack is what lies there then.
func TestStateOfFuel(t *testing.T) {
	m := with(probe.TypeInt, kinds(i32, i64), "int 2, set 0, long 9, tee 1, cut, get 0, mul")
	for fuel, want := range []api.Call{
		having(at(0, 0), 0, 0),
		having(at(0, 1, 2), 0, 0),
		having(at(0, 2), 2, 0),
		having(at(0, 3, 9), 2, 0),
		having(at(0, 4, 9), 2, 9),
		having(at(0, 5, 9), 2, 9),
		having(at(0, 6, 9, 2), 2, 9),
	} {
		r := started(t, m)
		goes(t, r, fuel, spent())
		stands(t, m, r, under(want))
	}
}

// P31: what costs nothing is done ahead of that: an end, an else; a way is gone at once.
func TestStateOfWays(t *testing.T) {
	for _, s := range []struct {
		text string
		fuel int
		want api.Call
	}{
		{"block, block, end, end, int 5", 2, at(0, 4)},
		{"int 1, if, nop, else, nop, end, int 5", 3, at(0, 6)},
		{"int 0, if, nop, else, nop, end, int 5", 2, at(0, 4)},
		{"int 0, if, nop, else, nop, end, int 5", 3, at(0, 6)},
		{"int 0, if, nop, end, int 5", 2, at(0, 4)},
		{"int 7, block, int 8, int 9, br 0, end, nop", 5, at(0, 6, 7)},
		{"int 7, block i32, int 8, int 9, br 0, end, add", 5, at(0, 6, 7, 9)},
		{"int 7, block i32, int 8, int 9, int 1, br_if 0, drop, end, add", 6, at(0, 8, 7, 9)},
		{"int 7, block i32, int 8, int 9, int 0, br_if 0, mul, end, add", 6, at(0, 6, 7, 8, 9)},
		{"int 7, loop, int 8, int 1, br_if 0, drop, end", 5, at(0, 1, 7)},
		{"int 7, loop, loop, int 8, br 1, end, end", 5, at(0, 1, 7)},
		{"int 7, block, block, int 1, br_table 0 1 0, end, nop, end, nop", 5, at(0, 8, 7)},
		{"int 7, block, block, int 9, br_table 1 1 0, end, nop, end, nop", 5, at(0, 6, 7)},
	} {
		m := with(probe.TypeInt, nil, s.text)
		r := started(t, m)
		goes(t, r, s.fuel, spent())
		stands(t, m, r, under(s.want))
	}
}

// P31: a call that has called another one stands behind the call, without what that took; the innermost is the last.
func TestStateOfCalls(t *testing.T) {
	m := with(probe.TypeIn, kinds(i64), "long 70, set 1, int 60, int 1, get 0, call 6, mul, drop")
	m.Funcs[2].Body = probe.Body("int 80, get 0, int 2, indirect 5, get 1, sub, br 0")
	m.Elems[0].Funcs[1] = probe.Next
	outer := having(at(0, 6, 60), 5, 70)
	middle := having(at(2, 4, 80), 1, 5)
	for fuel, want := range map[int]api.State{
		4:  under(having(at(0, 4, 60, 1), 5, 70)),
		5:  under(having(at(0, 5, 60, 1, 5), 5, 70)),
		6:  under(outer, having(at(2, 0), 1, 5)),
		9:  under(outer, having(at(2, 3, 80, 1, 2), 1, 5)),
		10: under(outer, middle, having(at(1, 0), 1)),
		12: under(outer, middle, having(at(1, 2, 1, 1), 1)),
		13: under(outer, having(at(2, 4, 80, 2), 1, 5)),
		14: under(outer, having(at(2, 5, 80, 2, 5), 1, 5)),
		15: under(outer, having(at(2, 6, 80, -3), 1, 5)),
		16: under(having(at(0, 6, 60, -3), 5, 70)),
		17: under(having(at(0, 7, -180), 5, 70)),
	} {
		r := started(t, m, 5)
		goes(t, r, fuel, spent())
		stands(t, m, r, want)
	}
}

// P31: behind a call there may be an end or an else, at which a call stands that has called another one.
func TestStateAhead(t *testing.T) {
	m := with(probe.TypeInt, nil, "int 1, if i32, int 4, call 5, else, int 3, end")
	r := started(t, m)
	goes(t, r, 4, spent())
	stands(t, m, r, under(at(0, 4), having(at(1, 0), 4)))
	goes(t, r, 3, done(0, 5))
	m = with(probe.TypeInt, nil, "int 4, call 5")
	r = started(t, m)
	goes(t, r, 4, spent())
	stands(t, m, r, under(at(0, 2), having(at(1, 2, 4, 1), 4)))
}

// P31: of one that waits for an answer: that behind the call, Host 1 more than the import's number, and what is given lies there behind the answer.
func TestStateOfHost(t *testing.T) {
	m := with(probe.TypeLong, kinds(i32), "int 60, int 2, long 3, call 0, call 3, int 4, indirect 1, widen, add64, return")
	r := started(t, m)
	goes(t, r, 9, asked(5, probe.HostBoth, 2, 3))
	stands(t, m, r, waiting(probe.HostBoth, having(at(0, 4, 60), 0)))
	r.Answer(-5)
	stands(t, m, r, under(having(at(0, 4, 60, -5), 0)))
	goes(t, r, 1, asked(0, probe.HostNothing))
	stands(t, m, r, waiting(probe.HostNothing, having(at(0, 5, 60, -5), 0)))
	r.Answer(-6)
	stands(t, m, r, under(having(at(0, 5, 60, -5), 0)))
	goes(t, r, 3, asked(1, probe.HostInt))
	stands(t, m, r, waiting(probe.HostInt, having(at(0, 7, 60, -5), 0)))
	r.Answer(-7)
	stands(t, m, r, under(having(at(0, 7, 60, -5, -7), 0)))
	goes(t, r, 0, spent())
	stands(t, m, r, under(having(at(0, 7, 60, -5, -7), 0)))
	goes(t, r, 9, done(6, -12))
	stands(t, m, r, api.State{})
}

// P31: behind an answer the place is that behind the call, also if that costs nothing.
func TestStateOfAnswer(t *testing.T) {
	m := with(probe.TypeInt, nil, "block i32, int 1, if i32, call 2, else, int 3, end, end")
	r := started(t, m)
	goes(t, r, 4, asked(0, probe.HostInt))
	r.Answer(8)
	stands(t, m, r, under(at(0, 4, 8)))
	goes(t, r, 0, done(0, 8))
	m = with(probe.TypeInt, nil, "int 4, call 5")
	m.Funcs[1].Body = probe.Body("call 3, get 0")
	r = started(t, m)
	goes(t, r, 3, asked(0, probe.HostNothing))
	stands(t, m, r, waiting(probe.HostNothing, at(0, 2), having(at(1, 1), 4)))
	r.Answer(8)
	stands(t, m, r, under(at(0, 2), having(at(1, 1), 4)))
	goes(t, r, 1, done(0, 4))
}

// P31: the image is what the instance has at any time, what was done last included.
func TestImage(t *testing.T) {
	m := with(probe.TypeNothing, nil, "int 8, gset 0, int 0, long -1, store64, call 3, int 1, grow, gset 0, unreachable")
	r := started(t, m)
	want := first(m)
	holds := func() {
		t.Helper()
		if !sameImage(r.Image(), want) {
			t.Errorf("%v, %d bytes, not %v, %d bytes", r.Image(), len(r.Image().Mem), want, len(want.Mem))
		}
	}
	holds()
	goes(t, r, 1, spent())
	holds()
	goes(t, r, 1, spent())
	want.Globals[0] = 8
	holds()
	goes(t, r, 9, asked(5, probe.HostNothing))
	want.Mem = "\xff\xff\xff\xff\xff\xff\xff\xff" + want.Mem[8:]
	holds()
	r.Answer(0)
	goes(t, r, 9, trapped(5, api.ErrUnreachable))
	want.Globals[0] = 1
	want.Mem += want.Mem[8:16] + want.Mem[8:256] // zeros
	holds()
}

// P31: what a machine tells is enough to make one that goes on the same way, wherever it is stopped.
func TestTakenUp(t *testing.T) {
	m := with(probe.TypeIntInt, nil, "get 0, if i32, get 0, int 1, sub, call 4, int 3, mul, else, call 2, end, gget 0, int 1, add, gset 0")
	for fuel := range 60 {
		r := started(t, m, 3)
		cut, err := r.Go(fuel)
		q, resumed := run.Resume(m, r.Image(), r.State())
		if err != api.OK || resumed != api.OK {
			t.Fatalf("%d of the fuel: Go is %d, Resume is %d", fuel, err, resumed)
		}
		if cut.End == api.EndFuel {
			goes(t, q, 60-fuel, asked(60-21, probe.HostInt))
		}
		if err := q.Answer(7); err != api.OK {
			t.Fatalf("%d of the fuel: Answer is %d", fuel, err)
		}
		goes(t, q, 100, done(100-22, 189))
		if x := q.Image(); x.Globals[0] != 11 {
			t.Errorf("%v", x.Globals)
		}
	}
}
