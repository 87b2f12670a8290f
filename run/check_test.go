package run_test

import (
	"math"
	"slices"
	"strconv"
	"testing"

	"troupe/api"
	"troupe/probe"
	"troupe/run"
)

// says holds what Check and Resume say of a state against want.
func says(t *testing.T, what string, m api.Module, x api.Image, s api.State, want api.Errno) {
	t.Helper()
	if err := run.Check(m, x, s); err != want {
		t.Errorf("%s: Check is %d, not %d", what, err, want)
	}
	r, err := run.Resume(m, x, s)
	if err != want || (r == nil) != (want != api.OK) {
		t.Errorf("%s: Resume is %v, %d, not %d", what, r, err, want)
	}
	if r != nil && (!sameState(r.State(), s) || !sameImage(r.Image(), x)) {
		t.Errorf("%s: what is taken up is %v, not %v", what, r.State(), s)
	}
}

// may holds that a state of a module is one that can be, and mayNot that it isn't.
func may(t *testing.T, what string, m api.Module, s api.State) {
	t.Helper()
	says(t, what, m, first(m), s, api.OK)
}

func mayNot(t *testing.T, what string, m api.Module, s api.State) {
	t.Helper()
	says(t, what, m, first(m), s, api.ErrArg)
}

// P32: inst.Fits comes first, whatever the state is.
func TestCheckFits(t *testing.T) {
	long := under(slices.Repeat([]api.Call{at(0, 0)}, 41)...)
	for want, m := range probe.WrongModules() {
		for _, s := range []api.State{{}, {Host: 9}, long} {
			says(t, "a wrong module", m, first(stage()), s, want)
		}
	}
	for _, x := range probe.WrongImages() {
		for _, s := range []api.State{{}, {Host: 9}, long} {
			says(t, "a wrong image", stage(), x, s, api.ErrArg)
		}
	}
}

// P32: ErrLarge, if there are more than 40 calls, whatever else is wrong.
func TestCheckLarge(t *testing.T) {
	m := with(probe.TypeNothing, nil, "call 4, call 3")
	calls := append(slices.Repeat([]api.Call{at(0, 1)}, 39), at(0, 0))
	for count := range 41 {
		may(t, strconv.Itoa(count)+" calls", m, under(calls[40-count:]...))
	}
	says(t, "41 calls", m, first(m), under(append([]api.Call{at(0, 1)}, calls...)...), api.ErrLarge)
	says(t, "41 calls that can't be", m, first(m), api.State{Calls: slices.Repeat([]api.Call{at(-1, -1, 7)}, 41), Host: -1}, api.ErrLarge)
	says(t, "500 calls", m, first(m), under(slices.Repeat([]api.Call{at(0, 1)}, 500)...), api.ErrLarge)
	mayNot(t, "40 calls that can't be", m, under(slices.Repeat([]api.Call{at(0, 0)}, 40)...))
}

// P32: Host is from 0 to the number of imports, and 0 without calls.
func TestCheckHost(t *testing.T) {
	m := with(probe.TypeNothing, nil, "call 3, nop")
	may(t, "nothing", m, api.State{})
	may(t, "begun", m, under(at(0, 0)))
	may(t, "it waits", m, api.State{Calls: []api.Call{at(0, 1)}, Host: 4})
	for _, host := range []int{-1, 1, 2, 3, 5, 6, 99, math.MinInt, math.MaxInt, 1<<32 + 4} {
		mayNot(t, "host "+strconv.Itoa(host), m, api.State{Calls: []api.Call{at(0, 1)}, Host: host})
		mayNot(t, "no calls, host "+strconv.Itoa(host), m, api.State{Host: host})
	}
	mayNot(t, "no calls, host 4", m, api.State{Host: 4})
	own := api.Module{Types: []api.Sig{{}}, Funcs: []api.Func{{Body: probe.Body("call 0")}}}
	may(t, "no imports", own, under(at(0, 1), at(0, 1)))
	mayNot(t, "no imports, host 1", own, api.State{Calls: []api.Call{at(0, 1), at(0, 1)}, Host: 1})
}

// P32: each Func is one of Funcs.
func TestCheckFunc(t *testing.T) {
	m := with(probe.TypeNothing, nil, "call 3, call 4")
	for own := range 4 {
		values := map[int][]int64{1: {1}, 2: {1, 2}, 3: {1, 2, 3, 4}}[own]
		may(t, "function "+strconv.Itoa(own), m, under(having(at(own, 0), values...)))
	}
	for _, own := range []int{-1, 4, 5, 8, math.MinInt, math.MaxInt, 1 << 32} {
		mayNot(t, "function "+strconv.Itoa(own), m, under(at(own, 0)))
		mayNot(t, "function "+strconv.Itoa(own)+" calls", m, under(at(own, 2), at(0, 0)))
		mayNot(t, "function "+strconv.Itoa(own)+" is called", m, under(at(0, 2), at(own, 0)))
	}
	mayNot(t, "a function of a module without one", api.Module{}, under(at(0, 0)))
}

// P32: At is a place of the body whose instruction is not dead.
func TestCheckAt(t *testing.T) {
	m := with(probe.TypeNothing, nil, "nop, block, br 0, nop, end, nop")
	for place := range 7 {
		want := api.OK
		if place == 3 || place == 4 {
			want = api.ErrArg
		}
		says(t, "place "+strconv.Itoa(place), m, first(m), under(at(0, place)), want)
	}
	for _, place := range []int{-1, 7, 8, 200, math.MinInt, math.MaxInt, 1 << 32} {
		mayNot(t, "place "+strconv.Itoa(place), m, under(at(0, place)))
	}
	m = with(probe.TypeInt, nil, "int 1, return, call 2, nop")
	mayNot(t, "a dead call", m, waiting(probe.HostInt, at(0, 3)))
	mayNot(t, "a dead end", m, under(at(0, 4, 1)))
	mayNot(t, "a dead end with nothing", m, under(at(0, 4)))
	m = with(probe.TypeInt, nil, "int 1, if i32, int 2, return, else, int 3, end")
	mayNot(t, "a dead else", m, under(at(0, 4)))
	may(t, "behind a dead else", m, under(at(0, 5)))
	may(t, "an end", m, under(at(0, 6, 5)))
	may(t, "the body's own end", m, under(at(0, 7, 5)))
}

// P32: locals are as many as the function has, those that it takes first, of their kinds.
func TestCheckLocals(t *testing.T) {
	m := with(probe.TypeBoth, kinds(i64, i32), "long 1")
	for _, n := range probe.Edges() {
		want := api.OK
		if n < math.MinInt32 || n > math.MaxInt32 {
			want = api.ErrArg
		}
		name := strconv.FormatInt(n, 10)
		says(t, "an I32 that is taken: "+name, m, first(m), under(having(at(0, 0), n, 2, 3, 4)), want)
		says(t, "an I32 of its own: "+name, m, first(m), under(having(at(0, 0), 1, 2, 3, n)), want)
		may(t, "an I64 that is taken: "+name, m, under(having(at(0, 0), 1, n, 3, 4)))
		may(t, "an I64 of its own: "+name, m, under(having(at(0, 0), 1, 2, n, 4)))
	}
	for _, values := range [][]int64{nil, args(1), args(1, 2), args(1, 2, 3), args(1, 2, 3, 4, 5), args(1, 2, 3, 4, 0, 0, 0)} {
		mayNot(t, strconv.Itoa(len(values))+" locals", m, under(having(at(0, 0), values...)))
	}
	m = with(probe.TypeNothing, kinds(i32), "call 3")
	mayNot(t, "of one that waits", m, waiting(probe.HostNothing, at(0, 1)))
	may(t, "of one that waits", m, waiting(probe.HostNothing, having(at(0, 1), 7)))
	mayNot(t, "of one that waits", m, waiting(probe.HostNothing, having(at(0, 1), 1<<31)))
}

// P32: the stack of the last call is of the kinds that are known at its place.
func TestCheckStack(t *testing.T) {
	m := with(probe.TypeNothing, nil, "int 1, long 2, block, int 3, drop, end, drop, drop")
	for place, stack := range [][]int64{nil, {1}, {1, 2}, {1, 2}, {1, 2, 3}, {1, 2}, {1, 2}, {1}, nil} {
		name := "place " + strconv.Itoa(place)
		may(t, name, m, under(at(0, place, stack...)))
		mayNot(t, name+" with one more", m, under(at(0, place, append(stack, 0)...)))
		if len(stack) > 0 {
			mayNot(t, name+" with one less", m, under(at(0, place, stack[1:]...)))
		}
	}
	for _, n := range probe.Edges() {
		want := api.OK
		if n < math.MinInt32 || n > math.MaxInt32 {
			want = api.ErrArg
		}
		name := strconv.FormatInt(n, 10)
		says(t, "an I32 below: "+name, m, first(m), under(at(0, 4, n, 2, 3)), want)
		says(t, "an I32 on top: "+name, m, first(m), under(at(0, 4, 1, 2, n)), want)
		may(t, "an I64: "+name, m, under(at(0, 4, 1, n, 3)))
	}
}

// P32: one that waits has a call of the very import ahead of its place, or a call_indirect of the same type; its stack lacks what is given.
func TestCheckWaits(t *testing.T) {
	m := with(probe.TypeNothing, nil, "nop, int 1, long 2, call 0, drop, call 2, int 3, long 4, int 5, indirect 3, drop, drop, int 6, indirect 1, drop, call 3, nop")
	for host := range 4 {
		for place, want := range map[int][]int{4: {probe.HostBoth}, 6: {probe.HostInt}, 10: {probe.HostBoth}, 14: {probe.HostInt}, 16: {probe.HostNothing}} {
			stack := map[int][]int64{10: {9}}[place]
			name := "import " + strconv.Itoa(host) + " at place " + strconv.Itoa(place)
			if slices.Contains(want, host) {
				may(t, name, m, waiting(host, at(0, place, stack...)))
				mayNot(t, name+" with what is given", m, waiting(host, at(0, place, append(stack, 1)...)))
				continue
			}
			mayNot(t, name, m, waiting(host, at(0, place, stack...)))
			mayNot(t, name, m, waiting(host, at(0, place, append(stack, 1)...)))
		}
	}
	for place := range 18 {
		if !slices.Contains([]int{4, 6, 10, 14, 16}, place) {
			for host := range 4 {
				for _, stack := range [][]int64{nil, {1}, {1, 2}, {1, 2, 3}} {
					mayNot(t, "no call ahead of "+strconv.Itoa(place), m, waiting(host, at(0, place, stack...)))
				}
			}
		}
	}
	mayNot(t, "a call that has gone on", m, under(at(0, 4)))
	may(t, "a call that has gone on", m, under(at(0, 4, 1<<62)))
}

// P32: an answer of a call_indirect may be that of any import of the same type, which is told by what it takes and gives.
func TestCheckWaitsSame(t *testing.T) {
	m := with(probe.TypeNothing, nil, "int 7, int 1, indirect 9, drop")
	m.Imports = []api.Import{{Name: "a", Type: probe.TypeIntInt}, {Name: "b", Type: probe.TypeAgain}, {Name: "c", Type: probe.TypeIn}, {Name: "d", Type: probe.TypeIntLong}}
	m.Funcs = m.Funcs[:1]
	m.Elems = nil
	may(t, "of the same number", m, waiting(1, at(0, 3)))
	may(t, "of another number", m, waiting(0, at(0, 3)))
	mayNot(t, "that gives nothing", m, waiting(2, at(0, 3)))
	mayNot(t, "that gives something else", m, waiting(3, at(0, 3)))
}

// P32: ahead of the place of each other call there is a call of the very function that is next, or a call_indirect of its type.
func TestCheckCalls(t *testing.T) {
	m := with(probe.TypeNothing, nil, "int 1, call 5, drop, int 2, int 3, call 6, drop, int 4, int 1, indirect 9, drop, nop, call 4, int 5, int 6, int 7, indirect 6, drop")
	next, less := having(at(1, 0), 1), having(at(2, 0), 2, 3)
	for _, s := range []struct {
		place  int
		callee api.Call
		want   api.Errno
	}{
		{2, next, api.OK},
		{2, less, api.ErrArg},
		{2, at(0, 0), api.ErrArg},
		{6, less, api.OK},
		{6, next, api.ErrArg},
		{10, next, api.OK},
		{10, less, api.ErrArg},
		{10, at(0, 0), api.ErrArg},
		{17, less, api.OK},
		{17, next, api.ErrArg},
		{13, at(0, 0), api.OK},
		{13, at(0, 11), api.OK},
		{13, next, api.ErrArg},
		{0, at(0, 0), api.ErrArg},
		{1, next, api.ErrArg},
		{3, next, api.ErrArg},
		{12, at(0, 0), api.ErrArg},
		{18, less, api.ErrArg},
	} {
		name := strconv.Itoa(s.place) + " calls " + strconv.Itoa(s.callee.Func)
		says(t, name, m, first(m), under(at(0, s.place), s.callee), s.want)
		says(t, name+" behind others", m, first(m), under(at(0, 13), at(0, 13), at(0, s.place), s.callee), s.want)
	}
	mayNot(t, "with what is given", m, under(at(0, 2, 9), next))
	mayNot(t, "what the outer one waits for", m, waiting(probe.HostNothing, at(0, 13), at(0, 12)))
	may(t, "one that is called in its midst", m, under(at(0, 2), having(at(1, 2, 5, 1), 5)))
	mayNot(t, "one that is called in its midst with less", m, under(at(0, 2), having(at(1, 2, 5), 5)))
}

// P32: the table is not asked what stands in it: the type of what a call_indirect calls is enough.
func TestCheckTable(t *testing.T) {
	m := with(probe.TypeNothing, nil, "int 4, int 1, indirect 5, drop")
	x := first(m)
	for place := range x.Table {
		x.Table[place] = -1
	}
	says(t, "an empty table", m, x, under(at(0, 3), having(at(1, 0), 4)), api.OK)
}

// P32: what is taken up goes on as it stands.
func TestResume(t *testing.T) {
	m := with(probe.TypeInt, kinds(i64), "int 1, call 5, int 2, call 2, mul, add, get 0, cut, sub")
	x := first(m)
	x.Globals[0] = 12
	r, err := run.Resume(m, x, waiting(probe.HostInt, having(at(0, 4, 30, 2), 7)))
	if err != api.OK {
		t.Fatalf("Resume is %d", err)
	}
	busy(t, r)
	if _, err := r.Go(5); err != api.ErrBusy {
		t.Errorf("Go is %d", err)
	}
	r.Answer(5)
	goes(t, r, 9, done(4, 33))
	r, err = run.Resume(m, x, under(having(at(0, 2), -7), having(at(1, 2, 44, 3), 9)))
	if err != api.OK {
		t.Fatalf("Resume is %d", err)
	}
	if _, err := r.Go(-1); err != api.ErrArg {
		t.Errorf("Go is %d", err)
	}
	goes(t, r, 9, asked(6, probe.HostInt))
	stands(t, m, r, waiting(probe.HostInt, having(at(0, 4, 47, 2), -7)))
	r, err = run.Resume(m, x, api.State{})
	if err != api.OK || r.Answer(5) != api.ErrIdle || r.Start(probe.Next, args(4)) != api.OK {
		t.Errorf("Resume is %d", err)
	}
	goes(t, r, 3, done(0, 5))
}

// P32: calls that are taken up count among those that may be under way.
func TestResumeDeep(t *testing.T) {
	m := with(probe.TypeNothing, nil, "call 4")
	calls := append(slices.Repeat([]api.Call{at(0, 1)}, 38), at(0, 0))
	r, err := run.Resume(m, first(m), under(calls...))
	if err != api.OK {
		t.Fatalf("Resume is %d", err)
	}
	goes(t, r, 1, spent())
	if s := r.State(); len(s.Calls) != 40 {
		t.Errorf("%d calls", len(s.Calls))
	}
	goes(t, r, 5, trapped(4, api.ErrStack))
}
