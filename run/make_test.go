package run_test

import (
	"testing"

	"troupe/api"
	"troupe/probe"
	"troupe/run"
)

const (
	i32 = api.I32
	i64 = api.I64
)

var (
	kinds     = probe.Kinds
	args      = probe.Args
	stage     = probe.Stage
	with      = probe.With
	first     = probe.First
	sameOut   = probe.SameOut
	sameState = probe.SameState
	sameImage = probe.SameImage
)

// begun is a new machine of m.
func begun(t *testing.T, m api.Module) *run.Machine {
	t.Helper()
	r, err := run.New(m)
	if err != api.OK {
		t.Fatalf("%v: New is %d", m, err)
	}
	return r
}

// started is a new machine of m, on which main is called.
func started(t *testing.T, m api.Module, values ...int64) *run.Machine {
	t.Helper()
	r := begun(t, m)
	if err := r.Start(probe.Main, values); err != api.OK {
		t.Fatalf("%v: Start with %v is %d", m, values, err)
	}
	return r
}

// playing is started of stage with that body of main.
func playing(t *testing.T, number int, locals []api.Kind, text string, values ...int64) *run.Machine {
	t.Helper()
	return started(t, with(number, locals, text), values...)
}

// goes lets a machine go on, and holds how that ends against want.
func goes(t *testing.T, r *run.Machine, fuel int, want api.Out) {
	t.Helper()
	if out, err := r.Go(fuel); err != api.OK || !sameOut(out, want) {
		t.Errorf("%d of the fuel: %v, %d, not %v", fuel, out, err, want)
	}
}

// stands holds the state of a machine against want, and asks whether it can be one.
func stands(t *testing.T, m api.Module, r *run.Machine, want api.State) {
	t.Helper()
	if s := r.State(); !sameState(s, want) {
		t.Errorf("the state is %v, not %v", s, want)
	}
	if err := run.Check(m, r.Image(), want); err != api.OK {
		t.Errorf("%v: Check is %d", want, err)
	}
}

// done, trapped, spent and asked are the four ends.
func done(left int, vals ...int64) api.Out {
	return api.Out{End: 1, Vals: vals, Left: left}
}

func trapped(left int, why api.Errno) api.Out {
	return api.Out{End: 2, Trap: why, Left: left}
}

func spent() api.Out {
	return api.Out{End: 3}
}

func asked(left, host int, vals ...int64) api.Out {
	return api.Out{End: 4, Host: host, Vals: vals, Left: left}
}

// under is a state in which no answer is waited for.
func under(calls ...api.Call) api.State {
	return api.State{Calls: calls}
}

// waiting is a state in which the answer of an import is waited for.
func waiting(host int, calls ...api.Call) api.State {
	return api.State{Calls: calls, Host: host + 1}
}

// at is a call of one of the module's own functions, without locals.
func at(own, place int, stack ...int64) api.Call {
	return api.Call{Func: own, At: place, Stack: stack}
}

// having is c with these locals.
func having(c api.Call, locals ...int64) api.Call {
	c.Locals = locals
	return c
}
