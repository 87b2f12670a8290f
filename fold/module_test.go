package fold_test

import (
	"reflect"
	"testing"

	"troupe/api"
	"troupe/fold"
	"troupe/probe"
	"troupe/valid"
)

// sameModule tells whether two modules are the same; lists that have nothing in them may be there or not.
func sameModule(m, other api.Module) bool {
	return reflect.DeepEqual(probe.RoomyModule(m), probe.RoomyModule(other))
}

// foldsModule holds what becomes of a module against the words of P34, and answers its error.
func foldsModule(t *testing.T, m api.Module) api.Errno {
	t.Helper()
	want, wantErr := api.Module{}, valid.Module(m)
	if wantErr == api.OK {
		want = m
		want.Funcs = nil
		for _, f := range m.Funcs {
			f.Body, _ = reckon(f.Body)
			want.Funcs = append(want.Funcs, f)
		}
	}
	got, err := fold.Module(m)
	if err != wantErr || !sameModule(got, want) {
		t.Fatalf("%v becomes %v, %d, not %v, %d", m, got, err, want, wantErr)
	}
	if err != api.OK && !reflect.DeepEqual(got, api.Module{}) {
		t.Fatalf("%v: beside %d is told %v", m, err, got)
	}
	return err
}

// P34: each body is folded, and all else is as it is.
func TestModule(t *testing.T) {
	m := stage()
	m.Start = probe.Main + 1
	m.Funcs[0].Body = body("int 2, int 3, mul, drop")
	m.Funcs[0].Locals = probe.Kinds(api.I64, api.I32)
	m.Funcs[1].Body = body("get 0, set 0, get 0, int 1, add")
	m.Funcs[3].Body = body("int 1, if, nop, end, return, return")
	got, err := fold.Module(m)
	want := m
	want.Funcs = []api.Func{m.Funcs[0], m.Funcs[1], m.Funcs[2], m.Funcs[3]}
	want.Funcs[0].Body = body("")
	want.Funcs[1].Body = body("get 0, tee 0, int 1, add")
	want.Funcs[3].Body = body("return")
	if err != api.OK || !sameModule(got, want) {
		t.Errorf("%v becomes %v, %d", m, got, err)
	}
	foldsModule(t, m)
}

// P34: a module without functions, and one without anything, stay as they are.
func TestModuleWithoutFuncs(t *testing.T) {
	foldsModule(t, api.Module{})
	foldsModule(t, api.Module{Types: []api.Sig{{}}, Imports: []api.Import{{Name: "a"}}, Pages: 1, Most: 2, Globals: []api.Global{{Kind: api.I64, Start: 5}}})
}

// P34: a module that is not sound is what valid.Module says of it, also if its bodies would be sound once they were folded.
func TestModuleErrors(t *testing.T) {
	for want, m := range probe.WrongModules() {
		if err := foldsModule(t, m); err != want {
			t.Errorf("%v: %d, not %d", m, err, want)
		}
	}
	for want, text := range map[api.Errno]string{
		api.ErrIndex: "return, get 9",
		api.ErrAlign: "return, load 3 0",
		api.ErrType:  "return, int 1, long 2, add",
	} {
		if err := foldsModule(t, with(probe.TypeNothing, nil, text)); err != want {
			t.Errorf("%s: %d, not %d", text, err, want)
		}
		// Another body that is wrong comes behind it.
		m := with(probe.TypeNothing, nil, "nop")
		m.Funcs[3].Body = body(text)
		if err := foldsModule(t, m); err != want {
			t.Errorf("%s, in the last body: %d, not %d", text, err, want)
		}
	}
}

// P34: any sound modules.
func TestAnyModules(t *testing.T) {
	d := probe.Dice(362436069521288629)
	for range 2000 {
		if err := foldsModule(t, strewnModule(&d)); err != api.OK {
			t.Fatalf("%d", err)
		}
	}
}
