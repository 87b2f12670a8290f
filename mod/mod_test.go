package mod_test

import (
	"math"
	"reflect"
	"testing"

	"troupe/api"
	"troupe/mod"
	"troupe/probe"
)

// The functions of a module are numbered from 0 on, those from outside first.
func TestHas(t *testing.T) {
	for number := range 8 {
		if !mod.Has(probe.Stage(), number) {
			t.Errorf("%d is not there", number)
		}
	}
	for _, number := range []int{-1, 8, 9, math.MinInt, math.MaxInt, 1 << 32} {
		if mod.Has(probe.Stage(), number) {
			t.Errorf("%d is there", number)
		}
	}
	if mod.Has(api.Module{}, 0) {
		t.Error("nothing has a function")
	}
}

func TestTypeOf(t *testing.T) {
	m := probe.Stage()
	numbers := []int{probe.TypeBoth, probe.TypeFour, probe.TypeInt, probe.TypeNothing, probe.TypeNothing, probe.TypeIntInt, probe.TypeTwo, probe.TypeFour}
	for number, want := range numbers {
		if s := mod.TypeOf(m, number); !reflect.DeepEqual(s, m.Types[want]) {
			t.Errorf("%d is %v", number, s)
		}
	}
}

// Types are told by what they take and give, in order, not by their numbers.
func TestSame(t *testing.T) {
	types := probe.Stage().Types
	for at, s := range types {
		for place, other := range types {
			isTwin := at == probe.TypeAgain && place == probe.TypeIntInt || place == probe.TypeAgain && at == probe.TypeIntInt
			if got := mod.Same(s, other); got != (at == place || isTwin) {
				t.Errorf("%v and %v: %v", s, other, got)
			}
		}
	}
	turned := api.Sig{In: probe.Kinds(api.I64, api.I32), Out: probe.Kinds(api.I64)}
	if mod.Same(types[probe.TypeBoth], turned) {
		t.Errorf("%v and %v are the same", types[probe.TypeBoth], turned)
	}
}

// P2: a copy is the same, and neither it nor the room behind its lists is a part of what it was made of.
func TestClone(t *testing.T) {
	d := probe.Dice(88172645463325252)
	for range 2000 {
		m := d.WildModule()
		given := probe.RoomyModule(m)
		clone := mod.Clone(given)
		if !reflect.DeepEqual(probe.RoomyModule(clone), probe.RoomyModule(m)) {
			t.Fatalf("%v is not %v", clone, m)
		}
		probe.SpoilModule(clone)
		if want := probe.WideModule(probe.RoomyModule(m)); !reflect.DeepEqual(probe.WideModule(given), want) {
			t.Fatalf("%v shares memory with its copy", m)
		}
	}
}
