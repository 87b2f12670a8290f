package fold_test

import (
	"reflect"
	"slices"
	"testing"

	"troupe/api"
	"troupe/fold"
	"troupe/probe"
)

// roomyBody is a body with memory of its own, and room behind each list.
func roomyBody(l []api.Ins) []api.Ins {
	return probe.RoomyModule(inModule(l)).Funcs[0].Body
}

// wideBody is a body with the room behind each list as a part of it.
func wideBody(l []api.Ins) []api.Ins {
	return probe.WideModule(inModule(l)).Funcs[0].Body
}

func spoilBody(l []api.Ins) {
	probe.SpoilModule(inModule(l))
}

func inModule(l []api.Ins) api.Module {
	return api.Module{Funcs: []api.Func{{Body: l}}}
}

// bodies are some that are right, and some that are not.
func bodies(d *probe.Dice) [][]api.Ins {
	list := [][]api.Ins{nil, body(""), body("else"), body("nop"), body("br_table 0 1 2, br_table 3 4 5"),
		body("int 1, if, get 0, br_table 0 1, else, get 1, br_table 1 0, end, get 2, br_table 2 2 2"),
		body("int 0, if, get 0, br_table 0 1, else, get 1, br_table 1 0, end, get 2, br_table 2 2 2, nop")}
	for range 400 {
		l := anyBody(d)
		list = append(list, l, d.Altered(l))
	}
	return list
}

// P2: a body that is handed in is as it was, the room behind lists included, and shares no memory with what is answered.
func TestBodyApart(t *testing.T) {
	d := probe.Dice(577215664901532)
	for _, l := range bodies(&d) {
		handed, want := roomyBody(l), wideBody(roomyBody(l))
		got, _ := fold.Body(handed)
		if !reflect.DeepEqual(wideBody(handed), want) {
			t.Fatalf("%v has become %v", want, wideBody(handed))
		}
		other, _ := fold.Body(handed)
		before := roomyBody(other)
		spoilBody(got)
		if !reflect.DeepEqual(wideBody(handed), want) {
			t.Fatalf("%v shares memory with what becomes of it", l)
		}
		spoilBody(handed)
		if !reflect.DeepEqual(roomyBody(other), before) {
			t.Fatalf("what becomes of %v shares memory with something else", l)
		}
	}
}

// P2: the lists within a body that is answered share no memory with one another.
func TestListsApart(t *testing.T) {
	d := probe.Dice(915965594177219)
	for _, l := range bodies(&d) {
		got, _ := fold.Body(l)
		want := roomyBody(got)
		for at, x := range got {
			for place := range probe.Wide(x.To) {
				probe.Wide(x.To)[place] = 77
			}
			for other, y := range got[at+1:] {
				if !slices.Equal(y.To, want[at+1+other].To) {
					t.Fatalf("%v: the lists at %d and %d share memory", want, at, at+1+other)
				}
			}
		}
	}
}

// P2: a module that is handed in is as it was, the room behind lists included, and shares no memory with what is answered.
func TestModuleApart(t *testing.T) {
	d := probe.Dice(662743419349181)
	list := []api.Module{{}, stage()}
	for _, m := range probe.WrongModules() {
		list = append(list, m)
	}
	for range 300 {
		list = append(list, strewnModule(&d), d.Spoilt())
	}
	for _, m := range list {
		handed, want := probe.RoomyModule(m), probe.WideModule(probe.RoomyModule(m))
		got, _ := fold.Module(handed)
		if !reflect.DeepEqual(probe.WideModule(handed), want) {
			t.Fatalf("%v has become %v", want, probe.WideModule(handed))
		}
		other, _ := fold.Module(handed)
		before := probe.RoomyModule(other)
		probe.SpoilModule(got)
		if !reflect.DeepEqual(probe.WideModule(handed), want) {
			t.Fatalf("%v shares memory with what becomes of it", m)
		}
		probe.SpoilModule(handed)
		if !reflect.DeepEqual(probe.RoomyModule(other), before) {
			t.Fatalf("what becomes of %v shares memory with something else", m)
		}
	}
}

// P2: what a call answers hangs on nothing that was called ahead of it.
func TestNothingIsKept(t *testing.T) {
	d := probe.Dice(301029995663981)
	list := bodies(&d)
	var before [][]api.Ins
	for _, l := range list {
		got, _ := fold.Body(l)
		before = append(before, got)
	}
	for at, l := range slices.Backward(list) {
		if got, _ := fold.Body(l); !sameBody(got, before[at]) {
			t.Fatalf("%v: %v, then %v", l, before[at], got)
		}
	}
}
