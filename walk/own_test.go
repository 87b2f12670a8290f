package walk_test

import (
	"reflect"
	"slices"
	"testing"

	"troupe/api"
	"troupe/probe"
	"troupe/walk"
)

// given is all that is handed in to a call.
type given struct {
	m             api.Module
	x             api.Image
	f             int
	args, answers []int64
	fuel          int
}

// roomy is the same with memory of its own, and room behind each list.
func (g given) roomy() given {
	g.m, g.x, g.args, g.answers = probe.RoomyModule(g.m), probe.RoomyImage(g.x), probe.Roomy(g.args, 99), probe.Roomy(g.answers, 99)
	return g
}

// unroomy is the same with the room behind each list as a part of it.
func (g given) unroomy() given {
	g.m, g.x, g.args, g.answers = probe.WideModule(g.m), probe.WideImage(g.x), probe.Wide(g.args), probe.Wide(g.answers)
	return g
}

func (g given) call() (result, api.Errno) {
	out, image, asks, err := walk.Call(g.m, g.x, g.f, g.args, g.answers, g.fuel)
	return result{out: out, image: image, asks: asks}, err
}

// much is a call that is done, and answers with something in each list, of some more than one thing.
func much() given {
	text := "call 3, int 4, long 5, call 0, drop, long 1, int 2, int 3, long 4, call 1, int 50, gset 0, call 2, drop, " +
		"int 70, int 80, store 0, int 1, grow, drop, get 0, set 0, int 9, get 0, get 1, call 6, return"
	return given{m: with(typeTwo, kinds(i64), text), x: first(stage()), f: main, args: args(70, 60), answers: args(1, 2, 3, 4, 5), fuel: plenty}
}

func (d *dice) givens() []given {
	list := []given{much(), {}, {m: stage(), x: first(stage()), f: -1}}
	for _, m := range probe.WrongModules() {
		list = append(list, given{m: m, x: first(stage()), f: main, args: args(1), fuel: 5})
	}
	for _, x := range probe.WrongImages() {
		list = append(list, given{m: stage(), x: x, f: main, answers: args(2), fuel: 5})
	}
	for range 300 {
		m := d.play()
		g := given{m: m, x: d.later(m), f: main, answers: d.longs(4), fuel: d.below(500)}
		g.args = d.longs(len(sigOf(m, main).In))
		list = append(list, g)
	}
	return list
}

// P2: what is handed in is as it was, the room behind lists included.
func TestHandedIn(t *testing.T) {
	d := dice(577215664901532)
	for _, g := range d.givens() {
		handed := g.roomy()
		handed.call()
		if want := g.roomy().unroomy(); !reflect.DeepEqual(handed.unroomy(), want) {
			t.Fatalf("%v has become %v", want, handed.unroomy())
		}
	}
}

// lists are all lists of numbers that are answered.
func (r result) lists() [][]int64 {
	all := [][]int64{r.out.Vals, r.image.Globals}
	for _, a := range r.asks {
		all = append(all, a.Vals)
	}
	return all
}

// P2: no list that is answered shares memory with another one of the answer, the room behind it included.
func TestListsApart(t *testing.T) {
	d := dice(915965594177219)
	for _, g := range d.givens() {
		got, err := g.call()
		again, _ := g.call()
		if err != api.OK {
			continue
		}
		lists, want := got.lists(), again.lists()
		for at, list := range lists {
			for place := range probe.Wide(list) {
				probe.Wide(list)[place] = 77
			}
			for other := at + 1; other < len(lists); other++ {
				if !slices.Equal(lists[other], want[other]) {
					t.Fatalf("%v: the lists %d and %d share memory", g, at, other)
				}
			}
		}
	}
}

// spoil writes into all that is answered, the room behind lists included.
func (r result) spoil() {
	for _, list := range r.lists() {
		for place := range probe.Wide(list) {
			probe.Wide(list)[place] = 77
		}
	}
	for place := range probe.Wide(r.image.Table) {
		probe.Wide(r.image.Table)[place] = 77
	}
	clear(probe.Wide(r.asks))
}

// P2: what is answered shares no memory with what was handed in, nor with what is answered next.
func TestAnswersApart(t *testing.T) {
	d := dice(662743419349181)
	for _, g := range d.givens() {
		handed := g.roomy()
		got, err := handed.call()
		other, _ := handed.call()
		got.spoil()
		if want := g.roomy().unroomy(); !reflect.DeepEqual(handed.unroomy(), want) {
			t.Fatalf("%v shares memory with what is answered", g)
		}
		if err == api.OK && !other.same(reckon(g.m, g.x, g.f, g.args, g.answers, g.fuel)) {
			t.Fatalf("%v: what is answered shares memory with what is answered next", g)
		}
	}
}

// P2: what was answered stays as it is, whatever becomes of what was handed in.
func TestKept(t *testing.T) {
	handed := much().roomy()
	got, _ := handed.call()
	clear(handed.x.Table)
	clear(handed.x.Globals)
	clear(handed.args)
	clear(handed.answers)
	clear(handed.m.Types[typeTwo].Out)
	clear(handed.m.Funcs[0].Body)
	clear(handed.m.Funcs)
	want, _ := much().call()
	if !got.same(want) || got.out.End != 1 || len(got.asks) != 4 {
		t.Errorf("%v has changed, it was %v", got, want)
	}
}

// P2: what a call answers hangs on nothing that was called ahead of it.
func TestNothingIsKept(t *testing.T) {
	d := dice(301029995663981)
	list := d.givens()
	var before []result
	for _, g := range list {
		got, _ := g.call()
		before = append(before, got)
	}
	for at, g := range slices.Backward(list) {
		if got, _ := g.call(); !got.same(before[at]) {
			t.Fatalf("%v: %v, then %v", g, before[at], got)
		}
	}
}
