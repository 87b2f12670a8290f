package run_test

import (
	"reflect"
	"testing"

	"troupe/api"
	"troupe/mod"
	"troupe/probe"
	"troupe/run"
)

// given is all that is handed in to make a machine.
type given struct {
	m api.Module
	x api.Image
	s api.State
}

func (g given) roomy() given {
	return given{m: probe.RoomyModule(g.m), x: probe.RoomyImage(g.x), s: probe.RoomyState(g.s)}
}

func (g given) wide() given {
	return given{m: probe.WideModule(g.m), x: probe.WideImage(g.x), s: probe.WideState(g.s)}
}

// spoil writes over all that g has, the room behind lists included.
func (g given) spoil() {
	probe.SpoilModule(g.m)
	probe.SpoilImage(g.x)
	probe.SpoilState(g.s)
}

func givens(d *probe.Dice) []given {
	list := []given{{}, {m: stage(), x: first(stage())}, {m: stage(), x: first(stage()), s: api.State{Host: 9}}}
	for _, m := range probe.WrongModules() {
		list = append(list, given{m: m, x: first(stage())})
	}
	for range 300 {
		m := d.Play()
		list = append(list, given{m: m, x: d.Later(m), s: stateOf(d, m)}, given{m: m, x: d.Later(m), s: spoiled(d, stateOf(d, m))})
	}
	return list
}

// P2: what is handed in is as it was, the room behind lists included, whatever the machine does.
func TestHandedIn(t *testing.T) {
	d := probe.Dice(915965594177219)
	for _, g := range givens(&d) {
		handed := g.roomy()
		run.Check(handed.m, handed.x, handed.s)
		run.New(handed.m)
		if r, err := run.Resume(handed.m, handed.x, handed.s); err == api.OK {
			story(&d, r)
		}
		if want := g.roomy().wide(); !reflect.DeepEqual(handed.wide(), want) {
			t.Fatalf("%v has become %v", want, handed.wide())
		}
	}
	values := probe.Roomy(args(1<<40, 2, 3, 4), 99)
	r := begun(t, stage())
	r.Start(probe.Four, values)
	r.Go(9)
	if !reflect.DeepEqual(probe.Wide(values), args(1<<40, 2, 3, 4, 99, 99, 99)) {
		t.Errorf("the arguments are %v", probe.Wide(values))
	}
}

// chapter is all that a machine tells at some time.
type chapter struct {
	out api.Out
	x   api.Image
	s   api.State
}

func (c chapter) same(other chapter) bool {
	return sameOut(c.out, other.out) && sameImage(c.x, other.x) && sameState(c.s, other.s)
}

func (c chapter) spoil() {
	probe.SpoilLongs(c.out.Vals)
	probe.SpoilImage(c.x)
	probe.SpoilState(c.s)
}

// next lets a machine go on a little, and is what it tells then.
func next(d *probe.Dice, r *run.Machine) chapter {
	if r.State().Host > 0 {
		r.Answer(d.Longs(1)[0])
	}
	out, _ := r.Go(d.Below(40))
	return chapter{out: out, x: r.Image(), s: r.State()}
}

// story is all that a machine tells that goes on for a while.
func story(d *probe.Dice, r *run.Machine) []chapter {
	var all []chapter
	for range 8 {
		all = append(all, next(d, r))
	}
	return all
}

// P2: a machine keeps copies: it goes on as it would have, whatever becomes of what was handed in.
func TestKept(t *testing.T) {
	d := probe.Dice(662743419349181)
	for _, g := range givens(&d) {
		handed := g.roomy()
		r, err := run.Resume(handed.m, handed.x, handed.s)
		if err != api.OK {
			continue
		}
		handed.spoil()
		q, _ := run.Resume(g.m, g.x, g.s)
		tells(t, g, r, q, d, false)
	}
}

// tells holds what a machine tells against what one tells that is the same; what is told is spoilt, if that is asked for.
func tells(t *testing.T, g given, r, q *run.Machine, d probe.Dice, spoils bool) {
	t.Helper()
	other := d
	for range 8 {
		got, want := next(&d, r), next(&other, q)
		if !got.same(want) {
			t.Fatalf("%v: %v, not %v", g, got, want)
		}
		if spoils {
			got.spoil()
		}
	}
}

// P2: arguments are not kept.
func TestArgsKept(t *testing.T) {
	values := args(8, 3)
	r := begun(t, stage())
	r.Start(probe.Less, values)
	clear(values)
	goes(t, r, 3, done(0, 5))
}

// P2: what is told is no part of the machine.
func TestToldApart(t *testing.T) {
	d := probe.Dice(301029995663981)
	for _, g := range givens(&d) {
		if r, err := run.Resume(g.m, g.x, g.s); err == api.OK {
			q, _ := run.Resume(g.m, g.x, g.s)
			tells(t, g, r, q, d, true)
		}
		if r, err := run.New(g.m); err == api.OK && len(g.m.Funcs) > 0 {
			q, _ := run.New(g.m)
			number := len(g.m.Imports)
			values := d.Longs(len(mod.TypeOf(g.m, number).In))
			if r.Start(number, values) != api.OK || q.Start(number, values) != api.OK {
				t.Fatalf("%v: Start with %v", g.m, values)
			}
			tells(t, g, r, q, d, true)
		}
	}
}

// P2: no list of a state shares memory with another one, the room behind it included.
func TestListsApart(t *testing.T) {
	d := probe.Dice(314159265358979)
	for _, g := range givens(&d) {
		r, err := run.Resume(g.m, g.x, g.s)
		if err != api.OK {
			continue
		}
		next(&d, r)
		s, want := r.State(), r.State()
		for at, c := range s.Calls {
			probe.SpoilLongs(c.Locals)
			if !reflect.DeepEqual(s.Calls[at].Stack, want.Calls[at].Stack) {
				t.Fatalf("%v: the locals and the stack of %d share memory", want, at)
			}
			probe.SpoilLongs(c.Stack)
			if rest := (api.State{Calls: s.Calls[at+1:]}); !sameState(rest, api.State{Calls: want.Calls[at+1:]}) {
				t.Fatalf("%v: the call %d shares memory with one behind it", want, at)
			}
		}
	}
}

// P2: machines of the same module have nothing in common.
func TestMachinesApart(t *testing.T) {
	m := with(probe.TypeInt, nil, "gget 0, int 1, add, gset 0, int 1, grow, drop, int 0, gget 0, store 0, call 2, gget 0, add")
	r, q := started(t, m), started(t, m)
	goes(t, r, 50, asked(39, probe.HostInt))
	goes(t, q, 4, spent())
	stands(t, m, q, under(at(0, 4)))
	r.Poke(0, "hello")
	r.Answer(5)
	goes(t, r, 50, done(48, 13))
	if x := first(m); x.Globals[0] != 7 || q.Image().Globals[0] != 8 || q.Image().Mem != x.Mem {
		t.Errorf("%v, %d bytes", q.Image().Globals, len(q.Image().Mem))
	}
	goes(t, q, 50, asked(43, probe.HostInt))
}
