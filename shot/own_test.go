package shot_test

import (
	"reflect"
	"slices"
	"strings"
	"testing"
	"unsafe"

	"troupe/api"
	"troupe/probe"
	"troupe/shot"
)

// given is an image and a state.
type given struct {
	x api.Image
	s api.State
}

func (g given) roomy() given {
	return given{x: probe.RoomyImage(g.x), s: probe.RoomyState(g.s)}
}

func (g given) wide() given {
	return given{x: probe.WideImage(g.x), s: probe.WideState(g.s)}
}

func (g given) same(other given) bool {
	return probe.SameImage(g.x, other.x) && probe.SameState(g.s, other.s)
}

// spoil writes over all lists that g has, the room behind them included.
func (g given) spoil() {
	probe.SpoilImage(g.x)
	probe.SpoilState(g.s)
}

// of is Read of a text that has no error.
func of(t *testing.T, text string) given {
	t.Helper()
	x, s, err := shot.Read(text)
	if err != api.OK {
		t.Fatalf("Read of %x is %d", text, err)
	}
	return given{x: x, s: s}
}

// givens are such as can be told, and others.
func givens(d *probe.Dice) []given {
	list := []given{{}}
	for _, f := range faults() {
		x, s := full()
		f.spoil(&x, &s)
		list = append(list, given{x: x, s: s})
	}
	for range 1000 {
		x, s := picture(d, probe.Pick(d, 0, 0, 10))
		list = append(list, given{x: x, s: s}, given{x: d.WildImage(), s: d.WildState()})
	}
	return list
}

// texts are what is told of givens, as far as there is something to tell.
func texts(d *probe.Dice) []string {
	var list []string
	for _, g := range givens(d) {
		if text, err := shot.Write(g.x, g.s); err == api.OK {
			list = append(list, text)
		}
	}
	return list
}

// P2: what is handed in is as it was, the room behind lists included.
func TestHandedIn(t *testing.T) {
	d := probe.Dice(577215664901532)
	for _, g := range givens(&d) {
		handed := g.roomy()
		shot.Write(handed.x, handed.s)
		if want := g.roomy().wide(); !reflect.DeepEqual(handed.wide(), want) {
			t.Fatalf("%v has become %v", want, handed.wide())
		}
	}
}

// P2: a text that is told stays as it is, whatever becomes of what it was told of.
func TestToldApart(t *testing.T) {
	d := probe.Dice(915965594177219)
	for _, g := range givens(&d) {
		handed := g.roomy()
		text, _ := shot.Write(handed.x, handed.s)
		before := strings.Clone(text)
		handed.spoil()
		shot.Write(handed.x, handed.s)
		if text != before {
			t.Fatalf("%x has become %x", before, text)
		}
	}
}

// P2: what is read is new, whatever is done to what was read of the same text.
func TestReadApart(t *testing.T) {
	d := probe.Dice(662743419349181)
	for _, text := range texts(&d) {
		first, second := of(t, text), of(t, text)
		want := second.roomy()
		first.spoil()
		if !second.same(want) || !of(t, text).same(want) {
			t.Fatalf("what is read of %x shares memory", text)
		}
	}
}

// P2: no list that is read shares memory with another one of the same answer, the room behind it included.
func TestListsApart(t *testing.T) {
	d := probe.Dice(314159265358979)
	for _, text := range texts(&d) {
		g := of(t, text)
		lists := [][]int64{probe.Wide(g.x.Globals)}
		for _, c := range g.s.Calls {
			lists = append(lists, probe.Wide(c.Locals), probe.Wide(c.Stack))
		}
		for at, list := range lists {
			copy(list, repeat(int64(at), len(list)))
		}
		for at, list := range lists {
			if !slices.Equal(list, repeat(int64(at), len(list))) {
				t.Fatalf("%x: two lists share memory", text)
			}
		}
	}
}

// isIn tells whether a piece shares memory with a text.
func isIn(text, piece string) bool {
	if text == "" || piece == "" {
		return false
	}
	from := uintptr(unsafe.Pointer(unsafe.StringData(text)))
	at := uintptr(unsafe.Pointer(unsafe.StringData(piece)))
	return from < at+uintptr(len(piece)) && at < from+uintptr(len(text))
}

// P2: the bytes that are told and read are new.
func TestBytesApart(t *testing.T) {
	mem := strings.Repeat("bytes", 400)
	text, err := shot.Write(api.Image{Mem: mem}, api.State{})
	if err != api.OK || isIn(text, mem) {
		t.Errorf("the text shares memory with what it was told of, or is %d", err)
	}
	x, _, err := shot.Read(text)
	if err != api.OK || x.Mem != mem || isIn(text, x.Mem) || isIn(mem, x.Mem) {
		t.Errorf("what is read shares memory with the text, or is %d", err)
	}
	y, _, _ := shot.Read(text)
	if isIn(x.Mem, y.Mem) {
		t.Error("what is read twice shares memory")
	}
}

// P2: what a call answers hangs on nothing that was called ahead of it.
func TestNothingIsKept(t *testing.T) {
	d := probe.Dice(301029995663981)
	list := texts(&d)
	var before []given
	for _, text := range list {
		before = append(before, of(t, text))
	}
	for at, text := range slices.Backward(list) {
		unread(t, text+"x", api.ErrForm)
		unread(t, text[:len(text)-1], api.ErrShort)
		if got := of(t, text); !got.same(before[at]) {
			t.Fatalf("%x: %v, then %v", text, before[at], got)
		}
		if again, err := shot.Write(before[at].x, before[at].s); again != text || err != api.OK {
			t.Fatalf("%v: %x, then %x, %d", before[at], text, again, err)
		}
	}
}
