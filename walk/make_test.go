package walk_test

import (
	"slices"
	"strings"
	"testing"

	"troupe/api"
	"troupe/mod"
	"troupe/probe"
	"troupe/walk"
)

const (
	i32 = api.I32
	i64 = api.I64
)

// The types and functions of stage.
const (
	typeNothing = probe.TypeNothing
	typeInt     = probe.TypeInt
	typeLong    = probe.TypeLong
	typeBoth    = probe.TypeBoth
	typeFour    = probe.TypeFour
	typeIntInt  = probe.TypeIntInt
	typeTwo     = probe.TypeTwo
	typeIn      = probe.TypeIn
	typeIntLong = probe.TypeIntLong
	typeAgain   = probe.TypeAgain

	hostBoth    = probe.HostBoth
	hostFour    = probe.HostFour
	hostInt     = probe.HostInt
	hostNothing = probe.HostNothing
	main        = probe.Main
	next        = probe.Next
	less        = probe.Less
	four        = probe.Four
)

var (
	kinds     = probe.Kinds
	args      = probe.Args
	edges     = probe.Edges
	one       = probe.One
	body      = probe.Body
	stage     = probe.Stage
	with      = probe.With
	first     = probe.First
	sameImage = probe.SameImage
	sameOut   = probe.SameOut
	sameAsk   = probe.SameAsk
)

func zeros(length int) string {
	return strings.Repeat("\x00", length)
}

// result is all that a call answers but its error.
type result struct {
	out   api.Out
	image api.Image
	asks  []api.Ask
}

// called is what comes of a call that can be made.
func called(t *testing.T, m api.Module, x api.Image, f int, args, answers []int64, fuel int) result {
	t.Helper()
	out, image, asks, err := walk.Call(m, x, f, args, answers, fuel)
	if err != api.OK {
		t.Fatalf("%v: Call of %d with %v and %d of the fuel is %d", m, f, args, fuel, err)
	}
	return result{out: out, image: image, asks: asks}
}

// reckon is what the second reckoning says of a call that can be made.
func reckon(m api.Module, x api.Image, f int, args, answers []int64, fuel int) result {
	r := probe.Run{M: m, X: x, F: f, Args: args, Answers: answers, Fuel: fuel}.Reckon()
	return result{out: r.Out, image: r.Image, asks: r.Asks}
}

func (r result) same(other result) bool {
	return sameOut(r.out, other.out) && probe.SameImage(r.image, other.image) && slices.EqualFunc(r.asks, other.asks, sameAsk)
}

// done, trapped and spent are the three ends.
func done(left int, vals ...int64) api.Out {
	return api.Out{End: 1, Vals: vals, Left: left}
}

func trapped(left int, why api.Errno) api.Out {
	return api.Out{End: 2, Trap: why, Left: left}
}

func spent() api.Out {
	return api.Out{End: 3}
}

// dice answers numbers and modules that are always the same ones, one behind the other.
type dice probe.Dice

func (d *dice) from() *probe.Dice {
	return (*probe.Dice)(d)
}

func (d *dice) below(n int) int {
	return d.from().Below(n)
}

func pick[T any](d *dice, list ...T) T {
	return probe.Pick(d.from(), list...)
}

func (d *dice) longs(count int) []int64 {
	return d.from().Longs(count)
}

func (d *dice) later(m api.Module) api.Image {
	return d.from().Later(m)
}

func (d *dice) play() api.Module {
	return d.from().Play()
}

func sigOf(m api.Module, number int) api.Sig {
	return mod.TypeOf(m, number)
}
