package fold_test

import (
	"slices"
	"testing"

	"troupe/api"
	"troupe/fold"
	"troupe/probe"
)

var (
	body  = probe.Body
	one   = probe.One
	stage = probe.Stage
	with  = probe.With
)

func sameIns(x, y api.Ins) bool {
	return x.Op == y.Op && x.A == y.A && x.B == y.B && slices.Equal(x.To, y.To)
}

func sameBody(l, other []api.Ins) bool {
	return slices.EqualFunc(l, other, sameIns)
}

// becomes holds what becomes of a body against want.
func becomes(t *testing.T, l, want []api.Ins) {
	t.Helper()
	if got, err := fold.Body(l); err != api.OK || !sameBody(got, want) {
		t.Errorf("%v becomes %v, %d, not %v", l, got, err, want)
	}
}

// sample is a body, and what becomes of it, both without their own ends.
type sample struct {
	from, to string
}

func becomeAll(t *testing.T, samples []sample) {
	t.Helper()
	for _, s := range samples {
		becomes(t, body(s.from), body(s.to))
	}
}

// stay holds that bodies without their own ends are as they were.
func stay(t *testing.T, texts ...string) {
	t.Helper()
	for _, text := range texts {
		becomes(t, body(text), body(text))
	}
}

// refuses holds the error of a list that is no body against want.
func refuses(t *testing.T, l []api.Ins, want api.Errno) {
	t.Helper()
	if got, err := fold.Body(l); err != want || len(got) != 0 {
		t.Errorf("%v becomes %v, %d, not %d", l, got, err, want)
	}
}
