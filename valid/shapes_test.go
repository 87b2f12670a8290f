package valid_test

import (
	"slices"
	"strings"
	"testing"

	"troupe/api"
	"troupe/valid"
)

// told is shapes as a text: a dead one is x, one without values is -.
func told(shapes []api.Shape) string {
	var words []string
	for _, s := range shapes {
		switch {
		case s.Dead && len(s.Stack) == 0:
			words = append(words, "x")
		case s.Dead:
			words = append(words, "x with "+letters(s.Stack))
		case len(s.Stack) == 0:
			words = append(words, "-")
		default:
			words = append(words, letters(s.Stack))
		}
	}
	return strings.Join(words, " ")
}

// P20: what is known ahead of each instruction.
func TestShapesByHand(t *testing.T) {
	for _, c := range []struct {
		number int
		text   string
		want   string
	}{
		{0, "", "-"},
		{typeInt, "int", "- i"},
		{typeBoth, "get 0, get 1, call 0", "- i il l"},
		{0, "int, long, drop, drop", "- i il i -"},
		{typeInt, "int, block i64, long, end, drop", "- i i il il i"},
		{typeInt, "int, int, int, select", "- i ii iii i"},
		{typeInt, "int, int, if, nop, else, nop, end", "- i ii i i i i i"},
		{typeLong, "int, if i64, long, else, int, drop, long, end", "- i - l - i - l l"},
		{0, "unreachable", "- x"},
		{0, "int, unreachable, drop", "- i x x"},
		{0, "int, br 0, int, drop", "- i x x x"},
		{0, "int, int, br_table 0, nop", "- i ii x x"},
		{0, "return, nop", "- x x"},
		{typeInt, "int, int, br_if 0", "- i ii i"},
		{0, "int, block, unreachable, nop, end, drop", "- i i x x i -"},
		{0, "int, block i64, br 1, end, drop, drop", "- i i x il i -"},
		{0, "unreachable, block, nop, end, nop", "- x x x x x"},
		{0, "unreachable, block i32, int, block, nop, end, end, drop", "- x x x x x x x x"},
		{0, "block, br 0, block, nop, end, nop, end, nop", "- - x x x x x - -"},
		{0, "int, if, unreachable, nop, else, nop, end, nop", "- i - x x - - - -"},
		{0, "int, if, nop, else, unreachable, nop, end, nop", "- i - - - x x - -"},
		{0, "int, if, return, else, return, end, nop", "- i - x - x - -"},
		{0, "unreachable, if, nop, else, nop, end, nop", "- x x x x x x x"},
		{0, "unreachable, if, unreachable, else, nop, end, nop", "- x x x x x x x"},
		{0, "long, loop i32, br 0, end, drop, drop", "- l l x li l -"},
		{0, "int, block i32, int, br 0, select, end, drop, drop", "- i i ii x x ii i -"},
		{typeLong, "unreachable, select", "- x x"},
	} {
		m := with(c.number, nil, c.text)
		shapes, err := valid.Shapes(m, 0)
		if got := told(shapes); got != c.want || err != api.OK {
			t.Errorf("%s: %s, %d, not %s", c.text, got, err, c.want)
		}
	}
}

// P20: Shapes of each of Funcs.
func TestShapesAt(t *testing.T) {
	m := stage()
	for at, want := range []string{"-", "- i", "- i"} {
		if shapes, err := valid.Shapes(m, at); told(shapes) != want || err != api.OK {
			t.Errorf("%d: %s, %d", at, told(shapes), err)
		}
	}
	// Another function that isn't sound is nothing to this one.
	m.Funcs[0].Body = body("drop")
	if shapes, err := valid.Shapes(m, 1); told(shapes) != "- i" || err != api.OK {
		t.Errorf("%s, %d", told(shapes), err)
	}
	if shapes, err := valid.Shapes(m, 0); shapes != nil || err != api.ErrType {
		t.Errorf("%s, %d", told(shapes), err)
	}
}

// P20: the error of the first of Funcs that has one.
func TestModuleOrder(t *testing.T) {
	if err := valid.Module(api.Module{}); err != api.OK {
		t.Error(err)
	}
	texts := []string{"unreachable", "unreachable, br 1", "unreachable, 40 3", "drop"}
	errs := []api.Errno{api.OK, api.ErrIndex, api.ErrAlign, api.ErrType}
	for code := range 64 {
		m, want := stage(), api.OK
		for at := range m.Funcs {
			kind := code >> (2 * at) & 3
			m.Funcs[at].Body = body(texts[kind])
			if want == api.OK {
				want = errs[kind]
			}
		}
		if err := valid.Module(m); err != want {
			t.Errorf("%d: %d, not %d", code, err, want)
		}
	}
	full := api.Module{Types: make([]api.Sig, 1), Funcs: slices.Repeat([]api.Func{{Body: body("")}}, 16)}
	if err := valid.Module(full); err != api.OK {
		t.Error(err)
	}
	full.Funcs[15].Body = body("int")
	if err := valid.Module(full); err != api.ErrType {
		t.Error(err)
	}
}
