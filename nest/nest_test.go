package nest_test

import (
	"slices"
	"testing"

	"troupe/api"
	"troupe/nest"
)

// asTold holds all calls that take a list against what was told by hand.
func asTold(t *testing.T, l []api.Ins) {
	t.Helper()
	want := tell(l)
	if got := nest.Check(l); got != want.err {
		t.Fatalf("Check of %v: %d, not %d", l, got, want.err)
	}
	ends, elses, err := nest.Match(l)
	if err != want.err || !slices.Equal(ends, want.ends) || !slices.Equal(elses, want.elses) {
		t.Fatalf("Match of %v: %v, %v, %d, not %v, %v, %d", l, ends, elses, err, want.ends, want.elses, want.err)
	}
	tree, err := nest.Of(l)
	if err != want.err || (tree == nil) != (err != api.OK) {
		t.Fatalf("Of of %v: %v, %d, not %d", l, tree, err, want.err)
	}
	if tree == nil {
		return
	}
	if got := tree.Flat(); !sameList(got, l) {
		t.Fatalf("Flat of %v: %v", l, got)
	}
	if tree.Deep() != want.deep || tree.Size() != want.size {
		t.Fatalf("Deep and Size of %v: %d, %d, not %d, %d", l, tree.Deep(), tree.Size(), want.deep, want.size)
	}
}

// P12, P14: every list of up to seven of these six.
func TestAllShortLists(t *testing.T) {
	ops := []byte{1, 2, 3, 4, 5, 11}
	var longer func(l []api.Ins, more int)
	longer = func(l []api.Ins, more int) {
		asTold(t, l)
		if more == 0 {
			return
		}
		for _, op := range ops {
			longer(append(slices.Clone(l), list(op)...), more-1)
		}
	}
	longer(nil, 7)
}

// P12, P14: long bodies, right and spoilt.
func TestLongLists(t *testing.T) {
	d := dice(88172645463325252)
	right, bad := 0, 0
	for range 5000 {
		l := d.body(d.below(195))
		asTold(t, l)
		if nest.Check(l) == api.OK {
			right++
		}
		l = d.spoil(l)
		asTold(t, l)
		if nest.Check(l) != api.OK {
			bad++
		}
	}
	if right < 2500 || bad < 2500 {
		t.Errorf("the test tried %d right and %d wrong bodies", right, bad)
	}
}

// P12: the edges that the chapter names, one by one.
func TestCheckByHand(t *testing.T) {
	badKind := []api.Ins{{Op: 2}}
	badLarge := []api.Ins{{Op: 14, To: make([]int64, 17)}}
	rows := []struct {
		name string
		l    []api.Ins
		want api.Errno
	}{
		{"nothing", nil, api.ErrShort},
		{"an empty list", []api.Ins{}, api.ErrShort},
		{"its end alone", list(11), api.OK},
		{"no end", list(1), api.ErrShort},
		{"a block that is open", list(2, 11), api.ErrShort},
		{"a loop and its end", list(3, 11, 11), api.OK},
		{"an if without an else", list(4, 11, 11), api.OK},
		{"an if with an else", list(4, 5, 11, 11), api.OK},
		{"two elses", list(4, 5, 5, 11, 11), api.ErrForm},
		{"two elses, a block between", list(4, 5, 2, 11, 5, 11, 11), api.ErrForm},
		{"an else behind a block within", list(4, 2, 11, 5, 11, 11), api.OK},
		{"an else within a block within an if", list(4, 2, 5, 11, 11, 11), api.ErrForm},
		{"an else within a loop within an if", list(4, 3, 5, 11, 11, 11), api.ErrForm},
		{"an if within an else", list(4, 5, 4, 5, 11, 11, 11), api.OK},
		{"the outer else behind an inner one", list(4, 4, 5, 11, 5, 11, 11), api.OK},
		{"an else alone", list(5), api.ErrForm},
		{"an else behind an if that is closed", list(4, 11, 5, 11), api.ErrForm},
		{"something behind the end", list(11, 1), api.ErrForm},
		{"an end behind the end", list(11, 11), api.ErrForm},
		{"an else behind the end", list(11, 5), api.ErrForm},
		{"a block behind the end", list(11, 2, 11), api.ErrForm},
		{"no instruction", list(6, 11), api.ErrUnsup},
		{"no instruction, behind the end", list(11, 6), api.ErrUnsup},
		{"a wrong one behind the end", join(list(11), badKind), api.ErrArg},
		{"a large one behind the end", join(list(11), badLarge), api.ErrLarge},
		{"an else that is wrong itself", []api.Ins{{Op: 5, A: 1}}, api.ErrArg},
		{"an end that is wrong itself", []api.Ins{{Op: 11, B: 1}}, api.ErrArg},
		{"ErrForm ahead of ErrUnsup", list(5, 6), api.ErrForm},
		{"ErrUnsup ahead of ErrForm", list(6, 5), api.ErrUnsup},
		{"behind the end, ahead of ErrUnsup", list(11, 1, 6), api.ErrForm},
		{"a way too far out", []api.Ins{{Op: 12, A: 99}, {Op: 11}}, api.OK},
		{"200", join(times(199, 1), list(11)), api.OK},
		{"200 without an end", times(200, 1), api.ErrShort},
		{"201", join(times(200, 1), list(11)), api.ErrLarge},
		{"201 without an end", times(201, 1), api.ErrLarge},
		{"201, the first one wrong", times(201, 6), api.ErrLarge},
		{"201 ends", times(201, 11), api.ErrLarge},
		{"12 deep", join(times(12, 2), times(13, 11)), api.OK},
		{"12 ifs deep, elses all", join(times(12, 4), slices.Repeat(list(5, 11), 12), list(11)), api.OK},
		{"13 deep", join(times(13, 2), times(14, 11)), api.ErrDeep},
		{"13 loops deep", join(times(13, 3), times(14, 11)), api.ErrDeep},
		{"13 ifs deep", join(times(13, 4), times(14, 11)), api.ErrDeep},
		{"13 deep behind an else", join(times(12, 4), list(5, 2)), api.ErrDeep},
		{"12 deep, a block again", join(times(12, 2), list(11, 2), times(13, 11)), api.OK},
		{"99 blocks one behind the other", join(slices.Repeat(list(2, 11), 99), list(11)), api.OK},
		{"13 deep, the last one wrong", join(times(12, 2), badKind), api.ErrArg},
		{"13 deep, a wrong one behind", join(times(13, 2), list(6)), api.ErrDeep},
		{"13 deep, a wrong one ahead", join(list(5), times(13, 2)), api.ErrForm},
	}
	for _, r := range rows {
		if got := nest.Check(r.l); got != r.want {
			t.Errorf("%s: %d, not %d", r.name, got, r.want)
		}
		asTold(t, r.l)
		if text, err := nest.Write(r.l); err != r.want || (err != api.OK && text != "") {
			t.Errorf("Write: %s: %x, %d, not %d", r.name, text, err, r.want)
		}
	}
}

// P12: the two numbers of each instruction.
func TestMatchByHand(t *testing.T) {
	rows := []struct {
		l           []api.Ins
		ends, elses []int
	}{
		{list(11), []int{-1}, []int{-1}},
		{list(1, 11), []int{-1, -1}, []int{-1, -1}},
		{list(2, 11, 11), []int{1, 0, -1}, []int{-1, -1, -1}},
		{list(3, 1, 11, 11), []int{2, -1, 0, -1}, []int{-1, -1, -1, -1}},
		{list(4, 11, 11), []int{1, 0, -1}, []int{-1, -1, -1}},
		{list(4, 5, 11, 11), []int{2, 2, 0, -1}, []int{1, 0, -1, -1}},
		{
			list(1, 4, 2, 11, 5, 4, 5, 11, 3, 11, 11, 11),
			[]int{-1, 10, 3, 2, 10, 7, 7, 5, 9, 8, 1, -1},
			[]int{-1, 4, -1, -1, 1, 6, 5, -1, -1, -1, -1, -1},
		},
	}
	for _, r := range rows {
		ends, elses, err := nest.Match(r.l)
		if err != api.OK || !slices.Equal(ends, r.ends) || !slices.Equal(elses, r.elses) {
			t.Errorf("Match of %v: %v, %v, %d", r.l, ends, elses, err)
		}
	}
}

// P2: with an error there is no list; both lists are new, and share nothing, spare room included.
func TestMatchIsNew(t *testing.T) {
	for _, l := range [][]api.Ins{nil, list(5), times(201, 1), times(13, 2), list(2, 11)} {
		if ends, elses, err := nest.Match(l); err == api.OK || ends != nil || elses != nil {
			t.Errorf("Match of %v: %v, %v, %d", l, ends, elses, err)
		}
	}
	l := list(4, 5, 11, 11)
	for range 2 {
		ends, elses, _ := nest.Match(l)
		if !slices.Equal(ends, []int{2, 2, 0, -1}) {
			t.Fatalf("Match: %v", ends)
		}
		fill(ends, 99)
		if !slices.Equal(elses, []int{1, 0, -1, -1}) {
			t.Fatalf("Match: %v", elses)
		}
		fill(elses, 99)
	}
}

// fill writes over a list and the room behind it.
func fill[T any](list []T, x T) {
	list = list[:cap(list)]
	for i := range list {
		list[i] = x
	}
}
