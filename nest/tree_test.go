package nest_test

import (
	"slices"
	"testing"

	"troupe/api"
	"troupe/nest"
)

// P14: Deep and Size, by hand.
func TestTreeByHand(t *testing.T) {
	rows := []struct {
		l          []api.Ins
		deep, size int
	}{
		{list(11), 0, 0},
		{list(1, 1, 11), 0, 0},
		{list(2, 11, 11), 1, 1},
		{list(3, 11, 4, 11, 11), 1, 2},
		{list(4, 5, 11, 11), 1, 1},
		{list(2, 3, 11, 11, 11), 2, 2},
		{list(4, 2, 11, 5, 11, 11), 2, 2},
		{list(4, 5, 2, 11, 11, 11), 2, 2},
		{list(4, 2, 11, 5, 2, 3, 11, 11, 11, 11), 3, 4},
		{list(4, 2, 3, 11, 11, 5, 2, 11, 11, 11), 3, 4},
		{join(times(12, 3), times(13, 11)), 12, 12},
		{join(slices.Repeat(list(4, 11), 99), list(11)), 1, 99},
		{join(times(199, 1), list(11)), 0, 0},
	}
	for _, r := range rows {
		tree, err := nest.Of(r.l)
		if err != api.OK {
			t.Fatalf("Of of %v: %d", r.l, err)
		}
		if tree.Deep() != r.deep || tree.Size() != r.size {
			t.Errorf("%v: %d deep, %d in all, not %d, %d", r.l, tree.Deep(), tree.Size(), r.deep, r.size)
		}
		if got := tree.Flat(); !sameList(got, r.l) {
			t.Errorf("Flat of %v: %v", r.l, got)
		}
	}
}

// P14: Of answers what Check does, and no tree with it.
func TestNoTree(t *testing.T) {
	rows := []struct {
		l    []api.Ins
		want api.Errno
	}{
		{nil, api.ErrShort},
		{list(5, 11), api.ErrForm},
		{list(11, 11), api.ErrForm},
		{list(6, 11), api.ErrUnsup},
		{[]api.Ins{{Op: 2}, {Op: 11}, {Op: 11}}, api.ErrArg},
		{times(13, 4), api.ErrDeep},
		{times(201, 11), api.ErrLarge},
	}
	for _, r := range rows {
		if tree, err := nest.Of(r.l); tree != nil || err != r.want {
			t.Errorf("Of of %v: %v, %d, not %d", r.l, tree, err, r.want)
		}
	}
}

// P14: what stands beside an instruction is kept, within blocks and elses, too.
func TestFlatKeepsWhatStandsBeside(t *testing.T) {
	l := []api.Ins{
		{Op: 65, A: -5},
		{Op: 4, A: 127},
		{Op: 14, A: 1, To: []int64{0, 1, 0}},
		{Op: 5},
		{Op: 3, A: 126},
		{Op: 40, A: 2, B: 300},
		{Op: 14, A: 2, To: []int64{4294967295}},
		{Op: 11},
		{Op: 11},
		{Op: 14},
		{Op: 11},
	}
	tree, err := nest.Of(l)
	if err != api.OK || !sameList(tree.Flat(), l) || tree.Deep() != 2 || tree.Size() != 2 {
		t.Errorf("Of: %v, %d", tree, err)
	}
}

// P2: a tree keeps a copy, and answers one each time.
func TestTreeIsItsOwn(t *testing.T) {
	want := []api.Ins{{Op: 14, A: 1, To: []int64{1, 2}}, {Op: 2, A: 64}, {Op: 14, To: []int64{3}}, {Op: 11}, {Op: 11}}
	l := slices.Clone(want)
	l[0].To = slices.Clone(want[0].To)
	l[2].To = slices.Clone(want[2].To)
	tree, _ := nest.Of(l)
	fill(l[0].To, 99)
	fill(l[2].To, 99)
	fill(l, api.Ins{Op: 99})
	for range 2 {
		got := tree.Flat()
		if !sameList(got, want) {
			t.Fatalf("Flat: %v", got)
		}
		for _, x := range got {
			fill(x.To, 99)
		}
		fill(got, api.Ins{Op: 99})
		if tree.Deep() != 1 || tree.Size() != 1 {
			t.Fatalf("Deep and Size: %d, %d", tree.Deep(), tree.Size())
		}
	}
}

// P2: the room behind an empty To, or behind a longer one, isn't that of the answer.
func TestTreeSharesNoRoom(t *testing.T) {
	room := []int64{1, 2, 3, 4}
	l := []api.Ins{{Op: 2, A: 64, To: room[:0]}, {Op: 1, To: room[:0]}, {Op: 14, To: room[:2]}, {Op: 11, To: room[:0]}, {Op: 11, To: room[:0]}}
	tree, _ := nest.Of(l)
	for _, x := range tree.Flat() {
		fill(x.To, 99)
	}
	if !slices.Equal(room, []int64{1, 2, 3, 4}) {
		t.Errorf("the room is %v", room)
	}
}

// P2: no call changes what it is handed, the room behind it included.
func TestNothingIsChanged(t *testing.T) {
	to := []int64{1, 0, 7, 7}
	fresh := func() []api.Ins {
		return []api.Ins{{Op: 4, A: 64}, {Op: 14, A: 1, To: to[:2]}, {Op: 5}, {Op: 11}, {Op: 11}, {Op: 77, A: 7}, {Op: 78}}
	}
	room := fresh()
	for _, n := range []int{5, 4, 6} {
		l := room[:n]
		nest.Check(l)
		nest.Match(l)
		nest.Write(l)
		if tree, err := nest.Of(l); err == api.OK {
			tree.Flat()
		}
	}
	if !sameList(room, fresh()) || !slices.Equal(to, []int64{1, 0, 7, 7}) {
		t.Errorf("what was handed in is %v", room)
	}
}
