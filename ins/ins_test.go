package ins_test

import (
	"math"
	"slices"
	"testing"

	"troupe/api"
	"troupe/ins"
)

// What stands beside an instruction, in letters: k a block's kind, a a number A, b a number B, t To, z a byte 0, i an I32, l an I64.
// What it takes and gives, in letters: i an I32, l an I64; "-" where Plain says no.
type row struct {
	from, to    byte // all of these are alike
	beside      string
	takes, give string
	width       int
}

// rows are the tables of P7, P8 and P9, written out.
func rows() []row {
	return []row{
		{0, 1, "", "-", "-", 0},
		{2, 4, "k", "-", "-", 0},
		{5, 5, "", "-", "-", 0},
		{11, 11, "", "-", "-", 0},
		{12, 13, "a", "-", "-", 0},
		{14, 14, "ta", "-", "-", 0},
		{15, 15, "", "-", "-", 0},
		{16, 16, "a", "-", "-", 0},
		{17, 17, "az", "-", "-", 0},
		{26, 27, "", "-", "-", 0},
		{32, 34, "a", "-", "-", 0},
		{35, 36, "a", "-", "-", 0},
		{40, 40, "ab", "i", "i", 4},
		{41, 41, "ab", "i", "l", 8},
		{44, 45, "ab", "i", "i", 1},
		{46, 47, "ab", "i", "i", 2},
		{48, 49, "ab", "i", "l", 1},
		{50, 51, "ab", "i", "l", 2},
		{52, 53, "ab", "i", "l", 4},
		{54, 54, "ab", "ii", "", 4},
		{55, 55, "ab", "il", "", 8},
		{58, 58, "ab", "ii", "", 1},
		{59, 59, "ab", "ii", "", 2},
		{60, 60, "ab", "il", "", 1},
		{61, 61, "ab", "il", "", 2},
		{62, 62, "ab", "il", "", 4},
		{63, 63, "z", "", "i", 0},
		{64, 64, "z", "i", "i", 0},
		{65, 65, "i", "", "i", 0},
		{66, 66, "l", "", "l", 0},
		{69, 69, "", "i", "i", 0},
		{70, 79, "", "ii", "i", 0},
		{80, 80, "", "l", "i", 0},
		{81, 90, "", "ll", "i", 0},
		{103, 105, "", "i", "i", 0},
		{106, 120, "", "ii", "i", 0},
		{121, 123, "", "l", "l", 0},
		{124, 138, "", "ll", "l", 0},
		{167, 167, "", "l", "i", 0},
		{172, 173, "", "i", "l", 0},
		{192, 193, "", "i", "i", 0},
		{194, 196, "", "l", "l", 0},
	}
}

// rowOf answers false for a byte that is no instruction.
func rowOf(op byte) (row, bool) {
	for _, r := range rows() {
		if r.from <= op && op <= r.to {
			return r, true
		}
	}
	return row{}, false
}

func every(try func(op byte, r row, is bool)) {
	for op := range 256 {
		r, is := rowOf(byte(op))
		try(byte(op), r, is)
	}
}

func kinds(letters string) []api.Kind {
	var out []api.Kind
	for _, c := range letters {
		switch c {
		case 'i':
			out = append(out, api.I32)
		case 'l':
			out = append(out, api.I64)
		}
	}
	return out
}

// right is an instruction of the number op that has nothing wrong about it.
func right(op byte, r row) api.Ins {
	x := api.Ins{Op: op}
	if r.beside == "k" {
		x.A = 64
	}
	return x
}

// P9: the table of P9 has 43 instructions, those of P7 and P8 have 66; every other byte is none.
func TestEveryByte(t *testing.T) {
	count := 0
	every(func(op byte, r row, is bool) {
		want := api.ErrUnsup
		if is {
			want = api.OK
			count++
		}
		if got := ins.Check(right(op, r)); got != want {
			t.Errorf("Check of %d: %d, not %d", op, got, want)
		}
		if _, got := ins.Write(right(op, r)); got != want {
			t.Errorf("Write of %d: %d, not %d", op, got, want)
		}
	})
	if count != 43+66 {
		t.Errorf("the test knows %d instructions", count)
	}
}

// P10: Plain and Width, of every byte.
func TestPlainAndWidth(t *testing.T) {
	every(func(op byte, r row, is bool) {
		in, out, plain := ins.Plain(op)
		if plain != (is && r.takes != "-") {
			t.Errorf("Plain of %d: %v", op, plain)
		}
		if !slices.Equal(in, kinds(r.takes)) || !slices.Equal(out, kinds(r.give)) {
			t.Errorf("Plain of %d: %v, %v, not %s, %s", op, in, out, r.takes, r.give)
		}
		if got := ins.Width(op); got != r.width {
			t.Errorf("Width of %d: %d, not %d", op, got, r.width)
		}
	})
}

// P2: what Plain answers is new each time, its spare room too, and its lists share nothing.
func TestPlainIsNew(t *testing.T) {
	every(func(op byte, r row, is bool) {
		for range 2 {
			in, out, _ := ins.Plain(op)
			if !slices.Equal(in, kinds(r.takes)) || !slices.Equal(out, kinds(r.give)) {
				t.Fatalf("Plain of %d: %v, %v", op, in, out)
			}
			spoil(in)
			if !slices.Equal(out, kinds(r.give)) {
				t.Fatalf("Plain of %d: both lists are one", op)
			}
			spoil(out)
		}
	})
}

func spoil[T ~byte | ~int64](list []T) {
	list = list[:cap(list)]
	for i := range list {
		list[i] = 99
	}
}

// edges of what may stand beside an instruction.
func edges() []int64 {
	return []int64{
		0, 1, 2, 63, 64, 65, 125, 126, 127, 128, 255, 256, 64 + 256, 127 + 1<<32,
		math.MaxInt32, math.MaxInt32 + 1, math.MaxUint32 - 1, math.MaxUint32, math.MaxUint32 + 1,
		math.MaxInt64, -1, -2, -64, -129, math.MinInt32, math.MinInt32 - 1, math.MinInt64,
	}
}

// fair tells by a row's letter whether a number may stand there.
func fair(letter rune, a int64) bool {
	switch letter {
	case 'k':
		return slices.Contains([]int64{64, 126, 127}, a)
	case 'a', 'b', 't':
		return a >= 0 && a < 1<<32
	case 'i':
		return a >= -1<<31 && a < 1<<31
	}
	return letter == 'l'
}

// fairIns reckons Check of an instruction that there is.
func fairIns(r row, x api.Ins) api.Errno {
	if len(x.To) > 16 {
		return api.ErrLarge
	}
	a, b, to := x.A == 0, x.B == 0, len(x.To) == 0
	for _, c := range r.beside {
		switch c {
		case 'b':
			b = fair(c, x.B)
		case 't':
			to = !slices.ContainsFunc(x.To, func(n int64) bool { return !fair(c, n) })
		case 'a', 'k', 'i', 'l':
			a = fair(c, x.A)
		}
	}
	if a && b && to {
		return api.OK
	}
	return api.ErrArg
}

// someTo are lists at the edges of To: each edge at the front, in the middle and at the end.
func someTo() [][]int64 {
	out := [][]int64{nil, {}, make([]int64, 1), make([]int64, 15), make([]int64, 16), make([]int64, 17), make([]int64, 40)}
	for _, n := range edges() {
		full := make([]int64, 16)
		full[15] = n
		large := make([]int64, 17)
		large[0] = n
		out = append(out, []int64{n}, []int64{n, 0, 3}, []int64{1, n, 3}, []int64{1, 0, n}, full, large)
	}
	return out
}

// each hands over every byte with every edge as A, B and To: two of them at once.
func each(try func(r row, is bool, x api.Ins)) {
	every(func(op byte, r row, is bool) {
		plain := right(op, r)
		for _, a := range edges() {
			for _, b := range edges() {
				try(r, is, api.Ins{Op: op, A: a, B: b})
			}
			for _, to := range someTo() {
				try(r, is, api.Ins{Op: op, A: a, To: to})
			}
		}
		for _, b := range edges() {
			for _, to := range someTo() {
				try(r, is, api.Ins{Op: op, A: plain.A, B: b, To: to})
			}
		}
	})
}

// P10: Check of every byte with every edge beside it.
func TestCheck(t *testing.T) {
	each(func(r row, is bool, x api.Ins) {
		want := api.ErrUnsup
		if is {
			want = fairIns(r, x)
		}
		if got := ins.Check(x); got != want {
			t.Errorf("Check of %v: %d, not %d", x, got, want)
		}
	})
}

// P10: the edges that the chapter names, one by one.
func TestCheckByHand(t *testing.T) {
	rows := []struct {
		x    api.Ins
		want api.Errno
	}{
		{api.Ins{Op: 0}, api.OK},
		{api.Ins{Op: 0, A: 1}, api.ErrArg},
		{api.Ins{Op: 1, B: 1}, api.ErrArg},
		{api.Ins{Op: 1, To: []int64{0}}, api.ErrArg},
		{api.Ins{Op: 1, To: []int64{}}, api.OK},
		{api.Ins{Op: 1, To: make([]int64, 16)}, api.ErrArg},
		{api.Ins{Op: 1, To: make([]int64, 17)}, api.ErrLarge},
		{api.Ins{Op: 2}, api.ErrArg},
		{api.Ins{Op: 2, A: 64}, api.OK},
		{api.Ins{Op: 3, A: 126}, api.OK},
		{api.Ins{Op: 4, A: 127}, api.OK},
		{api.Ins{Op: 4, A: 125}, api.ErrArg},
		{api.Ins{Op: 4, A: -64}, api.ErrArg},
		{api.Ins{Op: 2, A: 64, B: 1}, api.ErrArg},
		{api.Ins{Op: 6}, api.ErrUnsup},
		{api.Ins{Op: 6, A: -1, To: make([]int64, 17)}, api.ErrUnsup},
		{api.Ins{Op: 12, A: 4294967295}, api.OK},
		{api.Ins{Op: 12, A: 4294967296}, api.ErrArg},
		{api.Ins{Op: 12, A: -1}, api.ErrArg},
		{api.Ins{Op: 14}, api.OK},
		{api.Ins{Op: 14, To: make([]int64, 16)}, api.OK},
		{api.Ins{Op: 14, A: -1, To: make([]int64, 17)}, api.ErrLarge},
		{api.Ins{Op: 14, To: []int64{4294967295}}, api.OK},
		{api.Ins{Op: 14, To: []int64{0, 4294967296}}, api.ErrArg},
		{api.Ins{Op: 14, To: []int64{-1, 0}}, api.ErrArg},
		{api.Ins{Op: 14, B: 1}, api.ErrArg},
		{api.Ins{Op: 40, A: 4294967295, B: 4294967295}, api.OK},
		{api.Ins{Op: 40, B: 4294967296}, api.ErrArg},
		{api.Ins{Op: 62, B: -1}, api.ErrArg},
		{api.Ins{Op: 63, A: 1}, api.ErrArg},
		{api.Ins{Op: 65, A: -2147483648}, api.OK},
		{api.Ins{Op: 65, A: -2147483649}, api.ErrArg},
		{api.Ins{Op: 65, A: 2147483647}, api.OK},
		{api.Ins{Op: 65, A: 2147483648}, api.ErrArg},
		{api.Ins{Op: 66, A: math.MinInt64}, api.OK},
		{api.Ins{Op: 66, A: math.MaxInt64}, api.OK},
		{api.Ins{Op: 66, A: 5, B: 1}, api.ErrArg},
		{api.Ins{Op: 106, A: 1}, api.ErrArg},
		{api.Ins{Op: 255}, api.ErrUnsup},
	}
	for _, r := range rows {
		if got := ins.Check(r.x); got != r.want {
			t.Errorf("Check of %v: %d, not %d", r.x, got, r.want)
		}
	}
}
