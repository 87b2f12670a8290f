package walk_test

import (
	"strconv"
	"strings"
	"testing"

	"troupe/api"
)

// P28: block, loop and end do nothing; what a block gives lies above what was there.
func TestBlocks(t *testing.T) {
	playAll(t, kinds(i32), []sample{
		{typeNothing, "block, end", nil, done(1)},
		{typeNothing, "loop, end", nil, done(1)},
		{typeNothing, "block, loop, block, end, end, nop, end", nil, done(4)},
		{typeInt, "block i32, int 5, end", nil, done(2, 5)},
		{typeInt, "loop i32, int 5, end", nil, done(2, 5)},
		{typeInt, "int 9, block i32, int 5, end, sub", nil, done(4, 4)},
		{typeInt, "int 9, block, int 5, drop, end", nil, done(4, 9)},
		{typeInt, "int 9, loop i32, block i32, int 2, end, int 3, mul, end, sub", nil, done(7, 3)},
	})
}

// P28: if takes a number; if that is 0 its way is gone, behind its else, or to its end; behind the first half the else's way is gone.
func TestIf(t *testing.T) {
	playAll(t, kinds(i32, i32), []sample{
		{typeInt, "int 1, if i32, int 5, else, int 6, end", nil, done(3, 5)},
		{typeInt, "int 0, if i32, int 5, else, int 6, end", nil, done(3, 6)},
		{typeInt, "int -1, if i32, int 5, else, int 6, end", nil, done(3, 5)},
		{typeInt, "int -2147483648, if i32, int 5, else, int 6, end", nil, done(3, 5)},
		{typeInt, "int 8, int 1, if i32, int 5, else, int 6, end, sub", nil, done(5, 3)},
		{typeInt, "int 8, int 0, if i32, int 5, else, int 6, end, sub", nil, done(5, 2)},
		{typeInt, "int 8, int 1, if, int 5, set 0, end, get 0, sub", nil, done(7, 3)},
		{typeInt, "int 8, int 0, if, int 5, set 0, end, get 0, sub", nil, done(5, 8)},
		{typeInt, "int 1, if, int 5, set 0, else, int 6, set 1, end, get 0, get 1, sub", nil, done(7, 5)},
		{typeInt, "int 0, if, int 5, set 0, else, int 6, set 1, end, get 0, get 1, sub", nil, done(7, -6)},
		{typeInt, "int 1, if, else, int 6, set 1, end, get 1", nil, done(3, 0)},
		{typeInt, "int 0, if, else, int 6, set 1, end, get 1", nil, done(5, 6)},
		{typeInt, "int 0, if, int 5, set 0, else, end, get 0", nil, done(3, 0)},
		{typeInt, "int 1, if i32, int 0, if i32, int 1, else, int 2, end, else, int 3, end", nil, done(5, 2)},
		{typeInt, "int 0, if i32, int 0, if i32, int 1, else, int 2, end, else, int 3, end", nil, done(3, 3)},
		{typeInt, "int 1, if i32, int 5, br 0, else, int 6, end", nil, done(4, 5)},
		{typeInt, "int 0, if i32, int 5, else, int 6, int 7, br 0, end", nil, done(5, 7)},
	})
}

// P28: a way keeps the topmost values that are kept, and the lowest ones; those between are gone.
func TestBranch(t *testing.T) {
	playAll(t, nil, []sample{
		{typeNothing, "br 0", nil, done(1)},
		{typeInt, "int 5, br 0", nil, done(2, 5)},
		{typeInt, "int 5, int 6, int 7, br 0", nil, done(4, 7)},
		{typeLong, "int 5, int 6, long 7, br 0", nil, done(4, 7)},
		{typeInt, "block, br 0, unreachable, end, int 1", nil, done(3, 1)},
		{typeInt, "int 9, block, int 5, int 6, br 0, end", nil, done(5, 9)},
		{typeInt, "int 9, block i32, int 5, int 6, br 0, end, sub", nil, done(6, 3)},
		{typeInt, "int 9, block i32, int 4, int 5, int 6, br 0, end, sub", nil, done(7, 3)},
		{typeInt, "int 9, block i32, int 5, block, int 3, int 6, br 1, end, end, sub", nil, done(8, 3)},
		{typeInt, "int 9, block i32, int 5, block, int 3, br 0, end, end, sub", nil, done(7, 4)},
		{typeInt, "int 9, block i32, int 5, block i64, int 3, br 1, end, drop, end, sub", nil, done(7, 6)},
		{typeInt, "int 8, int 9, block i32, loop i32, int 5, int 6, br 1, end, end, sub, sub", nil, done(9, 5)},
		{typeInt, "int 9, block, block, block, int 1, br 2, end, end, int 2, drop, end", nil, done(6, 9)},
		{typeInt, "int 9, block, block, block, int 1, br 1, end, end, int 2, drop, end", nil, done(8, 9)},
		{typeInt, "int 8, int 9, block, block, int 7, br 2, end, end, drop", nil, done(6, 7)},
	})
}

// P28: br_if takes a number, and goes its way if that isn't 0.
func TestBranchIf(t *testing.T) {
	for _, n := range []int64{0, 1, -1, 2, 256, -2147483648, 2147483647} {
		number := "int " + strconv.FormatInt(n, 10)
		far, stays := done(5, 9), done(6, 9)
		kept, left := done(6, 5), done(9, 2)
		if n == 0 {
			far, kept = stays, left
		}
		playAll(t, nil, []sample{
			{typeInt, "int 9, block, " + number + ", br_if 0, nop, end, nop", nil, far},
			{typeInt, "block i32, int 3, int 5, " + number + ", br_if 0, drop, int 1, sub, end, nop", nil, kept},
		})
	}
	playAll(t, nil, []sample{
		{typeInt, "int 5, int 0, br_if 0, int 3, sub", nil, done(5, 2)},
		{typeInt, "int 5, int 1, br_if 0, int 3, sub", nil, done(3, 5)},
		{typeInt, "int 9, int 5, int 1, br_if 0, drop", nil, done(4, 5)},
		{typeInt, "int 9, int 5, int 0, br_if 0, drop", nil, done(5, 9)},
	})
}

// P28: br_table takes a number without its sign, and goes the way with that number, if To has so many, else the last one.
func TestBranchTable(t *testing.T) {
	text := "block, block, block, block, get 0, br_table 2 0 1 2 3, end, int 10, return, end, int 11, return, end, int 12, return, end, int 13"
	for n, want := range map[int64]int64{
		0: 12, 1: 10, 2: 11, 3: 12, 4: 13, 5: 13, 99: 13, -1: 13, -2: 13, -2147483648: 13, 2147483647: 13, 1 << 32: 12, 1<<32 + 1: 10,
	} {
		cost := 8 // with the return
		if want == 13 {
			cost--
		}
		plays(t, text, with(typeIntInt, nil, text), args(n), done(cost, want))
	}
	for _, n := range []int64{0, 1, -1, 7} {
		text := "int 4, block i32, int 5, int 6, get 0, br_table 0, end, sub"
		plays(t, text, with(typeIntInt, nil, text), args(n), done(7, -2))
	}
	text = "int 4, block i32, int 5, int 6, get 0, br_table 1 0, end, sub"
	plays(t, text, with(typeIntInt, nil, text), args(0), done(6, 6))
	plays(t, text, with(typeIntInt, nil, text), args(1), done(7, -2))
}

// P28: br_table with as many ways as there may be; how far it went is told by how many ends it came past.
func TestManyWays(t *testing.T) {
	text := strings.Repeat("block, ", 11) + "get 0, br_table 0 1 2 3 4 5 6 7 8 9 10 9 8 7 6 5 10" +
		strings.Repeat(", end, get 1, int 1, add, set 1", 11) + ", get 1"
	m := with(typeIntInt, kinds(i32), text)
	far := []int64{0, 1, 2, 3, 4, 5, 6, 7, 8, 9, 10, 9, 8, 7, 6, 5, 10, 10, 10}
	for n, blocks := range far {
		count := 11 - blocks
		plays(t, text, m, args(int64(n)), done(14+4*int(count), count))
	}
}

// P28: return is a way out of all blocks.
func TestReturn(t *testing.T) {
	playAll(t, nil, []sample{
		{typeNothing, "return", nil, done(1)},
		{typeNothing, "return, unreachable", nil, done(1)},
		{typeInt, "int 5, return", nil, done(2, 5)},
		{typeInt, "int 5, int 6, return", nil, done(3, 6)},
		{typeLong, "int 5, long 6, return, unreachable", nil, done(3, 6)},
		{typeNothing, "int 5, long 6, return", nil, done(3)},
		{typeInt, "int 9, block, loop, block i64, int 6, return, end, drop, end, end", nil, done(6, 6)},
		{typeInt, "int 9, int 1, if, int 6, return, else, unreachable, end", nil, done(5, 6)},
		{typeInt, "int 7, int 8, call 6, int 3, sub", nil, done(8, -4)},
	})
}

// P28: a way to a loop leads to its beginning, keeps nothing, and costs the loop anew.
func TestLoop(t *testing.T) {
	playAll(t, kinds(i32), []sample{
		{typeIntInt, "loop, get 1, get 0, add, set 1, get 0, int 1, sub, tee 0, br_if 0, end, get 1", args(10), done(101, 55)},
		{typeIntInt, "loop, get 1, get 0, add, set 1, get 0, int 1, sub, tee 0, br_if 0, end, get 1", args(1), done(11, 1)},
		{typeIntInt, "loop i32, int 7, int 8, get 0, int 1, sub, tee 0, br_if 0, sub, end", args(3), done(25, -1)},
		{typeIntInt, "block i32, loop, int 9, get 0, eqz, br_if 1, drop, int 3, int 4, get 0, int 1, sub, set 0, br 0, end, int 0, end", args(2), done(32, 9)},
		{typeIntInt, "block, loop, get 0, eqz, br_if 1, loop, get 1, int 1, add, set 1, get 0, int 1, sub, set 0, br 1, end, end, end, get 1", args(4), done(62, 4)},
	})
}

// P28: each that is come to costs 1 of the fuel, but else and end, which cost nothing.
func TestCosts(t *testing.T) {
	for text, cost := range map[string]int{
		"nop":                                 1,
		"nop, nop, nop":                       3,
		"block, end, loop, end":               2,
		"int 1, if, else, end":                2,
		"int 0, if, else, end":                2,
		"int 0, if, nop, end":                 2,
		"int 1, if, nop, end":                 3,
		"int 0, if, nop, else, nop, nop, end": 4,
		"int 1, if, nop, else, nop, nop, end": 3,
		"block, block, block, end, end, end":  3,
		"block, br 0, nop, nop, end":          2,
		"return, nop":                         1,
		"call 3":                              1,
		"int 1, call 5, drop":                 6,
		"int 1, int 1, indirect 5, drop":      7,
		"call 2, drop":                        2,
		"int 0, load 0, drop":                 3,
		"int 0, int 0, store 0":               3,
		"size, grow, drop":                    3,
		"long 0, drop":                        2,
		"int 0, int 0, int 0, select, drop":   5,
	} {
		m := with(typeNothing, nil, text)
		for fuel := range cost {
			if got := called(t, m, first(m), main, nil, nil, fuel); !sameOut(got.out, spent()) {
				t.Errorf("%s with %d: %v", text, fuel, got.out)
			}
		}
		for more := range 3 {
			if got := called(t, m, first(m), main, nil, nil, cost+more); !sameOut(got.out, done(more)) {
				t.Errorf("%s with %d: %v", text, cost+more, got.out)
			}
		}
	}
}

// P28: where one would cost and none is left all ends, and that one is not done; what was done ahead of it is.
func TestFuel(t *testing.T) {
	m := with(typeNothing, nil, "int 1, gset 0, int 2, gset 0, call 3, int 1, grow, drop, int 0, int 7, store 0, unreachable")
	globals, lengths := []int64{7, 7, 1, 1, 2}, []int{256, 256, 256, 256, 256, 256, 256, 512}
	for fuel := range 12 {
		got := called(t, m, first(m), main, nil, nil, fuel)
		want := first(m)
		want.Globals[0] = globals[min(fuel, 4)]
		want.Mem += zeros(lengths[min(fuel, 7)] - 256)
		if fuel == 11 {
			want.Mem = "\x07" + zeros(3) + want.Mem[4:]
		}
		if !sameOut(got.out, spent()) || !sameImage(got.image, want) || len(got.asks) != min(fuel/5, 1) {
			t.Errorf("%d of the fuel: %v, %v", fuel, got.out, got.asks)
		}
	}
	for fuel := 12; fuel < 15; fuel++ {
		if got := called(t, m, first(m), main, nil, nil, fuel); !sameOut(got.out, trapped(fuel-12, api.ErrUnreachable)) {
			t.Errorf("%d of the fuel: %v", fuel, got.out)
		}
	}
}

// P28: what never ends by itself ends with the fuel, however much there is.
func TestEndless(t *testing.T) {
	for _, text := range []string{"loop, br 0, end", "loop, loop, br 1, end, end", "loop, int 1, br_if 0, end", "loop, int 5, int 6, br 0, end", "loop, int 5, br_table 0 0 0, end"} {
		m := with(typeNothing, nil, text)
		for _, fuel := range []int{0, 1, 2, 3, 1000, api.MaxFuel} {
			if got := called(t, m, first(m), main, nil, nil, fuel); !sameOut(got.out, spent()) {
				t.Errorf("%s with %d: %v", text, fuel, got.out)
			}
		}
	}
}

// P28: a long body, and blocks as deep as there may be.
func TestLimits(t *testing.T) {
	long := strings.Repeat("nop, ", 199)
	plays(t, "nops", with(typeNothing, nil, long), nil, done(199))
	high := strings.Repeat("int 1, ", 100) + strings.Repeat("add, ", 99)
	plays(t, "a high stack", with(typeInt, nil, high), nil, done(199, 100))
	plays(t, "a high stack that is left", with(typeInt, nil, strings.Repeat("int 1, ", 197)+"int 5, return"), nil, done(199, 5))
	deep := strings.Repeat("int 1, block i32, ", 12) + "int 9, br 11" + strings.Repeat(", end, add", 12)
	plays(t, "deep blocks", with(typeInt, nil, deep), nil, done(27, 10))
	deep = strings.Repeat("int 1, if, ", 12) + "nop" + strings.Repeat(", else, unreachable, end", 12)
	plays(t, "deep ifs", with(typeNothing, nil, deep), nil, done(25))
}
