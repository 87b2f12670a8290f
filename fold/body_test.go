package fold_test

import (
	"slices"
	"testing"

	"troupe/api"
	"troupe/ins"
	"troupe/nest"
	"troupe/num"
	"troupe/probe"
)

// P33: what is no body is what nest.Check says of it.
func TestErrors(t *testing.T) {
	for _, r := range []struct {
		l    []api.Ins
		want api.Errno
	}{
		{nil, api.ErrShort},
		{[]api.Ins{}, api.ErrShort},
		{body("int 1, drop")[:2], api.ErrShort},
		{body("block, nop"), api.ErrShort},
		{body("else"), api.ErrForm},
		{body("int 1, if, else, else, end"), api.ErrForm},
		{body("end"), api.ErrForm},
		{append(body(""), one("nop")), api.ErrForm},
		{body("return, 6"), api.ErrUnsup},
		{body("int 2147483648, drop"), api.ErrArg},
		{body("return, get -1"), api.ErrArg},
		{body("return, block 0, end"), api.ErrArg},
		{[]api.Ins{{Op: 14, To: make([]int64, 17)}, {Op: 11}}, api.ErrLarge},
		{slices.Repeat(body(""), 201), api.ErrLarge},
		{append(slices.Repeat([]api.Ins{{Op: 1}}, 200), api.Ins{Op: 11}), api.ErrLarge},
		{append(slices.Repeat([]api.Ins{one("block")}, 13), slices.Repeat(body(""), 14)...), api.ErrDeep},
	} {
		if err := nest.Check(r.l); err != r.want {
			t.Fatalf("%v is %d", r.l, err)
		}
		refuses(t, r.l, r.want)
	}
}

// P33: on these no rule applies.
func TestNothingToDo(t *testing.T) {
	stay(t, "", "get 0", "int 1", "int 1, int 2, long 3", "get 0, br_table 0 1 2", "int 4, load 2 300", "int 4, long 5, store64 3 4294967295",
		"get 0, get 1, add", "call 1, indirect 3, call 4294967295", "block i32, int 1, end, loop i64, long 1, end", "get 0, if, else, end")
}

// P33, 1: a nop goes.
func TestNop(t *testing.T) {
	becomeAll(t, []sample{
		{"nop", ""},
		{"nop, nop, get 0, nop, nop", "get 0"},
		{"block i32, nop, get 0, nop, end, nop", "block i32, get 0, end"},
		{"get 0, if, nop, else, nop, end", "get 0, if, else, end"},
		{"int 2, nop, int 3, nop, mul", "int 6"},
		{"set 0, nop, get 0", "tee 0"},
	})
	becomes(t, append(slices.Repeat([]api.Ins{{Op: 1}}, 199), api.Ins{Op: 11}), body(""))
}

// P33, 2: one number is reckoned, if the const is of the kind that is taken.
func TestOneNumber(t *testing.T) {
	becomeAll(t, []sample{
		{"int 0, eqz", "int 1"},
		{"int 5, eqz", "int 0"},
		{"long 0, 80", "int 1"},
		{"int 1, 103", "int 31"},
		{"long 1, 121", "long 63"},
		{"int 255, 192", "int -1"},
		{"long 4294967295, 196", "long -1"},
		{"long 4294967301, cut", "int 5"},
		{"long 2147483648, cut", "int -2147483648"},
		{"int -1, widen", "long -1"},
		{"int -1, 173", "long 4294967295"},
		{"int 7, eqz, eqz, 105, eqz", "int 0"},
		{"int 7, widen, 80, 173", "long 0"},
		{"get 0, int 0, eqz, add", "get 0, int 1, add"},
	})
	stay(t, "long 0, eqz", "int 0, 80", "int 5, cut", "long 5, widen", "long 5, 173", "int 5, 121", "long 5, 192", "int 5, 194",
		"get 0, eqz", "gget 0, eqz", "size, eqz", "int 1, get 0, eqz", "int 1, block i32, eqz, end", "block i32, int 1, end, eqz",
		"int 1, grow", "int 1, load 0 0", "int 1, 45 0 0", "int 1, load64 0 0", "int 1, set 0", "int 1, tee 0", "int 1, gset 0", "int 1, call 0", "int 1, indirect 0")
}

// P33, 3: two numbers are reckoned, if both consts are of the kind that is taken, and nothing is wrong with them.
func TestTwoNumbers(t *testing.T) {
	becomeAll(t, []sample{
		{"int 2, int 3, mul", "int 6"},
		{"int 7, int 2, sub", "int 5"},
		{"int 2147483647, int 1, add", "int -2147483648"},
		{"long 9223372036854775807, long 1, add64", "long -9223372036854775808"},
		{"long 3, long 3, 81", "int 1"},
		{"long -1, long 1, 84", "int 0"},
		{"int -7, int 2, div", "int -3"},
		{"int -2147483648, int -1, 111", "int 0"},
		{"int -2147483648, int -1, 110", "int 0"},
		{"int 9, int 2, int 3, sub, sub", "int 10"},
		{"int 9, int 2, sub, int 3, sub", "int 4"},
		{"int 9, int 2, int 3, sub", "int 9, int -1"},
		{"get 0, int 2, int 3, add, add", "get 0, int 5, add"},
		{"int 1, int 1, sub, if, call 3, end", ""},
		{"int 1, int 0, div, int 2, int 3, add, drop", "int 1, int 0, div"},
		{"long 1, long 2, add64, cut, int 3, 70", "int 1"},
	})
	stay(t, "int 1, int 0, div", "int 1, int 0, 110", "int 1, int 0, 111", "int 1, int 0, 112", "int -2147483648, int -1, div", "int 1, int 0, div, drop",
		"long 1, long 0, div64", "long 1, long 0, 128", "long 1, long 0, 129", "long 1, long 0, 130", "long -9223372036854775808, long -1, div64",
		"int 1, long 2, add", "long 1, int 2, add", "long 1, long 2, add", "int 1, int 2, add64", "int 1, long 2, add64", "long 1, int 2, add64",
		"get 0, int 1, add", "int 1, get 0, add", "int 1, add", "add", "int 1, int 2, store 0 0", "int 1, int 2, int 0, select", "int 1, int 2")
}

// beside is an instruction of that number that may stand alone in a body.
func beside(op byte) (api.Ins, bool) {
	x := api.Ins{Op: op}
	return x, op != 5 && op != 11 && ins.Check(x) == api.OK
}

// P33, 2 and 3: each instruction there is, behind consts of each kind.
func TestEachInstruction(t *testing.T) {
	found := 0
	for number := range 256 {
		x, is := beside(byte(number))
		if !is || x.Op == 1 || x.Op == 13 || x.Op == 26 || x.Op == 27 {
			continue
		}
		for _, kinds := range [][]byte{{65}, {66}, {65, 65}, {65, 66}, {66, 65}, {66, 66}, {65, 65, 65}, {66, 66, 66}} {
			for _, n := range probe.Edges() {
				var l []api.Ins
				for at, kind := range kinds {
					l = append(l, api.Ins{Op: kind, A: num.Fit([]api.Kind{127, 126}[kind-65], n+int64(2*at))})
				}
				l = append(l, x, api.Ins{Op: 11})
				want, count := reckon(l)
				found += count[2] + count[3]
				becomes(t, l, want)
			}
		}
	}
	if found < 5000 {
		t.Errorf("only %d have become consts", found)
	}
}

// P33, 4: what gives a value and nothing else goes with the drop behind it.
func TestDrop(t *testing.T) {
	becomeAll(t, []sample{
		{"int 1, drop", ""},
		{"long 1, drop", ""},
		{"get 3, drop", ""},
		{"gget 2, drop", ""},
		{"int 1, long 2, get 3, gget 4, drop, drop, drop, drop", ""},
		{"get 0, drop, drop", "drop"},
		{"size, get 0, drop, drop", "size, drop"},
		{"block, int 1, drop, end", ""},
		{"int 1, eqz, drop", ""},
	})
	stay(t, "drop", "drop, drop", "size, drop", "int 1, grow, drop", "call 2, drop", "int 1, load 0 0, drop", "get 0, eqz, drop", "set 0, drop", "gset 0, drop",
		"get 0, get 1, add, drop", "block i32, get 0, end, drop", "get 0, block, drop, end")
}

// P33, 5: a br_if that is known goes, or is a br.
func TestBrIf(t *testing.T) {
	becomeAll(t, []sample{
		{"int 0, br_if 0", ""},
		{"int 1, br_if 0", "br 0"},
		{"int -1, br_if 3", "br 3"},
		{"int -2147483648, br_if 4294967295", "br 4294967295"},
		{"block i32, get 5, int 0, br_if 0, end", "block i32, get 5, end"},
		{"block i32, get 5, int 2, br_if 0, end", "block i32, get 5, br 0, end"},
		{"loop, call 3, int 1, br_if 0, call 4, end, call 5", "loop, call 3, br 0, end, call 5"},
		{"loop, call 3, int 0, br_if 0, call 4, end, call 5", "loop, call 3, call 4, end, call 5"},
		{"int 3, eqz, br_if 0", ""},
		{"int 1, int 0, br_if 0, br_if 1, nop", "br 1"},
	})
	stay(t, "get 0, br_if 0", "long 1, br_if 0", "long 0, br_if 0", "int 1, get 0, br_if 0", "int 0, br_table 0", "int 1, br_table 0 1 2", "br_if 0")
}

// P33, 6: what can't be come to goes, up to the end or else of its block.
func TestDead(t *testing.T) {
	for _, head := range []string{"br 0", "br_table 0", "br_table 3 1 2", "return", "unreachable"} {
		becomeAll(t, []sample{
			{head, head},
			{head + ", nop", head},
			{head + ", drop, add, call 3, int 1, long 2, br 7, store 0 0", head},
			{head + ", block, call 3, loop, call 4, end, end, call 5", head},
			{head + ", get 0, if, call 3, else, call 4, end, call 5", head},
			{head + ", get 0, if, call 3, end, call 5", head},
			{head + ", block i32, int 1, end, loop, end", head},
			{"block, " + head + ", call 3, end, call 4", "block, " + head + ", end, call 4"},
			{"loop, " + head + ", block, end, call 3, end, call 4", "loop, " + head + ", end, call 4"},
			{"get 0, if, " + head + ", call 3, end, call 4", "get 0, if, " + head + ", end, call 4"},
			{"get 0, if, " + head + ", call 3, else, call 4, end, call 5", "get 0, if, " + head + ", else, call 4, end, call 5"},
			{"get 0, if, call 3, else, " + head + ", call 4, end, call 5", "get 0, if, call 3, else, " + head + ", end, call 5"},
			{"block, block, " + head + ", end, " + head + ", call 3, end, call 4", "block, block, " + head + ", end, " + head + ", end, call 4"},
			{head + ", br 1, return, unreachable, br_table 1 2", head},
			{head + ", int 1, if, call 3, else, call 4, end", head},
		})
	}
	stay(t, "get 0, br_if 0, call 3", "call 3, call 4", "indirect 0, call 4", "block, br 0, end, call 3", "loop, call 3, end, call 4")
}

// P33, 7: a value that is put somewhere and got from there at once is kept.
func TestSetAndGet(t *testing.T) {
	becomeAll(t, []sample{
		{"set 0, get 0", "tee 0"},
		{"set 4294967295, get 4294967295", "tee 4294967295"},
		{"set 3, get 3, set 3, get 3", "tee 3, tee 3"},
		{"set 2, get 2, drop", "set 2"},
		{"set 2, get 2, drop, get 2", "tee 2"},
		{"set 2, get 2, get 2", "tee 2, get 2"},
		{"set 2, set 2, get 2, get 2", "set 2, tee 2, get 2"},
		{"set 1, int 5, drop, get 1", "tee 1"},
	})
	stay(t, "set 0, get 1", "set 1, get 0", "gset 0, gget 0", "set 0, gget 0", "gset 0, get 0", "get 0, set 0", "tee 0, get 0", "set 0, tee 0", "set 0, set 0",
		"set 0, block i32, get 0, end", "block, set 0, end, get 0", "set 0, get 1, get 0")
}

// P33, 8: an if that is known is a block, or goes.
func TestIf(t *testing.T) {
	becomeAll(t, []sample{
		{"int 1, if, call 3, end, call 4", "block, call 3, end, call 4"},
		{"int -1, if, call 3, end", "block, call 3, end"},
		{"int -2147483648, if, br 0, end", "block, br 0, end"},
		{"int 0, if, call 3, end, call 4", "call 4"},
		{"int 0, if, end", ""},
		{"int 1, if, end", ""},
		{"int 1, if i32, get 0, else, get 1, end", "block i32, get 0, end"},
		{"int 0, if i32, get 0, else, get 1, end", "block i32, get 1, end"},
		{"int 2, if i64, get 0, else, get 1, end, drop", "block i64, get 0, end, drop"},
		{"int 0, if i64, get 0, else, get 1, end, drop", "block i64, get 1, end, drop"},
		{"int 1, if, call 3, else, end", "block, call 3, end"},
		{"int 0, if, call 3, else, end", ""},
		{"int 1, if, else, call 3, end", ""},
		{"int 0, if, else, call 3, end", "block, call 3, end"},
		{"int 1, if, br 0, else, br 1, end", "block, br 0, end"},
		{"int 0, if, br 0, else, br 1, end", "block, br 1, end"},
		{"int 1, if i64, end", "block i64, end"},
		{"int 0, if i64, end", ""},
		{"int 0, if i64, else, end", "block i64, end"},
		{"call 2, int 1, if, call 3, end", "call 2, block, call 3, end"},
		{"call 2, int 0, if, call 3, end, call 4", "call 2, call 4"},
	})
	stay(t, "get 0, if, call 3, end", "long 1, if, call 3, end", "long 0, if, call 3, else, call 4, end", "int 1, get 0, if, call 3, end",
		"int 1, block, call 3, end", "int 0, block, call 3, end", "int 0, loop, call 3, end", "if, call 3, end")
}

// P33, 8: an else or end of what is within is not that of the if.
func TestIfWithin(t *testing.T) {
	inner := "get 0, if, call 3, else, call 4, end"
	becomeAll(t, []sample{
		{"int 1, if, " + inner + ", else, call 5, end, call 6", "block, " + inner + ", end, call 6"},
		{"int 0, if, " + inner + ", else, call 5, end, call 6", "block, call 5, end, call 6"},
		{"int 1, if, call 5, else, " + inner + ", end, call 6", "block, call 5, end, call 6"},
		{"int 0, if, call 5, else, " + inner + ", end, call 6", "block, " + inner + ", end, call 6"},
		{"int 1, if, " + inner + ", end, call 6", "block, " + inner + ", end, call 6"},
		{"int 0, if, " + inner + ", end, call 6", "call 6"},
		{"get 0, if, int 1, if, call 3, end, else, call 4, end", "get 0, if, block, call 3, end, else, call 4, end"},
		{"get 0, if, int 0, if, call 3, end, else, call 4, end", "get 0, if, else, call 4, end"},
		{"get 0, if, call 3, else, int 0, if, call 4, end, end", "get 0, if, call 3, else, end"},
		{"int 1, if, int 0, if, call 3, else, call 4, end, else, call 5, end", "block, block, call 4, end, end"},
		{"block, int 1, if, block, call 3, end, else, loop, call 4, end, end, end", "block, block, block, call 3, end, end, end"},
	})
}

// P33, 9: a block or loop of kind 64 goes, if nothing is within.
func TestEmpty(t *testing.T) {
	becomeAll(t, []sample{
		{"block, end", ""},
		{"loop, end", ""},
		{"block, loop, block, end, end, end", ""},
		{"block, end, loop, end, block, end", ""},
		{"block, nop, int 1, drop, end", ""},
		{"set 0, block, end, get 0", "tee 0"},
		{"get 0, if, block, end, else, loop, end, end", "get 0, if, else, end"},
		{"int 1, block, end, if, loop, end, end, call 3", "call 3"},
	})
	stay(t, "block i32, end", "block i64, end", "loop i32, end", "loop i64, end", "get 0, if, end", "get 0, if, else, end", "get 0, if i32, end", "if, end",
		"block, call 3, end", "loop, br 0, end", "block, br 0, end")
	becomes(t, slices.Concat(slices.Repeat([]api.Ins{one("block")}, 12), slices.Repeat(body(""), 13)), body(""))
	becomes(t, append(slices.Repeat([]api.Ins{one("block"), one("end")}, 99), body("get 0")...), body("get 0"))
}

// P33, 10: a tee whose value isn't wanted is a set.
func TestTeeAndDrop(t *testing.T) {
	becomeAll(t, []sample{
		{"tee 0, drop", "set 0"},
		{"tee 4294967295, drop", "set 4294967295"},
		{"tee 0, drop, get 0", "tee 0"},
		{"tee 0, drop, get 0, drop, get 0", "tee 0"},
		{"tee 0, tee 1, drop", "tee 0, set 1"},
		{"tee 0, tee 1, drop, drop", "tee 0, set 1, drop"},
		{"tee 0, nop, drop", "set 0"},
	})
	stay(t, "tee 0", "tee 0, tee 0", "tee 0, size, drop", "tee 0, block, drop, end", "block i32, tee 0, end, drop")
}

// P33, 11: a select that is known to take the lower one drops the upper one.
func TestSelect(t *testing.T) {
	becomeAll(t, []sample{
		{"size, size, int 1, select", "size, size, drop"},
		{"size, size, int -1, select", "size, size, drop"},
		{"size, size, int -2147483648, select", "size, size, drop"},
		{"get 0, get 1, int 1, select", "get 0"},
		{"int 8, int 9, int 1, select", "int 8"},
		{"long 8, long 9, int 1, select, long 1, add64", "long 9"},
		{"size, tee 0, int 2, select", "size, set 0"},
		{"int 1, select", "drop"},
		{"int 1, int 1, select", ""},
		{"int 1, int 1, int 1, select, select", "drop"},
	})
	stay(t, "get 0, get 1, int 0, select", "int 8, int 9, int 0, select", "get 0, get 1, long 1, select", "get 0, get 1, get 2, select", "select")
}

// P33: what one rule leaves is looked at anew.
func TestAnew(t *testing.T) {
	becomeAll(t, []sample{
		{"nop, long 1, 80, if, nop, else, unreachable, end", "block, unreachable, end"},
		{"block, int 1, br_if 0, nop, loop, end, end", "block, br 0, end"},
		{"int 3, int 4, 72, if, call 3, else, call 4, end, int 5, int 5, 70, br_if 0, call 5", "block, call 3, end, br 0"},
		{"int 1, if, int 0, if, call 3, end, else, call 4, end, get 2, drop, set 1, loop, end, get 1, tee 0, drop", "tee 1, set 0"},
		{"get 0, get 1, int 6, int 2, 110, int 3, sub, select", "get 0, get 1, int 0, select"},
		{"get 0, get 1, int 6, int 2, 110, int 4, sub, select", "get 0"},
		{"block, int 2, int 2, sub, br_if 0, end, int 9, if, block, int 0, if, call 3, end, end, end", ""},
	})
}
