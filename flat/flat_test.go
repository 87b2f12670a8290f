package flat_test

import (
	"math"
	"slices"
	"strconv"
	"strings"
	"testing"

	"troupe/api"
	"troupe/flat"
	"troupe/valid"
)

// sample is a body, and where its ways lead.
type sample struct {
	number int // of its type
	text   string
	want   string
}

func holdAll(t *testing.T, samples []sample) {
	t.Helper()
	for _, s := range samples {
		m := with(s.number, kinds(i32, i64), body(s.text))
		spots, err := flat.Func(m, 0)
		if got := told(spots); got != s.want || err != api.OK || len(spots) != len(m.Funcs[0].Body) {
			t.Errorf("%s: %s (%d), %d, not %s", s.text, got, len(spots), err, s.want)
		}
	}
}

// P23: br and br_if have one way, that of A.
func TestBr(t *testing.T) {
	holdAll(t, []sample{
		{0, "block, br 0, end", "1>2/0/0"},
		{0, "block, int, br_if 0, end", "2>3/0/0"},
		{0, "br 0", "0>1/0/0"},
		{0, "int, br_if 0", "1>2/0/0"},
		{typeInt, "int, br 0", "1>2/1/0"},
		{typeInt, "int, int, br_if 0", "2>3/1/0"},
		{typeLong, "long, int, br_if 0", "2>3/1/0"},
		{0, "block, br 1, end", "1>3/0/0"},
		{0, "block, block, br 0, end, br 0, end", "2>3/0/0 4>5/0/0"},
		{0, "block, block, br 1, end, end", "2>4/0/0"},
		{0, "block, block, br 2, end, end", "2>5/0/0"},
		{0, "block, nop, end, block, nop, br 0, nop, end, br 0", "5>7/0/0 8>9/0/0"},
		{0, "block i32, int, br 0, end, drop", "2>3/1/0"},
		{0, "block i64, long, br 0, end, drop", "2>3/1/0"},
		{0, "block i64, long, int, br_if 0, int, br_if 0, end, drop", "3>6/1/0 5>6/1/0"},
	})
}

// P23: Height is what lies below the block's own part, whatever lies in that part.
func TestHeight(t *testing.T) {
	holdAll(t, []sample{
		{0, "int, block, br 0, end, drop", "2>3/0/1"},
		{0, "int, long, block, int, int, br 0, end, drop, drop", "5>6/0/2"},
		{0, "int, block i64, int, int, long, br 0, end, drop, drop", "5>6/1/1"},
		{0, "int, block i64, int, int, long, br 1, end, drop, drop", "5>9/0/0"},
		{0, "int, block, int, block i32, int, int, br_if 0, br_if 1, int, br_if 2, int, end, drop, drop, end, drop",
			"6>11/1/2 7>14/0/1 9>16/0/0"},
		{typeInt, "long, int, block i32, int, block, int, br 2, end, end, drop, drop, drop, int", "6>13/1/0"},
		{0, "int, block, long, loop, int, br_if 0, int, br_if 1, end, drop, end, drop", "5>3/0/2 7>10/0/1"},
		// What a function takes, and its locals, are not on the stack.
		{typeFour, "get 0, block, get 4, drop, br 0, end, drop", "4>5/0/1"},
		{typeBoth, "get 1, block, br 0, end, return", "2>3/0/1 4>5/1/0"},
		// What is below the block is as many values as are given there, by a call or a block.
		{0, "int, long, call 0, block, br 0, end, drop", "4>5/0/1"},
		{0, "block i32, int, end, block, br 0, end, drop", "4>5/0/1"},
		{0, "int, drop, block, br 0, end", "3>4/0/0"},
		{0, "int, int, int, select, block, br 0, end, drop", "5>6/0/1"},
	})
}

// P23: a way to a loop leads to its place, and keeps nothing, whatever its kind.
func TestLoop(t *testing.T) {
	holdAll(t, []sample{
		{0, "loop, br 0, end", "1>0/0/0"},
		{0, "nop, loop, int, br_if 0, end", "3>1/0/0"},
		{0, "loop i32, br 0, end, drop", "1>0/0/0"},
		{0, "int, loop i64, int, br_if 0, long, end, drop, drop", "3>1/0/1"},
		{0, "int, long, loop i64, int, int, br 0, end, drop, drop, drop", "5>2/0/2"},
		{0, "loop, loop, br 0, end, loop, br 1, end, br 0, end", "2>1/0/0 5>0/0/0 7>0/0/0"},
		{0, "loop, block, br 1, end, block, br 0, end, br 1, end", "2>0/0/0 5>6/0/0 7>9/0/0"},
		{0, "block, loop, br 1, end, end", "2>4/0/0"},
		{0, "loop, int, if, br 1, else, br 0, end, end", "2>5/0/0 3>0/0/0 5>6/0/0"},
	})
}

// P23: br_table has the ways of To, in order, then that of A.
func TestBrTable(t *testing.T) {
	holdAll(t, []sample{
		{0, "int, br_table 0", "1>2/0/0"},
		{0, "int, br_table 0 0", "1>2/0/0+2/0/0"},
		{0, "block, int, br_table 0 1, end", "2>3/0/0+4/0/0"},
		{0, "block, int, br_table 1 0, end", "2>4/0/0+3/0/0"},
		{0, "block, loop, int, br_table 0 1 2 1 0, end, end", "3>1/0/0+5/0/0+6/0/0+5/0/0+1/0/0"},
		{0, "int, block, long, block, loop, int, br_table 2 1 0 3, end, end, drop, end, drop",
			"6>10/0/1+8/0/2+4/0/2+12/0/0"},
		{typeInt, "long, block i32, int, int, br_table 0 1 0, end, set 0, drop, get 0", "4>5/1/1+9/1/0+5/1/1"},
		{typeInt, "block i32, int, int, br_table 0, end", "3>4/1/0"},
	})
}

// P23: as many ways of a br_table as there may be.
func TestManyWays(t *testing.T) {
	list := body("block, loop, int, end, end")
	x := api.Ins{Op: api.OpBrTable, A: 2}
	var ways []string
	for n := range api.MaxTo {
		x.To = append(x.To, int64(n%2))
		ways = append(ways, []string{"1/0/0", "5/0/0"}[n%2])
	}
	m := with(0, nil, slices.Insert(list, 3, x))
	spots, err := flat.Func(m, 0)
	if want := "3>" + strings.Join(ways, "+") + "+6/0/0"; told(spots) != want || err != api.OK {
		t.Errorf("%s, %d, not %s", told(spots), err, want)
	}
}

// P23: return has the way of the outermost block.
func TestReturn(t *testing.T) {
	holdAll(t, []sample{
		{0, "return", "0>1/0/0"},
		{0, "int, return", "1>2/0/0"},
		{typeInt, "int, return", "1>2/1/0"},
		{typeLong, "int, long, return", "2>3/1/0"},
		{0, "block, loop, return, end, end", "2>5/0/0"},
		{typeInt, "long, block i64, int, return, end, drop, drop, int", "3>8/1/0"},
		{0, "int, if, return, end", "1>3/0/0 2>4/0/0"},
	})
}

// P23: an if leads behind its else, or to its end, and an else out of its if.
func TestIf(t *testing.T) {
	holdAll(t, []sample{
		{0, "int, if, nop, end", "1>3/0/0"},
		{0, "int, if, end", "1>2/0/0"},
		{0, "int, if, nop, else, nop, end", "1>4/0/0 3>5/0/0"},
		{0, "int, if, else, end", "1>3/0/0 2>3/0/0"},
		{0, "int, if, nop, else, end", "1>4/0/0 3>4/0/0"},
		{0, "int, if i32, int, else, int, end, drop", "1>4/0/0 3>5/1/0"},
		{0, "long, int, if i64, long, else, long, end, drop, drop", "2>5/0/1 4>6/1/1"},
		{0, "long, long, int, if, int, drop, else, end, drop, drop", "3>7/0/2 6>7/0/2"},
		{0, "long, int, if, nop, end, drop", "2>4/0/1"},
		// The else is that of the if itself, not of one within.
		{0, "int, if, int, if, nop, else, end, end", "1>7/0/0 3>6/0/0 5>6/0/0"},
		{0, "int, if, int, if, end, else, nop, end", "1>6/0/0 3>4/0/0 5>7/0/0"},
		{0, "int, if, else, int, if, else, end, end", "1>3/0/0 2>7/0/0 4>6/0/0 5>6/0/0"},
		// Ways to an if lead to its end, from both sides.
		{0, "int, int, if i32, int, br 0, else, int, int, br_if 0, end, drop, drop", "2>6/0/1 4>9/1/1 8>9/1/1"},
		{0, "int, if, br 1, else, br 0, end", "1>4/0/0 2>6/0/0 4>5/0/0"},
	})
}

// P23: what is dead has no ways, also an else or a block there; what follows on a dead part has.
func TestDead(t *testing.T) {
	holdAll(t, []sample{
		{0, "unreachable, br 0", ""},
		{0, "br 0, br 0", "0>2/0/0"},
		{0, "return, return", "0>2/0/0"},
		{0, "unreachable, br_if 0", ""},
		{0, "int, br_table 0, br_table 0", "1>3/0/0"},
		{0, "loop, br 0, br 1, end", "1>0/0/0"},
		{0, "unreachable, block, br 0, end, br 0", ""},
		{0, "unreachable, loop, int, br_if 0, end", ""},
		{0, "unreachable, if, nop, else, nop, end", ""},
		{0, "unreachable, int, if, br 0, else, br 0, end", ""},
		{0, "unreachable, if, unreachable, else, br 0, end, br 0", ""},
		{0, "block, unreachable, end, br 0", "3>4/0/0"},
		{0, "block, br 0, block, br 0, end, br 0, end, br 0", "1>6/0/0 7>8/0/0"},
		{0, "int, block i64, return, end, drop, block, br 0, end, drop", "2>9/0/0 6>7/0/1"},
		{0, "int, if, unreachable, else, nop, end", "1>4/0/0"},
		{0, "int, if, return, else, return, end, return", "1>4/0/0 2>7/0/0 4>7/0/0 6>7/0/0"},
		{0, "int, if, nop, else, unreachable, br 0, end, br 0", "1>4/0/0 3>6/0/0 7>8/0/0"},
		{0, "long, int, if i32, br 1, else, int, br 0, end, drop, drop", "2>5/0/1 3>10/0/0 6>7/1/1"},
		{0, "int, if, block, br 1, end, else, end", "1>6/0/0 3>6/0/0 5>6/0/0"},
		{typeInt, "unreachable, select, br_if 0", ""},
	})
}

// P23: no other instruction has a way.
func TestNoWays(t *testing.T) {
	holdAll(t, []sample{
		{0, "", ""},
		{0, "nop", ""},
		{0, "unreachable", ""},
		{0, "block, end, loop, end", ""},
		{typeInt, "block i32, loop i32, int, end, end", ""},
		{0, "int, long, call 0, drop, call 3, int, indirect 5, drop", ""},
		{0, "get 0, set 0, get 0, tee 0, drop, gget 0, gset 0", ""},
		{0, "int, 40 2, drop, int, long, 55 3, size, grow, int, 106, 69, drop", ""},
		{0, "int, int, int, select, drop", ""},
	})
}

// P23: as many blocks in one another as there may be, each on one more value.
func TestDeep(t *testing.T) {
	var list []api.Ins
	for range api.MaxDeep {
		list = append(list, one("int"), one("block"))
	}
	x := api.Ins{Op: api.OpBrTable, A: api.MaxDeep}
	want := strconv.Itoa(2*api.MaxDeep+1) + ">"
	for n := range api.MaxDeep {
		x.To = append(x.To, int64(n))
		want += strconv.Itoa(2*api.MaxDeep+2+2*n) + "/0/" + strconv.Itoa(api.MaxDeep-n) + "+"
	}
	list = append(list, one("int"), x)
	for range api.MaxDeep {
		list = append(list, one("end"), one("drop"))
	}
	list = append(list, one("end"))
	want += strconv.Itoa(len(list)-1) + "/0/0"
	spots, err := flat.Func(with(0, nil, list), 0)
	if told(spots) != want || err != api.OK {
		t.Errorf("%s, %d, not %s", told(spots), err, want)
	}
}

// P23: a body as long as there may be, on as many values.
func TestLong(t *testing.T) {
	list := append(slices.Repeat([]api.Ins{one("int")}, 195), body("if, br 0, end, return")...)
	m := with(typeInt, nil, list)
	spots, err := flat.Func(m, 0)
	if told(spots) != "195>197/0/194 196>197/0/194 198>199/1/0" || err != api.OK || len(spots) != api.MaxBody {
		t.Errorf("%s, %d", told(spots), err)
	}
	m.Funcs[0].Body = append(list, one("end"))
	if spots, err = flat.Func(m, 0); spots != nil || err != api.ErrLarge {
		t.Errorf("%s, %d", told(spots), err)
	}
}

// wrongs are modules of each error that valid.Func has of function 0.
func wrongs() map[api.Errno]api.Module {
	spoilt := func(spoil func(m *api.Module)) api.Module {
		m := stage()
		spoil(&m)
		return m
	}
	return map[api.Errno]api.Module{
		api.ErrArg:   spoilt(func(m *api.Module) { m.Pages = 3 }),
		api.ErrLarge: spoilt(func(m *api.Module) { m.Table = 17 }),
		api.ErrShort: spoilt(func(m *api.Module) { m.Funcs[0].Body = nil }),
		api.ErrForm:  spoilt(func(m *api.Module) { m.Funcs[0].Body = body("end") }),
		api.ErrUnsup: spoilt(func(m *api.Module) { m.Funcs[0].Body = body("255") }),
		api.ErrDeep:  spoilt(func(m *api.Module) { m.Funcs[0].Body = slices.Repeat([]api.Ins{one("loop")}, 13) }),
		api.ErrIndex: spoilt(func(m *api.Module) { m.Funcs[0].Body = body("br 1") }),
		api.ErrAlign: spoilt(func(m *api.Module) { m.Funcs[0].Body = body("int, 40 3, drop") }),
		api.ErrType:  spoilt(func(m *api.Module) { m.Funcs[0].Body = body("drop") }),
		api.ErrName:  spoilt(func(m *api.Module) { m.Exports[0].Name = "b" }),
	}
}

// P23, P24: an error is that of valid, and then there is nothing else.
func TestErrors(t *testing.T) {
	for want, m := range wrongs() {
		if spots, err := flat.Func(m, 0); spots != nil || err != want {
			t.Errorf("Func: %s, %d, not %d", told(spots), err, want)
		}
		if whole, err := flat.Whole(m); whole != nil || err != want {
			t.Errorf("Whole: %v, %d, not %d", whole, err, want)
		}
		if err := valid.Module(m); err != want {
			t.Errorf("Module: %d, not %d", err, want)
		}
	}
}

// P23: a function that isn't there is ErrArg, if nothing is wrong with the module's head.
func TestNoFunction(t *testing.T) {
	m := stage()
	for _, at := range []int{-1, 3, 4, 16, math.MinInt, math.MaxInt} {
		if spots, err := flat.Func(m, at); spots != nil || err != api.ErrArg {
			t.Errorf("%d: %s, %d", at, told(spots), err)
		}
	}
	if spots, err := flat.Func(api.Module{}, 0); spots != nil || err != api.ErrArg {
		t.Errorf("%s, %d", told(spots), err)
	}
	m.Exports[0].Func = 5
	if spots, err := flat.Func(m, 3); spots != nil || err != api.ErrIndex {
		t.Errorf("%s, %d", told(spots), err)
	}
	// A body that isn't sound is nothing to a function that isn't there.
	m = with(0, nil, body("drop"))
	if spots, err := flat.Func(m, 3); spots != nil || err != api.ErrArg {
		t.Errorf("%s, %d", told(spots), err)
	}
}

// P23: Func is of the one function; another one that isn't sound is nothing to it.
func TestFuncAt(t *testing.T) {
	m := with(0, nil, body("drop"))
	for at, want := range []string{"", "1>2/1/0", "2>3/1/0"} {
		spots, err := flat.Func(m, at)
		if at == 0 && (spots != nil || err != api.ErrType) {
			t.Errorf("%s, %d", told(spots), err)
		}
		if at > 0 && (told(spots) != want || err != api.OK) {
			t.Errorf("%d: %s, %d", at, told(spots), err)
		}
	}
}

// P24: Whole is what Func says of each of Funcs, in order.
func TestWhole(t *testing.T) {
	m := with(0, nil, body("loop, br 0, end"))
	whole, err := flat.Whole(m)
	if err != api.OK || len(whole) != 3 {
		t.Fatal(whole, err)
	}
	for at, want := range []string{"1>0/0/0", "1>2/1/0", "2>3/1/0"} {
		if told(whole[at]) != want || len(whole[at]) != len(m.Funcs[at].Body) {
			t.Errorf("%d: %s, not %s", at, told(whole[at]), want)
		}
	}
	for _, m := range []api.Module{{}, {Types: make([]api.Sig, 1), Imports: []api.Import{{}}}} {
		if whole, err := flat.Whole(m); len(whole) != 0 || err != api.OK {
			t.Error(whole, err)
		}
	}
}

// P24: as many functions as there may be; the first one that isn't sound is told, and Head's error ahead of all.
func TestWholeOfMany(t *testing.T) {
	m := api.Module{Types: make([]api.Sig, 1)}
	for at := range api.MaxFuncs {
		list := append(slices.Repeat([]api.Ins{one("nop")}, at), body("br 0")...)
		m.Funcs = append(m.Funcs, api.Func{Body: list})
	}
	whole, err := flat.Whole(m)
	if err != api.OK || len(whole) != api.MaxFuncs {
		t.Fatal(whole, err)
	}
	for at, spots := range whole {
		if want := strconv.Itoa(at) + ">" + strconv.Itoa(at+1) + "/0/0"; told(spots) != want || len(spots) != at+2 {
			t.Errorf("%d: %s, not %s", at, told(spots), want)
		}
	}
	m.Funcs[15].Body = body("drop")
	if whole, err := flat.Whole(m); whole != nil || err != api.ErrType {
		t.Error(whole, err)
	}
	m.Funcs[14].Body = body("br 1")
	if whole, err := flat.Whole(m); whole != nil || err != api.ErrIndex {
		t.Error(whole, err)
	}
	m.Start = 17
	m.Funcs[14].Body = body("drop")
	if whole, err := flat.Whole(m); whole != nil || err != api.ErrIndex {
		t.Error(whole, err)
	}
}
