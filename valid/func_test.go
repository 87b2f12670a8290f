package valid_test

import (
	"math"
	"strconv"
	"strings"
	"testing"

	"troupe/api"
	"troupe/valid"
)

// judged holds Func and Module of a module, of which at most the function at isn't sound, against a place and an error.
func judged(t *testing.T, what string, m api.Module, at, place int, want api.Errno) {
	t.Helper()
	if got, err := valid.Func(m, at); got != place || err != want {
		t.Errorf("%s: Func is %d, %d, not %d, %d", what, got, err, place, want)
	}
	if err := valid.Module(m); err != want {
		t.Errorf("%s: Module is %d, not %d", what, err, want)
	}
	shapes, err := valid.Shapes(m, at)
	if err != want || want != api.OK && shapes != nil {
		t.Errorf("%s: Shapes is %v, %d, not %d", what, shapes, err, want)
	}
}

// sample is a body, and what Func says of it.
type sample struct {
	number int // of its type
	text   string
	place  int
	want   api.Errno
}

func (s sample) hold(t *testing.T, locals []api.Kind) {
	t.Helper()
	judged(t, strconv.Itoa(s.number)+": "+s.text, with(s.number, locals, s.text), 0, s.place, s.want)
}

func holdAll(t *testing.T, locals []api.Kind, samples []sample) {
	t.Helper()
	for _, s := range samples {
		s.hold(t, locals)
	}
}

// P19: values are taken and given, and the body itself is a block with its Out as its kind.
func TestFuncStack(t *testing.T) {
	holdAll(t, nil, []sample{
		{0, "", 0, api.OK},
		{0, "nop", 0, api.OK},
		{0, "drop", 0, api.ErrType},
		{0, "int, drop", 0, api.OK},
		{0, "int", 1, api.ErrType},
		{0, "int, int, drop", 3, api.ErrType},
		{0, "nop, int, drop, nop, drop", 4, api.ErrType},
		{typeInt, "", 0, api.ErrType},
		{typeInt, "int", 0, api.OK},
		{typeInt, "long", 1, api.ErrType},
		{typeInt, "int, int", 2, api.ErrType},
		{typeInt, "long, int", 2, api.ErrType},
		{typeLong, "long", 0, api.OK},
		{typeLong, "int", 1, api.ErrType},
		{typeInt, "int, int, 106", 0, api.OK},
		{typeInt, "int, 106", 1, api.ErrType},
		{typeInt, "106", 0, api.ErrType},
		{typeInt, "int, long, 106", 2, api.ErrType},
		{typeInt, "long, int, 106", 2, api.ErrType},
		{typeLong, "int, int, 106", 3, api.ErrType},
		{typeInt, "long, long, 81", 0, api.OK},
		{typeLong, "long, long, 124", 0, api.OK},
		{typeLong, "long, int, 124", 2, api.ErrType},
		{typeLong, "int, 172", 0, api.OK},
		{typeLong, "long, 172", 1, api.ErrType},
		{typeInt, "long, 167", 0, api.OK},
		{typeInt, "int, 167", 1, api.ErrType},
	})
}

// P19: drop and select.
func TestFuncAnyKind(t *testing.T) {
	holdAll(t, nil, []sample{
		{0, "long, drop", 0, api.OK},
		{0, "int, long, drop, drop", 0, api.OK},
		{typeInt, "int, long, drop", 0, api.OK},
		{typeInt, "long, int, drop", 3, api.ErrType},
		{0, "select", 0, api.ErrType},
		{0, "int, select", 1, api.ErrType},
		{0, "int, int, select", 2, api.ErrType},
		{typeInt, "int, int, int, select", 0, api.OK},
		{typeLong, "long, long, int, select", 0, api.OK},
		{typeInt, "long, long, int, select", 4, api.ErrType},
		{typeLong, "int, int, int, select", 4, api.ErrType},
		{0, "int, long, int, select", 3, api.ErrType},
		{0, "long, int, int, select", 3, api.ErrType},
		{0, "int, int, long, select", 3, api.ErrType},
		{0, "long, long, long, select", 3, api.ErrType},
		{0, "int, int, int, int, select", 5, api.ErrType},
	})
}

// P19: a block has its own part of the stack, and gives a value of its kind.
func TestFuncBlocks(t *testing.T) {
	holdAll(t, nil, []sample{
		{0, "block, end", 0, api.OK},
		{0, "loop, end", 0, api.OK},
		{typeInt, "block i32, int, end", 0, api.OK},
		{typeLong, "loop i64, long, end", 0, api.OK},
		{0, "block i32, end", 1, api.ErrType},
		{0, "loop i32, end", 1, api.ErrType},
		{0, "block i32, long, end", 2, api.ErrType},
		{0, "loop i64, int, end", 2, api.ErrType},
		{0, "block i32, int, int, end", 3, api.ErrType},
		{0, "block, int, end", 2, api.ErrType},
		{0, "block i32, int, end", 3, api.ErrType},
		{typeLong, "block i32, int, end", 3, api.ErrType},
		{0, "int, block, drop, end", 2, api.ErrType},
		{0, "int, loop, drop, end", 2, api.ErrType},
		{0, "int, block i32, end", 2, api.ErrType},
		{0, "int, block, int, drop, end, drop", 0, api.OK},
		{0, "int, block, end", 3, api.ErrType},
		{0, "int, block i64, long, end, drop, drop", 0, api.OK},
		{0, "int, block i64, long, end, 106", 4, api.ErrType},
		{typeInt, "int, block i32, int, end, 106", 0, api.OK},
		{typeInt, "block i32, block i32, block i32, int, end, end, end", 0, api.OK},
		{typeInt, "block i32, block i64, long, end, end", 4, api.ErrType},
	})
}

// P19: an if takes an I32; without an else it has no kind.
func TestFuncIfs(t *testing.T) {
	holdAll(t, nil, []sample{
		{0, "if, end", 0, api.ErrType},
		{0, "long, if, end", 1, api.ErrType},
		{0, "int, if, end", 0, api.OK},
		{0, "int, if, else, end", 0, api.OK},
		{0, "int, int, if, drop, end", 3, api.ErrType},
		{0, "int, int, if, else, drop, end", 4, api.ErrType},
		{0, "int, int, if, else, end, drop", 0, api.OK},
		{0, "int, int, if, int, drop, end, drop", 0, api.OK},
		{typeInt, "int, if i32, int, else, int, end", 0, api.OK},
		{typeLong, "int, if i64, long, else, long, end", 0, api.OK},
		{typeInt, "int, if i32, int, end", 3, api.ErrType},
		{typeInt, "int, if i32, end", 2, api.ErrType},
		{typeInt, "int, if i32, unreachable, end", 3, api.ErrType},
		{typeInt, "int, if i32, int, br 0, end", 4, api.ErrType},
		{0, "int, if, int, else, end", 3, api.ErrType},
		{0, "int, if, else, int, end", 4, api.ErrType},
		{0, "int, if i32, else, int, end", 2, api.ErrType},
		{0, "int, if i32, int, else, end", 4, api.ErrType},
		{0, "int, if i32, long, else, int, end", 3, api.ErrType},
		{0, "int, if i32, int, else, long, end", 5, api.ErrType},
		{0, "int, if i32, int, int, else, int, end", 4, api.ErrType},
		{0, "int, if i32, int, else, int, int, end", 6, api.ErrType},
		{0, "int, if i32, int, else, drop, int, end", 4, api.ErrType},
		{0, "int, if i64, long, else, long, end, 106", 6, api.ErrType},
		{0, "int, if i32, int, else, int, end", 6, api.ErrType},
	})
}

// P19: ways out.
func TestFuncWays(t *testing.T) {
	holdAll(t, nil, []sample{
		{0, "br 0", 0, api.OK},
		{0, "int, long, br 0", 0, api.OK},
		{typeInt, "int, br 0", 0, api.OK},
		{typeInt, "long, int, br 0", 0, api.OK},
		{typeInt, "br 0", 0, api.ErrType},
		{typeInt, "long, br 0", 1, api.ErrType},
		{typeInt, "int, long, br 0", 2, api.ErrType},
		{0, "block i32, br 0, end", 1, api.ErrType},
		{0, "block i32, int, br 0, end, drop", 0, api.OK},
		{0, "block i32, br 1, end, drop", 0, api.OK},
		{typeLong, "block i32, long, br 1, end, drop, long", 0, api.OK},
		{typeLong, "block i32, int, br 1, end, drop, long", 2, api.ErrType},
		{0, "int, block i32, br 0, end", 2, api.ErrType},
		{typeInt, "int, block, br 1, end", 2, api.ErrType},
		{0, "int, if i32, int, br 0, else, int, end, drop", 0, api.OK},
		{0, "int, if i32, int, else, int, br 0, end, drop", 0, api.OK},
		{0, "int, if i32, int, else, br 0, end, drop", 4, api.ErrType},
		{typeInt, "loop i32, br 0, end", 0, api.OK},
		{typeInt, "loop i32, long, br 0, end", 0, api.OK},
		{typeInt, "loop i32, br 1, end", 1, api.ErrType},
		{typeInt, "loop i32, int, br 1, end", 0, api.OK},
		{typeInt, "int, return", 0, api.OK},
		{typeInt, "return", 0, api.ErrType},
		{typeInt, "long, return", 1, api.ErrType},
		{0, "int, return", 0, api.OK},
		{typeInt, "block i64, int, return, end, drop, int", 0, api.OK},
		{typeInt, "block i64, long, return, end, drop, int", 2, api.ErrType},
		{typeInt, "loop, int, return, end, int", 0, api.OK},
		{typeInt, "block, int, return, end", 4, api.ErrType},
		{typeInt, "int, block, return, end", 2, api.ErrType},
	})
}

// P19: ways out that are gone, or not.
func TestFuncWaysIf(t *testing.T) {
	holdAll(t, nil, []sample{
		{0, "br_if 0", 0, api.ErrType},
		{0, "int, br_if 0", 0, api.OK},
		{0, "long, br_if 0", 1, api.ErrType},
		{0, "int, br_if 0, drop", 2, api.ErrType},
		{0, "int, int, br_if 0, drop", 0, api.OK},
		{0, "int, int, br_if 0", 3, api.ErrType},
		{typeInt, "int, int, br_if 0", 0, api.OK},
		{typeInt, "int, br_if 0", 1, api.ErrType},
		{typeInt, "long, int, br_if 0", 2, api.ErrType},
		{typeInt, "int, long, br_if 0", 2, api.ErrType},
		{typeLong, "long, int, br_if 0", 0, api.OK},
		{typeLong, "long, int, br_if 0, drop", 4, api.ErrType},
		{typeLong, "long, int, br_if 0, long, 124", 0, api.OK},
		{typeInt, "loop i32, int, int, br_if 0, end", 0, api.OK},
		{typeInt, "loop i32, int, br_if 0, end", 3, api.ErrType},
		{0, "block i64, long, int, br_if 0, end, drop", 0, api.OK},
		{0, "block i64, int, br_if 1, long, end, drop", 0, api.OK},
		{typeInt, "int, block, int, br_if 1, end", 3, api.ErrType},
	})
}

// P19: many ways must take the same along.
func TestFuncTables(t *testing.T) {
	holdAll(t, nil, []sample{
		{0, "br_table 0", 0, api.ErrType},
		{0, "long, br_table 0", 1, api.ErrType},
		{0, "int, br_table 0", 0, api.OK},
		{0, "int, br_table 0 0 0", 0, api.OK},
		{0, "int, long, int, br_table 0", 0, api.OK},
		{0, "int, br_table 0, drop", 0, api.OK},
		{typeInt, "int, int, br_table 0 0", 0, api.OK},
		{typeInt, "int, br_table 0 0", 1, api.ErrType},
		{typeInt, "long, int, br_table 0 0", 2, api.ErrType},
		{typeInt, "block i32, int, int, br_table 0 1, end", 0, api.OK},
		{typeInt, "block i32, int, int, br_table 1 0 1 0, end", 0, api.OK},
		{0, "block i32, int, int, br_table 0 1, end, drop", 3, api.ErrType},
		{0, "block i32, int, int, br_table 1 0, end, drop", 3, api.ErrType},
		{0, "block i32, int, int, br_table 0 0 1 0, end, drop", 3, api.ErrType},
		{typeLong, "block i32, int, int, br_table 1 0, end, drop, long", 3, api.ErrType},
		{0, "block i32, int, br_table 1, end, drop", 0, api.OK},
		{0, "loop i32, int, br_table 0 1, end, drop", 0, api.OK},
		{0, "loop i32, int, br_table 1 0, end, drop", 0, api.OK},
		{typeInt, "loop i32, int, int, br_table 0 1, end", 3, api.ErrType},
		{0, "loop i32, loop i64, int, br_table 0 1 2, end, drop, int, end, drop", 0, api.OK},
		{0, "block i32, loop i32, int, int, br_table 0 1, end, end, drop", 4, api.ErrType},
		{0, "block i32, unreachable, br_table 0 0, end, drop", 0, api.OK},
		{typeInt, "block i64, unreachable, br_table 0 1, end, drop, int", 2, api.ErrType},
		{0, "block i64, unreachable, br_table 0 1, end, drop", 2, api.ErrType},
		{0, "int, br_table 0 0 0 0 0 0 0 0 0 0 0 0 0 0 0 0 0", 0, api.OK},
		{0, "block i32, int, int, br_table 0 0 0 0 0 0 0 0 0 0 0 0 0 0 0 1 0, end, drop", 3, api.ErrType},
	})
}

// P19: functions, of which imports come first, and what lies in the table.
func TestFuncCalls(t *testing.T) {
	holdAll(t, nil, []sample{
		{typeLong, "int, long, call 0", 0, api.OK},
		{typeLong, "long, int, call 0", 2, api.ErrType},
		{typeLong, "long, call 0", 1, api.ErrType},
		{typeLong, "call 0", 0, api.ErrType},
		{typeInt, "int, long, call 0", 3, api.ErrType},
		{0, "long, int, int, long, call 1", 0, api.OK},
		{0, "int, int, int, long, call 1", 4, api.ErrType},
		{0, "long, long, int, long, call 1", 4, api.ErrType},
		{0, "long, int, long, long, call 1", 4, api.ErrType},
		{0, "long, int, int, int, call 1", 4, api.ErrType},
		{0, "int, int, long, call 1", 3, api.ErrType},
		{0, "int, long, int, int, long, call 1", 6, api.ErrType},
		{0, "call 2", 0, api.OK},
		{typeInt, "call 2", 0, api.OK},
		{typeLong, "call 2, drop", 2, api.ErrType},
		{typeInt, "call 3", 0, api.OK},
		{typeLong, "call 3", 1, api.ErrType},
		{typeInt, "int, call 4", 0, api.OK},
		{typeInt, "call 4", 0, api.ErrType},
		{typeInt, "long, call 4", 1, api.ErrType},
		{0, "int, block, call 4, drop, end, drop", 2, api.ErrType},
		{typeLong, "int, long, int, indirect 3", 0, api.OK},
		{typeLong, "int, long, indirect 3", 2, api.ErrType},
		{typeLong, "int, int, long, indirect 3", 3, api.ErrType},
		{0, "indirect 0", 0, api.ErrType},
		{0, "int, indirect 0", 0, api.OK},
		{0, "long, indirect 0", 1, api.ErrType},
		{typeInt, "int, indirect 1", 0, api.OK},
		{typeLong, "int, indirect 2", 0, api.OK},
		{typeInt, "int, int, indirect 5", 0, api.OK},
		{typeInt, "int, indirect 5", 1, api.ErrType},
		{0, "long, int, int, long, int, indirect 4", 0, api.OK},
	})
}

// P19: locals are what is taken, then Locals.
func TestFuncLocals(t *testing.T) {
	holdAll(t, kinds(i64, i32), []sample{
		{typeBoth, "get 1", 0, api.OK},
		{typeBoth, "get 0", 1, api.ErrType},
		{typeBoth, "get 2", 0, api.OK},
		{typeBoth, "get 3", 1, api.ErrType},
		{typeBoth, "get 4", 0, api.ErrIndex},
		{typeBoth, "int, set 0, get 1", 0, api.OK},
		{typeBoth, "long, set 0, get 1", 1, api.ErrType},
		{typeBoth, "set 0, get 1", 0, api.ErrType},
		{typeBoth, "long, set 1, get 1", 0, api.OK},
		{typeBoth, "int, set 3, get 1", 0, api.OK},
		{typeBoth, "int, set 2, get 1", 1, api.ErrType},
		{typeBoth, "int, set 4", 1, api.ErrIndex},
		{typeBoth, "long, tee 1", 0, api.OK},
		{typeBoth, "tee 1", 0, api.ErrType},
		{typeBoth, "int, tee 1", 1, api.ErrType},
		{typeBoth, "long, tee 2", 0, api.OK},
		{typeBoth, "int, tee 0", 2, api.ErrType},
		{typeBoth, "tee 4", 0, api.ErrIndex},
		{0, "get 0, drop", 0, api.OK},
		{0, "get 1, drop", 0, api.OK},
		{0, "get 2", 0, api.ErrIndex},
		{typeLong, "get 0", 0, api.OK},
		{typeInt, "get 1", 0, api.OK},
	})
	sample{typeBoth, "get 1", 0, api.OK}.hold(t, nil)
	sample{typeBoth, "get 2", 0, api.ErrIndex}.hold(t, nil)
	sample{typeNothing, "get 0", 0, api.ErrIndex}.hold(t, nil)
	sample{typeFour, "get 19, set 18", 0, api.OK}.hold(t, make16())
	sample{typeFour, "get 20", 0, api.ErrIndex}.hold(t, make16())
}

func make16() []api.Kind {
	var list []api.Kind
	for range 16 {
		list = append(list, i32)
	}
	return list
}

// P19: the module's own values.
func TestFuncGlobals(t *testing.T) {
	holdAll(t, nil, []sample{
		{typeInt, "gget 0", 0, api.OK},
		{typeLong, "gget 1", 0, api.OK},
		{typeInt, "gget 1", 1, api.ErrType},
		{typeInt, "gget 2", 0, api.OK},
		{typeLong, "gget 3", 0, api.OK},
		{0, "gget 4", 0, api.ErrIndex},
		{0, "int, gset 0", 0, api.OK},
		{0, "long, gset 0", 1, api.ErrType},
		{0, "gset 0", 0, api.ErrType},
		{0, "long, gset 1", 0, api.OK},
		{0, "int, gset 2", 1, api.ErrType},
		{0, "long, gset 3", 1, api.ErrType},
		{0, "gset 3", 0, api.ErrType},
		{0, "gset 4", 0, api.ErrIndex},
		{0, "unreachable, gset 2", 1, api.ErrType},
		{0, "unreachable, gset 0", 0, api.OK},
	})
}

// P19: behind what never goes on all is there, up to the end or else; but not for a block within.
func TestFuncDead(t *testing.T) {
	holdAll(t, kinds(i64), []sample{
		{0, "unreachable", 0, api.OK},
		{typeInt, "unreachable", 0, api.OK},
		{0, "unreachable, drop", 0, api.OK},
		{0, "unreachable, drop, drop, 106, drop", 0, api.OK},
		{0, "br 0, drop", 0, api.OK},
		{0, "return, drop", 0, api.OK},
		{0, "unreachable, int", 2, api.ErrType},
		{typeInt, "unreachable, int", 0, api.OK},
		{typeInt, "unreachable, long", 2, api.ErrType},
		{typeInt, "unreachable, int, int", 3, api.ErrType},
		{0, "unreachable, long, 106", 2, api.ErrType},
		{0, "unreachable, int, 106, drop", 0, api.OK},
		{0, "unreachable, 106, 124", 2, api.ErrType},
		{0, "unreachable, 106", 2, api.ErrType},
		{0, "int, long, unreachable", 0, api.OK},
		{0, "long, unreachable, 106, drop", 0, api.OK},
		{0, "unreachable, int, unreachable", 0, api.OK},
		{0, "unreachable, int, br 0, drop", 0, api.OK},
		{typeInt, "unreachable, br 0", 0, api.OK},
		{typeInt, "unreachable, long, br 0", 2, api.ErrType},
		{typeInt, "unreachable, long, return", 2, api.ErrType},
		{typeInt, "unreachable, br_if 0", 0, api.OK},
		{typeInt, "unreachable, br_if 0, 124", 2, api.ErrType},
		{typeInt, "unreachable, br_if 0, drop", 0, api.OK},
		{typeInt, "unreachable, br_if 0, int", 3, api.ErrType},
		{typeInt, "unreachable, int, br_if 0", 0, api.OK},
		{typeInt, "unreachable, long, int, br_if 0", 3, api.ErrType},
		{0, "unreachable, tee 0, 106", 2, api.ErrType},
		{typeLong, "unreachable, tee 0", 0, api.OK},
		{0, "unreachable, call 0, 106", 2, api.ErrType},
		{0, "unreachable, int, call 0", 2, api.ErrType},
		{typeLong, "unreachable, long, call 0", 0, api.OK},
		{0, "unreachable, long, indirect 0", 2, api.ErrType},
		{0, "unreachable, br 1", 1, api.ErrIndex},
		{0, "unreachable, get 1", 1, api.ErrIndex},
		{0, "unreachable, 40 3", 1, api.ErrAlign},
	})
}

// P19: what a select gives of values of whatever kind.
func TestFuncDeadSelect(t *testing.T) {
	holdAll(t, nil, []sample{
		{0, "unreachable, select, drop", 0, api.OK},
		{0, "unreachable, select", 2, api.ErrType},
		{typeInt, "unreachable, select", 0, api.OK},
		{typeLong, "unreachable, select", 0, api.OK},
		{0, "unreachable, select, 106, drop", 0, api.OK},
		{0, "unreachable, select, 124, drop", 0, api.OK},
		{0, "unreachable, int, select, 124, drop", 0, api.OK},
		{0, "unreachable, long, select", 2, api.ErrType},
		{0, "unreachable, int, int, select, 106, drop", 0, api.OK},
		{0, "unreachable, int, int, select, 124", 4, api.ErrType},
		{0, "unreachable, long, int, select, 124, drop", 0, api.OK},
		{0, "unreachable, long, int, select, 106", 4, api.ErrType},
		{0, "unreachable, int, long, int, select", 4, api.ErrType},
		{0, "unreachable, select, int, int, select, 106, drop", 0, api.OK},
		{0, "unreachable, select, int, int, select, 124", 5, api.ErrType},
		{0, "unreachable, select, long, int, select, 124, drop", 0, api.OK},
		{0, "unreachable, int, select, int, select, 124, drop", 0, api.OK},
		{0, "unreachable, select, select, drop", 0, api.OK},
		{0, "unreachable, select, select, select, 124, drop", 0, api.OK},
		{typeInt, "unreachable, select, select", 0, api.OK},
		{typeInt, "unreachable, select, int", 3, api.ErrType},
		{typeLong, "unreachable, int, select, int, int, 106, select", 0, api.OK},
		{0, "unreachable, select, if, end", 0, api.OK},
		{0, "unreachable, select, br_if 0", 0, api.OK},
		{0, "unreachable, select, block, drop, end", 3, api.ErrType},
		{0, "unreachable, select, block, end, drop", 0, api.OK},
		{0, "unreachable, block i32, select, end, drop", 2, api.ErrType},
	})
}

// P19: how far a dead part reaches.
func TestFuncDeadBlocks(t *testing.T) {
	holdAll(t, nil, []sample{
		{0, "unreachable, block, drop, end", 2, api.ErrType},
		{0, "unreachable, loop, drop, end", 2, api.ErrType},
		{0, "unreachable, if, drop, end", 2, api.ErrType},
		{0, "unreachable, if, else, drop, end", 3, api.ErrType},
		{0, "unreachable, if, end", 0, api.OK},
		{0, "unreachable, long, if, end", 2, api.ErrType},
		{0, "unreachable, if i32, int, else, int, end, drop", 0, api.OK},
		{0, "unreachable, block i32, end", 2, api.ErrType},
		{0, "unreachable, block i32, int, end, drop", 0, api.OK},
		{0, "unreachable, block i32, int, end, 106, drop", 0, api.OK},
		{0, "unreachable, block i32, int, end, 124", 4, api.ErrType},
		{0, "unreachable, block i32, int, end", 4, api.ErrType},
		{0, "unreachable, block, end, drop", 0, api.OK},
		{0, "unreachable, block, unreachable, drop, end, drop", 0, api.OK},
		{0, "unreachable, block, block, drop, end, end", 3, api.ErrType},
		{0, "unreachable, block, br 1, drop, end, drop", 0, api.OK},
		{0, "block, unreachable, drop, end", 0, api.OK},
		{0, "block, unreachable, end, drop", 3, api.ErrType},
		{0, "block, br 1, end, drop", 3, api.ErrType},
		{0, "block i32, return, end, drop", 0, api.OK},
		{0, "block i32, return, end, 124", 3, api.ErrType},
		{0, "loop i64, unreachable, end, 124, drop", 3, api.ErrType},
		{0, "int, if, unreachable, else, drop, end", 4, api.ErrType},
		{0, "int, if, unreachable, drop, else, end", 0, api.OK},
		{0, "int, if, unreachable, else, unreachable, drop, end", 0, api.OK},
		{0, "int, if, else, unreachable, drop, end, drop", 6, api.ErrType},
		{typeInt, "int, if i32, unreachable, else, int, end", 0, api.OK},
		{typeInt, "int, if i32, int, else, unreachable, end", 0, api.OK},
		{typeInt, "int, if i32, unreachable, long, else, int, end", 4, api.ErrType},
		{typeInt, "int, if i32, unreachable, int, int, else, int, end", 5, api.ErrType},
		{typeInt, "int, if i32, unreachable, else, end", 4, api.ErrType},
		{0, "int, block, unreachable, end, drop", 0, api.OK},
		{0, "int, block, unreachable, drop, drop, end, drop", 0, api.OK},
		{0, "int, block, int, br 0, end", 5, api.ErrType},
		{typeInt, "int, block, long, br 0, end", 0, api.OK},
		{0, "int, block, unreachable, end, 124", 4, api.ErrType},
	})
}

// P19: numbers of what isn't there, up to the largest one.
func TestFuncIndexes(t *testing.T) {
	for _, c := range []struct {
		name  string
		count int64
	}{
		{"br", 2}, {"br_if", 2}, {"br_table 0", 2}, {"call", 5}, {"indirect", 6},
		{"get", 1}, {"set", 1}, {"tee", 1}, {"gget", 4}, {"gset", 4},
	} {
		for _, n := range []int64{c.count, c.count + 1, 63, 64, 1 << 31, 1<<32 - 1} {
			text := c.name + " " + strconv.FormatInt(n, 10)
			sample{0, "block, " + text + ", end", 1, api.ErrIndex}.hold(t, kinds(i32))
			sample{0, "block, unreachable, int, " + text + ", end", 3, api.ErrIndex}.hold(t, kinds(i32))
		}
		text := c.name + " " + strconv.FormatInt(c.count-1, 10)
		m := with(0, kinds(i32), "unreachable, block, "+text+", end")
		if _, err := valid.Func(m, 0); err == api.ErrIndex {
			t.Errorf("%s: ErrIndex", text)
		}
	}
	holdAll(t, nil, []sample{
		{0, "int, br_table 1 0", 1, api.ErrIndex},
		{0, "int, br_table 0 1", 1, api.ErrIndex},
		{0, "int, br_table 0 0 4294967295 0", 1, api.ErrIndex},
		{typeInt, "br_table 0 1 0", 0, api.ErrIndex},
		{0, "block, br_table 0 1 2 0, end", 1, api.ErrIndex},
		{0, "block, end, br 1", 2, api.ErrIndex},
		{0, "int, if, br 1, else, br 2, end", 4, api.ErrIndex},
		{0, "int, if, else, br 1, end", 0, api.OK},
		{0, "loop, block, end, br 2, end", 3, api.ErrIndex},
	})
}

// P19: twelve blocks in one another, and the body itself.
func TestFuncDeep(t *testing.T) {
	open, shut := strings.Repeat("block, ", 12), strings.Repeat(", end", 12)
	for far := range int64(20) {
		want, place := api.OK, 0
		if far > 12 {
			want, place = api.ErrIndex, 12
		}
		sample{0, open + "br " + strconv.FormatInt(far, 10) + shut, place, want}.hold(t, nil)
	}
	sample{typeInt, open + "int, br 12" + shut + ", int", 0, api.OK}.hold(t, nil)
	sample{typeInt, open + "br 12" + shut + ", int", 12, api.ErrType}.hold(t, nil)
	sample{typeInt, open + "int, br 11" + shut, 26, api.ErrType}.hold(t, nil)
	sample{0, strings.Repeat("nop, ", 198) + "drop", 198, api.ErrType}.hold(t, nil)
	sample{0, strings.Repeat("int, ", 199), 199, api.ErrType}.hold(t, nil)
	sample{typeInt, strings.Repeat("int, ", 100) + strings.Repeat("106, ", 99), 0, api.OK}.hold(t, nil)
}

// widths are the loads and stores, by how many bytes they move.
func widths() map[int][]int {
	return map[int][]int{
		1: {44, 45, 48, 49, 58, 60},
		2: {46, 47, 50, 51, 59, 61},
		4: {40, 52, 53, 54, 62},
		8: {41, 55},
	}
}

// P19: loads and stores are aligned to at most as many bytes as they move; any offset may be.
func TestFuncAlign(t *testing.T) {
	for width, ops := range widths() {
		for _, op := range ops {
			for _, align := range []int64{0, 1, 2, 3, 4, 5, 8, 31, 32, 33, 62, 63, 64, 65, 128, 256, 1 << 31, 1<<32 - 1} {
				want, place := api.OK, 0
				if align > 3 || 1<<align > width {
					want, place = api.ErrAlign, 1
				}
				for _, offset := range []string{"0", "4294967295"} {
					text := strconv.Itoa(op) + " " + strconv.FormatInt(align, 10) + " " + offset
					sample{0, "unreachable, " + text + ", unreachable", place, want}.hold(t, nil)
					if want == api.ErrAlign {
						sample{0, "nop, " + text, 1, api.ErrAlign}.hold(t, nil) // ahead of what isn't on the stack
					}
				}
			}
		}
	}
}

// P19: what needs a memory or a table.
func TestFuncWithout(t *testing.T) {
	var all []string
	for _, ops := range widths() {
		for _, op := range ops {
			all = append(all, strconv.Itoa(op)+" 0", strconv.Itoa(op)+" 9")
		}
	}
	for _, text := range append(all, "size", "grow") {
		m := with(0, nil, "unreachable, "+text+", unreachable")
		m.Pages, m.Most, m.Data = 0, 0, nil
		judged(t, text+" without a memory", m, 0, 1, api.ErrIndex)
		if m.Most = 1; !strings.HasSuffix(text, "9") {
			judged(t, text+" with a memory that is empty at first", m, 0, 0, api.OK)
		}
		m = with(0, nil, text)
		m.Pages, m.Most, m.Data = 0, 0, nil
		judged(t, text+" without anything", m, 0, 0, api.ErrIndex)
	}
	for _, text := range []string{"indirect 0", "indirect 5", "indirect 6"} {
		m := with(0, nil, "int, int, int, "+text)
		m.Table, m.Elems = 0, nil
		judged(t, text+" without a table", m, 0, 3, api.ErrIndex)
	}
	m := with(0, nil, "int, indirect 0, call 2")
	m.Table, m.Elems, m.Pages, m.Most, m.Data = 1, nil, 0, 0, nil
	judged(t, "a table without a memory", m, 0, 0, api.OK)
	m.Table = 0
	judged(t, "neither", m, 0, 1, api.ErrIndex)
}

// P19: which of Funcs; Head comes first.
func TestFuncAt(t *testing.T) {
	m := stage()
	for _, at := range []int{-1, 3, 4, 16, math.MinInt, math.MaxInt} {
		if place, err := valid.Func(m, at); place != 0 || err != api.ErrArg {
			t.Errorf("Func of %d is %d, %d", at, place, err)
		}
		if shapes, err := valid.Shapes(m, at); shapes != nil || err != api.ErrArg {
			t.Errorf("Shapes of %d is %v, %d", at, shapes, err)
		}
	}
	if place, err := valid.Func(api.Module{}, 0); place != 0 || err != api.ErrArg {
		t.Errorf("Func of nothing is %d, %d", place, err)
	}
	m.Funcs[1].Body = body("nop, nop, 40 9")
	m.Funcs[2].Body = body("get 0, get 1")
	for at, want := range []struct {
		place int
		err   api.Errno
	}{{0, api.OK}, {2, api.ErrAlign}, {1, api.ErrIndex}} {
		if place, err := valid.Func(m, at); place != want.place || err != want.err {
			t.Errorf("Func of %d is %d, %d", at, place, err)
		}
	}
	m.Funcs[0].Body = body("drop")
	if place, err := valid.Func(m, 3); place != 0 || err != api.ErrArg {
		t.Errorf("Func of 3 is %d, %d", place, err)
	}
}
