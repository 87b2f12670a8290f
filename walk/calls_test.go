package walk_test

import (
	"math"
	"slices"
	"strconv"
	"strings"
	"testing"

	"troupe/api"
)

// P28: a function takes its values, the last one first, and gives what it gives.
func TestCallOwn(t *testing.T) {
	playAll(t, nil, []sample{
		{typeInt, "int 8, int 3, call 6", nil, done(6, 5)},
		{typeInt, "int 1, int 8, int 3, call 6, sub", nil, done(8, -4)},
		{typeInt, "int 8, call 5", nil, done(5, 9)},
		{typeInt, "int 8, call 5, call 5, call 5", nil, done(13, 11)},
		{typeInt, "int 7, long 1, int 2, int 3, long 4, call 7", nil, done(10, 7)},
		{typeInt, "int 5, block i32, int 8, int 3, call 6, br 0, end, sub", nil, done(10, 0)},
	})
	got := plays(t, "four", with(typeNothing, nil, "long 1, int 2, int 3, long 4, call 7"), nil, done(9))
	if !slices.Equal(got.image.Globals, args(2, 4, -3, -1<<50)) {
		t.Errorf("the globals are %v", got.image.Globals)
	}
	got = called(t, stage(), first(stage()), four, args(1, 2, 3, 4), nil, plenty)
	if !sameOut(got.out, done(plenty-4)) || !slices.Equal(got.image.Globals, args(2, 4, -3, -1<<50)) {
		t.Errorf("four from outside: %v, %v", got.out, got.image.Globals)
	}
}

// P28: a call has a stack of its own: what lies on that of the caller is there again behind it.
func TestStackOfCalls(t *testing.T) {
	m := with(typeInt, nil, "int 1, int 2, int 3, int 4, call 5, sub, sub, sub")
	m.Funcs[1].Body = body("int 50, int 51, int 52, get 0, return")
	plays(t, "a stack that is left", m, nil, done(13, 1-(2-(3-4))))
}

// P28: ErrStack, if MaxCalls calls are under way in one another already, the first one counted.
func TestErrStack(t *testing.T) {
	playAll(t, nil, []sample{
		{typeNothing, "call 4", nil, trapped(40, api.ErrStack)},
		{typeNothing, "int 6, indirect 0", nil, trapped(80, api.ErrStack)},
		{typeIntInt, "get 0, call 4", args(3), trapped(80, api.ErrStack)},
		{typeIntInt, "get 0, eqz, if i32, int 77, else, get 0, int 1, sub, call 4, end", args(38), done(7*38+4, 77)},
		{typeIntInt, "get 0, eqz, if i32, int 77, else, get 0, int 1, sub, call 4, end", args(39), done(7*39+4, 77)},
		{typeIntInt, "get 0, eqz, if i32, int 77, else, get 0, int 1, sub, call 4, end", args(40), trapped(7*40, api.ErrStack)},
	})
	m := with(typeNothing, nil, "call 4")
	for fuel := range 40 {
		if got := called(t, m, first(m), main, nil, nil, fuel); !sameOut(got.out, spent()) {
			t.Errorf("%d of the fuel: %v", fuel, got.out)
		}
	}
	if got := called(t, m, first(m), main, nil, nil, 40); !sameOut(got.out, trapped(0, api.ErrStack)) {
		t.Errorf("40 of the fuel: %v", got.out)
	}
}

// P28: a call that is over is not under way any more.
func TestManyCalls(t *testing.T) {
	m := with(typeInt, kinds(i32), "loop, get 0, call 5, tee 0, int 60, sub, br_if 0, end, get 0")
	plays(t, "sixty calls", m, nil, done(60*10+1, 60))
	m = with(typeIntInt, nil, "get 0, if i32, get 0, int 1, sub, call 4, drop, get 0, int 1, sub, call 4, int 1, add, else, int 0, end")
	if got := called(t, m, first(m), main, args(11), nil, api.MaxFuel); !slices.Equal(got.out.Vals, args(11)) {
		t.Errorf("a tree of calls: %v", got.out)
	}
}

// P28: an import may be asked however many calls are under way.
func TestAskDeep(t *testing.T) {
	m := with(typeIntInt, nil, "get 0, if i32, get 0, int 1, sub, call 4, else, call 2, end")
	got := called(t, m, first(m), main, args(39), args(55), plenty)
	if !sameOut(got.out, done(plenty-6*39-3, 55)) || len(got.asks) != 1 {
		t.Errorf("%v", got)
	}
	m = with(typeIntInt, nil, "get 0, if i32, get 0, int 1, sub, call 4, else, int 4, indirect 1, end")
	got = called(t, m, first(m), main, args(39), args(55), plenty)
	if !sameOut(got.out, done(plenty-6*39-4, 55)) || len(got.asks) != 1 {
		t.Errorf("through the table: %v", got)
	}
}

// asked is what comes of main with that body, and these answers.
func asked(t *testing.T, m api.Module, answers []int64) result {
	t.Helper()
	return called(t, m, first(m), main, nil, answers, plenty)
}

// P28: what an import takes is asked, in order, with what it took.
func TestAsks(t *testing.T) {
	text := "int 1, long 2, call 0, drop, long 3, int 4, int 5, long 6, call 1, call 2, drop, call 3, int -1, long -9223372036854775808, call 0, drop"
	want := []api.Ask{
		{Host: hostBoth, Vals: args(1, 2)},
		{Host: hostFour, Vals: args(3, 4, 5, 6)},
		{Host: hostInt},
		{Host: hostNothing},
		{Host: hostBoth, Vals: args(-1, math.MinInt64)},
	}
	for _, answers := range [][]int64{nil, args(1), args(1, 2, 3, 4, 5), args(1, 2, 3, 4, 5, 6, 7)} {
		got := asked(t, with(typeNothing, nil, text), answers)
		if !sameOut(got.out, done(plenty-16)) || !slices.EqualFunc(got.asks, want, sameAsk) {
			t.Errorf("with %v: %v, %v", answers, got.out, got.asks)
		}
	}
}

// P28: the next of answers is given, 0 if there is none any more; if nothing is given one goes by all the same.
func TestAnswers(t *testing.T) {
	sub := ", call 2, int 100, mul, call 2, add, int 100, mul, call 2, add"
	for _, s := range []struct {
		text    string
		answers []int64
		want    int64
	}{
		{"nop" + sub, nil, 0},
		{"nop" + sub, args(1), 10000},
		{"nop" + sub, args(1, 2), 10200},
		{"nop" + sub, args(1, 2, 3), 10203},
		{"nop" + sub, args(1, 2, 3, 4), 10203},
		{"call 3" + sub, args(9, 1, 2, 3), 10203},
		{"call 3" + sub, args(9, 1), 10000},
		{"call 3, call 3, call 3" + sub, args(9, 9), 0},
		{"long 0, int 0, int 0, long 0, call 1" + sub, args(9, 1, 2), 10200},
		{"call 2, drop, call 3" + sub, args(9, 8, 1, 2, 3), 10203},
		{"int 0, long 0, call 0, drop" + sub, args(9, 1, 2, 3), 10203},
		{"int 0, call 5, drop" + sub, args(1, 2, 3), 10203},
		{"int 4, indirect 1, drop" + sub, args(9, 1, 2, 3), 10203},
	} {
		if got := asked(t, with(typeInt, nil, s.text), s.answers); !slices.Equal(got.out.Vals, args(s.want)) {
			t.Errorf("%s with %v: %v, not %d", s.text, s.answers, got.out, s.want)
		}
	}
}

// P28: an answer is fitted to the kind of what the import gives.
func TestAnswersFit(t *testing.T) {
	for _, n := range edges() {
		if got := asked(t, with(typeInt, nil, "call 2"), args(n)); !sameOut(got.out, done(plenty-1, int64(int32(n)))) {
			t.Errorf("an I32 of %d: %v", n, got.out)
		}
		if got := asked(t, with(typeLong, nil, "int 0, long 0, call 0"), args(n)); !sameOut(got.out, done(plenty-3, n)) {
			t.Errorf("an I64 of %d: %v", n, got.out)
		}
	}
}

// P28: what an import gives lies above what was there, and answers are for all calls together.
func TestAnswersOfCalls(t *testing.T) {
	m := with(typeInt, nil, "int 50, call 2, sub, int 0, call 5, sub, call 2, sub")
	m.Funcs[1].Body = body("call 3, call 2")
	got := asked(t, m, args(1, 2, 3, 4))
	if !sameOut(got.out, done(plenty-10, 42)) || len(got.asks) != 4 {
		t.Errorf("%v, %v", got.out, got.asks)
	}
}

// P28: call_indirect takes a number without its sign: ErrElement, if the table has no such place, or -1 is there.
func TestErrElement(t *testing.T) {
	for _, n := range []int64{0, 7, 8, 9, 15, 16, 255, 256, math.MaxInt32, -1, -2, -8, math.MinInt32, math.MinInt32 + 1} {
		text := "int " + strconv.FormatInt(n, 10) + ", indirect "
		for _, kind := range []string{"0", "1"} {
			number := typeNothing
			if kind == "1" {
				number = typeInt
			}
			plays(t, text+kind, with(number, nil, text+kind), nil, trapped(2, api.ErrElement))
		}
	}
	small := stage()
	small.Table, small.Elems = 1, nil
	small.Funcs[0].Body = body("int 0, indirect 0")
	plays(t, "a table that is empty", small, nil, trapped(2, api.ErrElement))
}

// P28: ErrMatch, if the function there is of another type, told by what that takes and gives.
func TestErrMatch(t *testing.T) {
	// What stands in the places 1 to 6 of the table: next, less, both, int, four, main.
	numbers := []int{typeIntInt, typeTwo, typeBoth, typeInt, typeFour, typeNothing}
	for number, s := range stage().Types {
		text := ""
		for _, kind := range s.In {
			text += numberWord(kind, 2) + ", "
		}
		for at, other := range numbers {
			m := with(typeNothing, nil, text+"int "+strconv.Itoa(at+1)+", indirect "+strconv.Itoa(number)+strings.Repeat(", drop", len(s.Out)))
			got := called(t, m, first(m), main, nil, nil, plenty)
			want := result{out: trapped(plenty-len(s.In)-2, api.ErrMatch), image: first(m)}
			if number == other || number == typeAgain && other == typeIntInt {
				want = reckon(m, first(m), main, nil, nil, plenty)
			}
			if !got.same(want) {
				t.Errorf("%d is called as %d: %v, not %v", other, number, got.out, want.out)
			}
		}
	}
}

// P28: types are held against each other kind by kind, in order.
func TestMatchKinds(t *testing.T) {
	lists := [][]api.Kind{nil, {i32}, {i64}, {i32, i32}, {i32, i64}, {i64, i32}, {i32, i32, i64}, {i32, i32, i64, i64}, {i32, i32, i64, i32}}
	outs := [][]api.Kind{nil, {i32}, {i64}}
	for _, in := range lists {
		for _, out := range outs {
			for _, otherIn := range lists {
				for _, otherOut := range outs {
					isSame := slices.Equal(in, otherIn) && slices.Equal(out, otherOut)
					matches(t, api.Sig{In: in, Out: out}, api.Sig{In: otherIn, Out: otherOut}, isSame)
				}
			}
		}
	}
}

// matches calls a function of the one type as one of the other.
func matches(t *testing.T, have, as api.Sig, isSame bool) {
	t.Helper()
	text := ""
	for _, kind := range as.In {
		text += numberWord(kind, 0) + ", "
	}
	m := api.Module{
		Types:   []api.Sig{{}, have, as},
		Imports: []api.Import{{Name: "x", Type: 1}},
		Funcs:   []api.Func{{Body: body(text + "int 0, indirect 2" + strings.Repeat(", drop", len(as.Out)))}},
		Table:   1,
		Elems:   []api.Elem{{Funcs: []int{0}}},
	}
	want := api.OK
	if !isSame {
		want = api.ErrMatch
	}
	if got := called(t, m, first(m), 1, nil, nil, plenty); got.out.Trap != want || len(got.asks) == 1 != isSame {
		t.Errorf("%v is called as %v: %v, %v", have, as, got.out, got.asks)
	}
}

// P28: then it is call of that function: the number of its place lies above what it takes.
func TestCallIndirect(t *testing.T) {
	playAll(t, nil, []sample{
		{typeInt, "int 8, int 3, int 2, indirect 6", nil, done(7, 5)},
		{typeInt, "int 8, int 1, indirect 5", nil, done(6, 9)},
		{typeInt, "int 8, int 1, indirect 9", nil, done(6, 9)},
		{typeInt, "int 1, int 8, int 3, int 2, indirect 6, sub", nil, done(9, -4)},
		{typeInt, "int 4, indirect 1", nil, done(2, 0)},
	})
	m := with(typeLong, nil, "int 3, long 5, int 3, indirect 3")
	got := asked(t, m, args(math.MinInt64))
	if !sameOut(got.out, done(plenty-4, math.MinInt64)) || !slices.EqualFunc(got.asks, []api.Ask{{Host: hostBoth, Vals: args(3, 5)}}, sameAsk) {
		t.Errorf("both: %v, %v", got.out, got.asks)
	}
	got = plays(t, "four", with(typeNothing, nil, "long 1, int 2, int 3, long 4, int 5, indirect 4"), nil, done(10))
	if !slices.Equal(got.image.Globals, args(2, 4, -3, -1<<50)) {
		t.Errorf("the globals are %v", got.image.Globals)
	}
}

// P28: all calls share an instance.
func TestCallsShare(t *testing.T) {
	m := with(typeInt, nil, "int 20, int 3, store 0, int 1, gset 0, int 0, call 5, gget 0, add, int 20, load 0, add, size, mul")
	m.Funcs[1].Body = body("int 20, int 20, load 0, int 4, mul, store 0, gget 0, int 7, add, gset 0, int 1, grow")
	got := plays(t, "calls that share", m, nil, done(26, (1+8+12)*2))
	if got.image.Globals[0] != 8 || len(got.image.Mem) != 512 || got.image.Mem[20] != 12 {
		t.Errorf("%v, %d bytes", got.image.Globals, len(got.image.Mem))
	}
}
