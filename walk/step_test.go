package walk_test

import (
	"math"
	"slices"
	"strconv"
	"strings"
	"testing"

	"troupe/api"
	"troupe/ins"
	"troupe/mem"
	"troupe/num"
)

// numberWord is a const of that kind.
func numberWord(kind api.Kind, n int64) string {
	if kind == i32 {
		return "int " + strconv.FormatInt(num.Fit(i32, n), 10)
	}
	return "long " + strconv.FormatInt(n, 10)
}

// giving is the type of stage that takes nothing and gives a value of that kind.
func giving(kind api.Kind) int {
	if kind == i32 {
		return typeInt
	}
	return typeLong
}

// ended is how it ends if an instruction gives n, or an error, for so much of the fuel.
func ended(cost int, n int64, err api.Errno) api.Out {
	if err != api.OK {
		return trapped(cost, err)
	}
	return done(cost, n)
}

// P28: instructions of P7 and P8 take their numbers, the last one first, and give what num says; its error ends all.
func TestNumbers(t *testing.T) {
	ones, twos := 0, 0
	for op := range 256 {
		takes, gives, plain := ins.Plain(byte(op))
		if !plain || ins.Width(byte(op)) > 0 || op == 63 || op == 64 || op == 65 || op == 66 {
			continue
		}
		for _, a := range edges() {
			text := numberWord(takes[0], a) + ", "
			if len(takes) == 1 {
				ones++
				n, err := num.One(byte(op), num.Fit(takes[0], a))
				text += strconv.Itoa(op)
				plays(t, text, with(giving(gives[0]), nil, text), nil, ended(2, n, err))
				continue
			}
			for _, b := range edges() {
				twos++
				n, err := num.Two(byte(op), num.Fit(takes[0], a), num.Fit(takes[0], b))
				text := text + numberWord(takes[1], b) + ", " + strconv.Itoa(op)
				plays(t, text, with(giving(gives[0]), nil, text), nil, ended(3, n, err))
			}
		}
	}
	if count := len(edges()); ones != 16*count || twos != 50*count*count {
		t.Errorf("%d of one number, %d of two", ones, twos)
	}
}

// P28: what a number's error ends is all, however deep it is.
func TestNumberEndsAll(t *testing.T) {
	m := with(typeInt, nil, "int 1, gset 0, int 9, int 8, call 6, drop, int 2, gset 0, int 3")
	for _, s := range []sample{
		{text: "get 0, int 0, div", want: trapped(8, api.ErrDivide)},
		{text: "get 0, int 0, 110", want: trapped(8, api.ErrDivide)},
		{text: "get 0, int 0, 111", want: trapped(8, api.ErrDivide)},
		{text: "get 0, int 0, 112", want: trapped(8, api.ErrDivide)},
		{text: "int -2147483648, int -1, div", want: trapped(8, api.ErrOverflow)},
		{text: "long 5, long 0, div64, cut", want: trapped(8, api.ErrDivide)},
		{text: "long -9223372036854775808, long -1, div64, cut", want: trapped(8, api.ErrOverflow)},
		{text: "block i32, loop i32, int 1, int 0, div, end, end", want: trapped(10, api.ErrDivide)},
	} {
		m.Funcs[2].Body = body(s.text)
		got := plays(t, s.text, m, nil, s.want)
		if got.image.Globals[0] != 1 {
			t.Errorf("%s: the globals are %v", s.text, got.image.Globals)
		}
	}
}

// P28: the order of what is taken, of constants, drop, select, locals and globals.
func TestMoves(t *testing.T) {
	playAll(t, kinds(i64, i32), []sample{
		{typeInt, "int -2147483648", nil, done(1, math.MinInt32)},
		{typeInt, "int 2147483647", nil, done(1, math.MaxInt32)},
		{typeLong, "long -9223372036854775808", nil, done(1, math.MinInt64)},
		{typeLong, "long 9223372036854775807", nil, done(1, math.MaxInt64)},
		{typeInt, "int 8, int 3, sub", nil, done(3, 5)},
		{typeInt, "int 8, int 3, int 1, sub, sub", nil, done(5, 6)},
		{typeInt, "int 1, long 5, drop", nil, done(3, 1)},
		{typeInt, "int 1, int 2, drop, int 3, drop", nil, done(5, 1)},
		{typeInt, "int 5, int 6, int 1, select", nil, done(4, 5)},
		{typeInt, "int 5, int 6, int 0, select", nil, done(4, 6)},
		{typeInt, "int 5, int 6, int -1, select", nil, done(4, 5)},
		{typeInt, "int 5, int 6, int -2147483648, select", nil, done(4, 5)},
		{typeLong, "long 5, long 6, int 0, select", nil, done(4, 6)},
		{typeLong, "long 5, long 6, int 256, select", nil, done(4, 5)},
		{typeInt, "int 4, int 5, int 6, int 0, select, sub", nil, done(6, -2)},
		{typeIntInt, "get 0", args(77), done(1, 77)},
		{typeLong, "get 0", nil, done(1, 0)},
		{typeInt, "get 1", nil, done(1, 0)},
		{typeTwo, "get 0, get 1, sub, get 3, add", args(7, 9), done(5, -2)},
		{typeLong, "long 4, set 0, get 0, get 0, add64", nil, done(5, 8)},
		{typeLong, "long 4, tee 0, get 0, add64", nil, done(4, 8)},
		{typeInt, "int 4, tee 1, int 3, set 1, get 1, sub", nil, done(6, 1)},
		{typeTwo, "int 1, set 0, get 0, get 1, sub", args(7, 9), done(5, -8)},
		{typeTwo, "int 1, tee 1, get 0, sub", args(7, 9), done(4, -6)},
		{typeInt, "gget 0", nil, done(1, 7)},
		{typeLong, "gget 1", nil, done(1, 1<<40)},
		{typeInt, "gget 2", nil, done(1, -3)},
		{typeLong, "gget 3", nil, done(1, -1<<50)},
		{typeInt, "gget 0, int 2, gset 0, gget 0, sub", nil, done(5, 5)},
		{typeLong, "long 5, gset 1, long 6, gset 1, gget 1", nil, done(5, 6)},
	})
}

// P28: a call has its locals: what it took, then as many 0 as it has Locals, each one its own.
func TestLocals(t *testing.T) {
	take, locals := []string{"get 0", "get 1"}, kinds(i32, i64, i32)
	texts := append(take, "get 2", "get 3, cut", "get 4")
	for at, text := range texts {
		for other := range texts {
			set := "int 50, set " + strconv.Itoa(other)
			if other == 3 {
				set = "long 50, set 3"
			}
			want := args(31, 32, 0, 0, 0)
			want[other] = 50
			got := called(t, with(typeTwo, locals, set+", "+text), first(stage()), main, args(31, 32), nil, plenty)
			if !slices.Equal(got.out.Vals, args(want[at])) {
				t.Errorf("%s, %s: %v", set, text, got.out)
			}
		}
	}
}

// P28: each call under way has locals of its own, which are 0 each time anew.
func TestLocalsOfCalls(t *testing.T) {
	// The sum of all numbers up to its own, which it keeps in a local over the call.
	sum := "get 0, set 1, get 0, eqz, if, get 2, return, end, int 99, set 2, get 0, int 1, sub, call 4, get 1, add"
	m := with(typeIntInt, kinds(i32, i32), sum)
	for n := range 40 {
		plays(t, "sum", m, args(int64(n)), done(13*n+7, int64(n*(n+1)/2)))
	}
	plays(t, "sum", m, args(40), trapped(11*40, api.ErrStack))
}

// P28: loads and stores do what mem does with the number that they take, and B.
func TestMemory(t *testing.T) {
	bytes := strings.Repeat("\x01\x82\x03\x84\xff\x7f\x80\x00", 64)
	places := []int64{math.MinInt32, -256, -1, 0, 1, 3, 255, 256, 504, 505, 508, 509, 510, 511, 512, math.MaxInt32}
	offsets := []int64{0, 1, 7, 255, 256, 504, 508, 510, 511, 512, math.MaxInt32, math.MaxUint32 - 1, math.MaxUint32}
	for op := range 256 {
		if ins.Width(byte(op)) == 0 {
			continue
		}
		for _, at := range places {
			for _, off := range offsets {
				text := "int " + strconv.FormatInt(at, 10) + ", "
				beside := strconv.Itoa(op) + " 0 " + strconv.FormatInt(off, 10)
				if _, gives, _ := ins.Plain(byte(op)); len(gives) > 0 {
					loads(t, bytes, giving(gives[0]), text+beside, byte(op), at, off)
					continue
				}
				stores(t, bytes, text, beside, byte(op), at, off)
			}
		}
	}
}

func loads(t *testing.T, bytes string, number int, text string, op byte, at, off int64) {
	t.Helper()
	memory, _ := mem.Of(bytes, 3)
	n, err := memory.Load(op, at, off)
	want := ended(plenty-2, n, err)
	x := first(stage())
	x.Mem = bytes
	if got := called(t, with(number, nil, text), x, main, nil, nil, plenty); !got.same(result{out: want, image: x}) {
		t.Errorf("%s: %v, not %v", text, got.out, want)
	}
}

func stores(t *testing.T, bytes, text, beside string, op byte, at, off int64) {
	t.Helper()
	takes, _, _ := ins.Plain(op)
	for _, n := range []int64{-2, 0x1122334455667788, math.MinInt64} {
		n = num.Fit(takes[1], n)
		memory, _ := mem.Of(bytes, 3)
		x := first(stage())
		x.Mem = bytes
		want := result{out: done(plenty - 3), image: x}
		if err := memory.Store(op, at, off, n); err != api.OK {
			want.out = trapped(plenty-3, err)
		}
		want.image.Mem = memory.All()
		text := text + numberWord(takes[1], n) + ", " + beside
		if got := called(t, with(typeNothing, nil, text), x, main, nil, nil, plenty); !got.same(want) {
			t.Errorf("%s: %v, not %v", text, got.out, want.out)
		}
	}
}

// P28: memory.size and memory.grow; what has grown is there at once, and in the image.
func TestGrow(t *testing.T) {
	for _, s := range []struct {
		text  string
		want  int64
		pages int
	}{
		{"size", 1, 1},
		{"int 0, grow", 1, 1},
		{"int 1, grow", 1, 2},
		{"int 2, grow", 1, 3},
		{"int 3, grow", -1, 1},
		{"int -1, grow", -1, 1},
		{"int -2147483648, grow", -1, 1},
		{"int 2147483647, grow", -1, 1},
		{"int 1, grow, drop, size", 2, 2},
		{"int 1, grow, drop, int 1, grow", 2, 3},
		{"int 1, grow, drop, int 2, grow", -1, 2},
		{"int 1, grow, drop, int 1, grow, drop, int 1, grow", -1, 3},
		{"int 2, grow, drop, int 767, 45", 0, 3},
		{"int 2, grow, drop, int 2, load", 0x696800, 3},
	} {
		m := with(typeInt, nil, s.text)
		got := plays(t, s.text, m, nil, done(len(strings.Split(s.text, ",")), s.want))
		if want := first(m).Mem + zeros(256*(s.pages-1)); got.image.Mem != want {
			t.Errorf("%s: %d bytes", s.text, len(got.image.Mem))
		}
	}
	m := with(typeInt, nil, "size, int 0, grow, add, int 1, grow, add")
	m.Pages, m.Data = 0, nil
	if got := plays(t, "a memory without a page", m, nil, done(7, 0)); len(got.image.Mem) != 256 {
		t.Errorf("%d bytes", len(got.image.Mem))
	}
}

// P28: unreachable.
func TestUnreachable(t *testing.T) {
	playAll(t, nil, []sample{
		{typeNothing, "unreachable", nil, trapped(1, api.ErrUnreachable)},
		{typeInt, "nop, unreachable", nil, trapped(2, api.ErrUnreachable)},
		{typeInt, "int 1, unreachable", nil, trapped(2, api.ErrUnreachable)},
		{typeInt, "block, loop, unreachable, end, end, int 1", nil, trapped(3, api.ErrUnreachable)},
		{typeInt, "int 1, if, unreachable, end, int 1", nil, trapped(3, api.ErrUnreachable)},
		{typeInt, "int 0, if, unreachable, end, int 1", nil, done(3, 1)},
		{typeInt, "int 1, return, unreachable", nil, done(2, 1)},
	})
}
