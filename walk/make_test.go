package walk_test

import (
	"slices"
	"strconv"
	"strings"
	"testing"

	"troupe/api"
	"troupe/inst"
	"troupe/walk"
)

const (
	i32 = api.I32
	i64 = api.I64
)

func kinds(list ...api.Kind) []api.Kind {
	return list
}

func zeros(length int) string {
	return strings.Repeat("\x00", length)
}

// names are those that instructions have in the tests; the others are told by their numbers.
var names = map[string]byte{
	"unreachable": 0, "nop": 1, "block": 2, "loop": 3, "if": 4, "else": 5, "end": 11,
	"br": 12, "br_if": 13, "br_table": 14, "return": 15, "call": 16, "indirect": 17,
	"drop": 26, "select": 27, "get": 32, "set": 33, "tee": 34, "gget": 35, "gset": 36,
	"size": 63, "grow": 64, "int": 65, "long": 66,
	"eqz": 69, "add": 106, "sub": 107, "mul": 108, "div": 109, "add64": 124, "sub64": 125, "mul64": 126, "div64": 127,
	"cut": 167, "widen": 172, "load": 40, "load64": 41, "store": 54, "store64": 55,
}

func numberOf(name string) byte {
	if number, ok := names[name]; ok {
		return number
	}
	number, err := strconv.ParseUint(name, 10, 8)
	if err != nil {
		panic("the test has no instruction " + name)
	}
	return byte(number)
}

// besideOf answers a number that stands beside an instruction; a block's kind has a name.
func besideOf(word string) int64 {
	switch word {
	case "i32":
		return 127
	case "i64":
		return 126
	}
	n, err := strconv.ParseInt(word, 10, 64)
	if err != nil {
		panic("the test has no number " + word)
	}
	return n
}

func opens(op byte) bool {
	return op >= 2 && op <= 4
}

// one reads an instruction: its name, then what stands beside it (of br_table the last number is A).
func one(line string) api.Ins {
	words := strings.Fields(line)
	x := api.Ins{Op: numberOf(words[0])}
	if opens(x.Op) {
		x.A = 64
	}
	var numbers []int64
	for _, word := range words[1:] {
		numbers = append(numbers, besideOf(word))
	}
	if x.Op == api.OpBrTable {
		last := len(numbers) - 1
		x.A, x.To = numbers[last], numbers[:last:last]
		return x
	}
	if len(numbers) > 0 {
		x.A = numbers[0]
	}
	if len(numbers) > 1 {
		x.B = numbers[1]
	}
	return x
}

// body reads instructions with commas between them, and lays the body's own end behind them.
func body(text string) []api.Ins {
	var list []api.Ins
	for _, line := range strings.Split(text, ",") {
		if strings.TrimSpace(line) != "" {
			list = append(list, one(line))
		}
	}
	return append(list, api.Ins{Op: api.OpEnd})
}

// The types of stage, by what they take and give; the last one is the same as intInt.
const (
	typeNothing = iota
	typeInt
	typeLong
	typeBoth
	typeFour
	typeIntInt
	typeTwo
	typeIn
	typeIntLong
	typeAgain
)

// The functions of stage.
const (
	hostBoth = iota
	hostFour
	hostInt
	hostNothing
	main // to be filled
	next // gives 1 more than it takes
	less // takes two, and gives the first one less the second one
	four // of the type of hostFour
)

// stage is a sound module that has something of everything; its function main is to be filled.
func stage() api.Module {
	return api.Module{
		Types: []api.Sig{
			{},
			{Out: kinds(i32)},
			{Out: kinds(i64)},
			{In: kinds(i32, i64), Out: kinds(i64)},
			{In: kinds(i64, i32, i32, i64)},
			{In: kinds(i32), Out: kinds(i32)},
			{In: kinds(i32, i32), Out: kinds(i32)},
			{In: kinds(i32)},
			{In: kinds(i32), Out: kinds(i64)},
			{In: kinds(i32), Out: kinds(i32)},
		},
		Imports: []api.Import{{Name: "both", Type: typeBoth}, {Name: "four", Type: typeFour}, {Name: "int", Type: typeInt}, {Name: "nothing"}},
		Funcs: []api.Func{
			{Body: body("")},
			{Type: typeIntInt, Body: body("get 0, int 1, add")},
			{Type: typeTwo, Body: body("get 0, get 1, sub")},
			{Type: typeFour, Body: body("get 1, gset 0, get 3, gset 1")},
		},
		Table:   8,
		Pages:   1,
		Most:    3,
		Globals: []api.Global{{Kind: i32, Mut: true, Start: 7}, {Kind: i64, Mut: true, Start: 1 << 40}, {Kind: i32, Start: -3}, {Kind: i64, Start: -1 << 50}},
		Exports: []api.Export{{Name: "a", Func: hostBoth}, {Name: "b", Func: main}},
		Elems:   []api.Elem{{At: 1, Funcs: []int{next, less, hostBoth, hostInt, four, main}}},
		Data:    []api.Data{{At: 3, Bytes: "hi"}},
	}
}

// with is stage with this as its function main.
func with(number int, locals []api.Kind, text string) api.Module {
	m := stage()
	m.Funcs[0] = api.Func{Type: number, Locals: locals, Body: body(text)}
	return m
}

// first is what an instance of a module has at first.
func first(m api.Module) api.Image {
	x, err := inst.Make(m)
	if err != api.OK {
		panic("the test has a module that is not sound: " + strconv.Itoa(int(err)))
	}
	return x
}

// result is all that a call answers but its error.
type result struct {
	out   api.Out
	image api.Image
	asks  []api.Ask
}

// called is what comes of a call that can be made.
func called(t *testing.T, m api.Module, x api.Image, f int, args, answers []int64, fuel int) result {
	t.Helper()
	out, image, asks, err := walk.Call(m, x, f, args, answers, fuel)
	if err != api.OK {
		t.Fatalf("%v: Call of %d with %v and %d of the fuel is %d", m, f, args, fuel, err)
	}
	return result{out: out, image: image, asks: asks}
}

func sameImage(x, y api.Image) bool {
	return x.Mem == y.Mem && slices.Equal(x.Table, y.Table) && slices.Equal(x.Globals, y.Globals)
}

func sameOut(x, y api.Out) bool {
	return x.End == y.End && slices.Equal(x.Vals, y.Vals) && x.Trap == y.Trap && x.Host == y.Host && x.Left == y.Left
}

func sameAsk(x, y api.Ask) bool {
	return x.Host == y.Host && slices.Equal(x.Vals, y.Vals)
}

func (r result) same(other result) bool {
	return sameOut(r.out, other.out) && sameImage(r.image, other.image) && slices.EqualFunc(r.asks, other.asks, sameAsk)
}

// done, trapped and spent are the three ends.
func done(left int, vals ...int64) api.Out {
	return api.Out{End: 1, Vals: vals, Left: left}
}

func trapped(left int, why api.Errno) api.Out {
	return api.Out{End: 2, Trap: why, Left: left}
}

func spent() api.Out {
	return api.Out{End: 3}
}

// dice answers numbers that are always the same ones, one behind the other.
type dice uint64

func (d *dice) below(n int) int {
	x := uint64(*d)
	x ^= x << 13
	x ^= x >> 7
	x ^= x << 17
	*d = dice(x)
	return int((x >> 20) % uint64(n))
}

func pick[T any](d *dice, from ...T) T {
	return from[d.below(len(from))]
}
