package flat_test

import (
	"strconv"
	"strings"

	"troupe/api"
)

const (
	i32 = api.I32
	i64 = api.I64
)

func kinds(list ...api.Kind) []api.Kind {
	return list
}

// names are those that instructions have in the tests; the others are told by their numbers.
var names = map[string]byte{
	"unreachable": 0, "nop": 1, "block": 2, "loop": 3, "if": 4, "else": 5, "end": 11,
	"br": 12, "br_if": 13, "br_table": 14, "return": 15, "call": 16, "indirect": 17,
	"drop": 26, "select": 27, "get": 32, "set": 33, "tee": 34, "gget": 35, "gset": 36,
	"size": 63, "grow": 64, "int": 65, "long": 66,
}

func numberOf(name string) byte {
	if number, ok := names[name]; ok {
		return number
	}
	number, err := strconv.ParseUint(name, 10, 8)
	if err != nil {
		panic("the test has no instruction " + name)
	}
	return byte(number)
}

// besideOf answers a number that stands beside an instruction; a block's kind has a name.
func besideOf(word string) int64 {
	switch word {
	case "i32":
		return 127
	case "i64":
		return 126
	}
	n, err := strconv.ParseInt(word, 10, 64)
	if err != nil {
		panic("the test has no number " + word)
	}
	return n
}

func opens(op byte) bool {
	return op >= 2 && op <= 4
}

// one reads an instruction: its name, then what stands beside it (of br_table the last number is A).
func one(line string) api.Ins {
	words := strings.Fields(line)
	x := api.Ins{Op: numberOf(words[0])}
	if opens(x.Op) {
		x.A = 64
	}
	var numbers []int64
	for _, word := range words[1:] {
		numbers = append(numbers, besideOf(word))
	}
	if x.Op == api.OpBrTable {
		last := len(numbers) - 1
		x.A, x.To = numbers[last], numbers[:last:last]
		return x
	}
	if len(numbers) > 0 {
		x.A = numbers[0]
	}
	if len(numbers) > 1 {
		x.B = numbers[1]
	}
	return x
}

// body reads instructions with commas between them, and lays the body's own end behind them.
func body(text string) []api.Ins {
	var list []api.Ins
	for _, line := range strings.Split(text, ",") {
		if strings.TrimSpace(line) != "" {
			list = append(list, one(line))
		}
	}
	return append(list, api.Ins{Op: api.OpEnd})
}

// The types of stage, by what they take and give.
const (
	typeNothing = iota
	typeInt
	typeLong
	typeBoth
	typeFour
	typeIntInt
)

// stage is a module that has something of everything; its first own function, number 2, is to be filled.
func stage() api.Module {
	return api.Module{
		Types: []api.Sig{
			{},
			{Out: kinds(i32)},
			{Out: kinds(i64)},
			{In: kinds(i32, i64), Out: kinds(i64)},
			{In: kinds(i64, i32, i32, i64)},
			{In: kinds(i32), Out: kinds(i32)},
		},
		Imports: []api.Import{{Name: "both", Type: typeBoth}, {Name: "four", Type: typeFour}},
		Funcs: []api.Func{
			{Type: typeNothing, Body: body("")},
			{Type: typeInt, Body: body("int 1, br 0")},
			{Type: typeIntInt, Body: body("get 0, get 0, br_if 0")},
		},
		Table:   3,
		Pages:   1,
		Most:    2,
		Globals: []api.Global{{Kind: i32, Mut: true}, {Kind: i64, Mut: true}, {Kind: i32}, {Kind: i64}},
		Exports: []api.Export{{Name: "a", Func: 0}, {Name: "b", Func: 2}, {Name: "", Func: 4}},
		Elems:   []api.Elem{{At: 1, Funcs: []int{0, 4}}, {At: -5}},
		Data:    []api.Data{{At: 3, Bytes: "hi"}, {At: 999}},
	}
}

// with is stage with this as its first own function.
func with(number int, locals []api.Kind, list []api.Ins) api.Module {
	m := stage()
	m.Funcs[0] = api.Func{Type: number, Locals: locals, Body: list}
	return m
}

// told is all ways as a text: of each instruction that has some its place, then of each way At, Keep and Height.
func told(spots []api.Spot) string {
	var words []string
	for at, s := range spots {
		if len(s.To) == 0 {
			continue
		}
		word := strconv.Itoa(at) + ">"
		for i, j := range s.To {
			if i > 0 {
				word += "+"
			}
			word += strconv.Itoa(j.At) + "/" + strconv.Itoa(j.Keep) + "/" + strconv.Itoa(j.Height)
		}
		words = append(words, word)
	}
	return strings.Join(words, " ")
}

// dice answers numbers that are always the same ones, one behind the other.
type dice uint64

func (d *dice) below(n int) int {
	x := uint64(*d)
	x ^= x << 13
	x ^= x >> 7
	x ^= x << 17
	*d = dice(x)
	return int((x >> 20) % uint64(n))
}

func pick[T any](d *dice, from ...T) T {
	return from[d.below(len(from))]
}
