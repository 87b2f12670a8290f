// Package probe: modules on which the tests of several packages try these, and a second reckoning of what they do.
package probe

import (
	"strconv"
	"strings"

	"troupe/api"
)

// Kinds answers these as a list.
func Kinds(list ...api.Kind) []api.Kind {
	return list
}

// Args answers these as a list.
func Args(list ...int64) []int64 {
	return list
}

// numberOf answers the number of the instruction that a word means: some have names here, the others are told by their numbers.
func numberOf(word string) byte {
	for _, number := range []func(string) int{flowNumber, moveNumber, plainNumber} {
		if n := number(word); n >= 0 {
			return byte(n)
		}
	}
	n, err := strconv.ParseUint(word, 10, 8)
	if err != nil {
		panic("there is no instruction " + word)
	}
	return byte(n)
}

func flowNumber(word string) int {
	switch word {
	case "unreachable":
		return 0
	case "nop":
		return 1
	case "block":
		return 2
	case "loop":
		return 3
	case "if":
		return 4
	case "else":
		return 5
	case "end":
		return 11
	case "br":
		return 12
	case "br_if":
		return 13
	case "br_table":
		return 14
	case "return":
		return 15
	case "call":
		return 16
	case "indirect":
		return 17
	}
	return -1
}

func moveNumber(word string) int {
	switch word {
	case "drop":
		return 26
	case "select":
		return 27
	case "get":
		return 32
	case "set":
		return 33
	case "tee":
		return 34
	case "gget":
		return 35
	case "gset":
		return 36
	case "load":
		return 40
	case "load64":
		return 41
	case "store":
		return 54
	case "store64":
		return 55
	case "size":
		return 63
	case "grow":
		return 64
	case "int":
		return 65
	case "long":
		return 66
	}
	return -1
}

func plainNumber(word string) int {
	switch word {
	case "eqz":
		return 69
	case "add":
		return 106
	case "sub":
		return 107
	case "mul":
		return 108
	case "div":
		return 109
	case "add64":
		return 124
	case "sub64":
		return 125
	case "mul64":
		return 126
	case "div64":
		return 127
	case "cut":
		return 167
	case "widen":
		return 172
	}
	return -1
}

// besideOf answers a number that stands beside an instruction; a block's kind has a name.
func besideOf(word string) int64 {
	switch word {
	case "i32":
		return int64(api.I32)
	case "i64":
		return int64(api.I64)
	}
	n, err := strconv.ParseInt(word, 10, 64)
	if err != nil {
		panic("there is no number " + word)
	}
	return n
}

func opens(op byte) bool {
	return op == api.OpBlock || op == api.OpLoop || op == api.OpIf
}

// One reads an instruction: its name, then what stands beside it (of br_table the last number is A).
func One(line string) api.Ins {
	words := strings.Fields(line)
	x := api.Ins{Op: numberOf(words[0])}
	if opens(x.Op) {
		x.A = int64(api.NoKind)
	}
	var numbers []int64
	for _, word := range words[1:] {
		numbers = append(numbers, besideOf(word))
	}
	if x.Op == api.OpBrTable {
		last := len(numbers) - 1
		x.A, x.To = numbers[last], numbers[:last:last]
		return x
	}
	if len(numbers) > 0 {
		x.A = numbers[0]
	}
	if len(numbers) > 1 {
		x.B = numbers[1]
	}
	return x
}

// Body reads instructions with commas between them, and lays the body's own end behind them.
func Body(text string) []api.Ins {
	var list []api.Ins
	for _, line := range strings.Split(text, ",") {
		if strings.TrimSpace(line) != "" {
			list = append(list, One(line))
		}
	}
	return append(list, api.Ins{Op: api.OpEnd})
}
