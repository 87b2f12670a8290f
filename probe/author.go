package probe

import (
	"slices"
	"strconv"
	"strings"

	"troupe/api"
)

// author writes sound bodies that do much.
type author struct {
	*Dice
	m      api.Module
	locals []api.Kind
	open   []api.Kind // what a way out of each block that is open takes along, the innermost last
}

func read(words ...string) []api.Ins {
	var all []api.Ins
	for _, word := range words {
		all = append(all, One(word))
	}
	return all
}

// numbered is an instruction of that name with a number beside it.
func numbered(name string, n int) []api.Ins {
	return read(name + " " + strconv.Itoa(n))
}

// placesOf answers at which places of a list an x stands.
func placesOf[T comparable](list []T, x T) []int {
	var places []int
	for at, y := range list {
		if y == x {
			places = append(places, at)
		}
	}
	return places
}

// constant is a const of that kind; such as are good places, divisors and counts come often.
func (a *author) constant(kind api.Kind) []api.Ins {
	n := Pick(a.Dice, 0, 1, 2, 3, 4, 5, 6, 7, 100, 250, 255, 256)
	if a.Below(4) == 0 {
		n = Pick(a.Dice, -1, -2, -2147483648, 2147483647, 65535, -256, 31, 33)
	}
	if kind == api.I32 {
		return numbered("int", n)
	}
	if a.Below(8) == 0 {
		n = Pick(a.Dice, -1<<63, 1<<63-1, 1<<32, 1<<31, -1<<31-1)
	}
	return numbered("long", n)
}

// leaf gives a value of that kind for one of the fuel.
func (a *author) leaf(kind api.Kind) []api.Ins {
	if places := placesOf(a.locals, kind); len(places) > 0 && a.Below(2) == 0 {
		return numbered("get", Pick(a.Dice, places...))
	}
	switch a.Below(5) {
	case 0:
		if kind == api.I32 {
			return numbered("gget", Pick(a.Dice, 0, 2))
		}
		return numbered("gget", Pick(a.Dice, 1, 3))
	case 1:
		if kind == api.I32 {
			return read("size")
		}
	}
	return a.constant(kind)
}

// values gives values of these kinds, one behind the other.
func (a *author) values(kinds []api.Kind, deep int) []api.Ins {
	var all []api.Ins
	for _, kind := range kinds {
		all = append(all, a.value(kind, deep)...)
	}
	return all
}

// value gives a value of that kind, or ends what is under way.
func (a *author) value(kind api.Kind, deep int) []api.Ins {
	if deep == 0 {
		return a.leaf(kind)
	}
	deep--
	switch a.Below(12) {
	case 0, 1, 2:
		return a.reckoned(kind, deep)
	case 3:
		return a.loaded(kind, deep)
	case 4:
		return slices.Concat(a.values(Kinds(kind, kind, api.I32), deep), read("select"))
	case 5, 6:
		return a.called(kind, deep)
	case 7, 8:
		return a.block(kind, deep)
	case 9:
		if places := placesOf(a.locals, kind); len(places) > 0 {
			return slices.Concat(a.value(kind, deep), numbered("tee", Pick(a.Dice, places...)))
		}
	case 10:
		if places := placesOf(a.open, kind); len(places) > 0 {
			return slices.Concat(a.values(Kinds(kind, api.I32), deep), numbered("br_if", len(a.open)-1-Pick(a.Dice, places...)))
		}
	case 11:
		if a.Below(3) == 0 {
			return slices.Concat(a.leave(deep), a.leaf(kind))
		}
	}
	return a.leaf(kind)
}

// reckoned gives what an instruction makes of numbers.
func (a *author) reckoned(kind api.Kind, deep int) []api.Ins {
	if kind == api.I64 {
		if a.Below(4) == 0 {
			return slices.Concat(a.value(api.I32, deep), numbered(Pick(a.Dice, "172", "173"), 0))
		}
		return a.reckonedOf(api.I64, Pick(a.Dice, 121, 122, 123, 194, 195, 196), 124+a.Below(15), deep)
	}
	switch a.Below(6) {
	case 0:
		return slices.Concat(a.value(api.I64, deep), read("cut"))
	case 1:
		return a.reckonedOf(api.I64, 80, 81+a.Below(10), deep)
	case 2:
		return a.reckonedOf(api.I32, 69, 70+a.Below(10), deep)
	case 3:
		if a.Below(2) == 0 {
			return slices.Concat(a.value(api.I32, deep), read("grow"))
		}
	}
	return a.reckonedOf(api.I32, Pick(a.Dice, 103, 104, 105, 192, 193), 106+a.Below(15), deep)
}

// reckonedOf takes one number of that kind, or two.
func (a *author) reckonedOf(kind api.Kind, one, two, deep int) []api.Ins {
	if a.Below(3) == 0 {
		return slices.Concat(a.value(kind, deep), numbered(strconv.Itoa(one), 0))
	}
	return slices.Concat(a.values(Kinds(kind, kind), deep), numbered(strconv.Itoa(two), 0))
}

// place gives a number at which something may lie.
func (a *author) place(deep int) []api.Ins {
	if a.Below(4) == 0 {
		return a.value(api.I32, deep)
	}
	return a.constant(api.I32)
}

// beside is what stands beside a load or a store.
func (a *author) beside() string {
	return " 0 " + strconv.Itoa(Pick(a.Dice, 0, 0, 0, 1, 3, 200))
}

func (a *author) loaded(kind api.Kind, deep int) []api.Ins {
	if kind == api.I32 {
		return slices.Concat(a.place(deep), read(Pick(a.Dice, "40", "44", "45", "46", "47")+a.beside()))
	}
	return slices.Concat(a.place(deep), read(Pick(a.Dice, "41", "48", "49", "50", "51", "52", "53")+a.beside()))
}

func (a *author) stored(deep int) []api.Ins {
	if a.Below(2) == 0 {
		return slices.Concat(a.place(deep), a.value(api.I32, deep), read(Pick(a.Dice, "54", "58", "59")+a.beside()))
	}
	return slices.Concat(a.place(deep), a.value(api.I64, deep), read(Pick(a.Dice, "55", "60", "61", "62")+a.beside()))
}

// called gives what a function gives; one of no kind is one that gives nothing.
func (a *author) called(kind api.Kind, deep int) []api.Ins {
	var out []api.Kind
	if kind != api.NoKind {
		out = Kinds(kind)
	}
	var numbers []int
	for number := range len(a.m.Imports) + len(a.m.Funcs) {
		if slices.Equal(sigOf(a.m, number).Out, out) {
			numbers = append(numbers, number)
		}
	}
	number := Pick(a.Dice, numbers...)
	in := a.values(sigOf(a.m, number).In, deep)
	if a.Below(3) > 0 {
		return slices.Concat(in, numbered("call", number))
	}
	at := numbered("int", max(0, slices.Index(First(a.m).Table, number)))
	if a.Below(4) == 0 {
		at = a.place(deep)
	}
	return slices.Concat(in, at, numbered("indirect", typeNumber(a.m, number)))
}

func sigOf(m api.Module, number int) api.Sig {
	return m.Types[typeNumber(m, number)]
}

func typeNumber(m api.Module, number int) int {
	if number < len(m.Imports) {
		return m.Imports[number].Type
	}
	return m.Funcs[number-len(m.Imports)].Type
}

// block is a block, loop or if of that kind.
func (a *author) block(kind api.Kind, deep int) []api.Ins {
	if len(a.open) > 8 {
		return a.inner(kind, 0)
	}
	head := Pick(a.Dice, "block", "loop", "if")
	along := kind
	if head == "loop" {
		along = api.NoKind
	}
	var ahead []api.Ins
	if head == "if" {
		ahead = a.value(api.I32, deep)
	}
	a.open = append(a.open, along)
	all := slices.Concat(ahead, numbered(head, int(kind)), a.inner(kind, deep))
	if head == "if" && (kind != api.NoKind || a.Below(2) == 0) {
		all = slices.Concat(all, read("else"), a.inner(kind, deep))
	}
	a.open = a.open[:len(a.open)-1]
	return append(all, One("end"))
}

// inner is what is within a block, or within the half of one.
func (a *author) inner(kind api.Kind, deep int) []api.Ins {
	var all []api.Ins
	for range a.Below(3) {
		all = append(all, a.deed(deep)...)
	}
	if a.Below(6) == 0 {
		return append(all, a.leave(deep)...)
	}
	if kind != api.NoKind {
		all = append(all, a.value(kind, deep)...)
	}
	return all
}

// leave goes a way, or ends all, with values on the stack that are gone then.
func (a *author) leave(deep int) []api.Ins {
	var lost []api.Ins
	for range a.Below(3) {
		lost = append(lost, a.leaf(Pick(a.Dice, api.I32, api.I64))...)
	}
	if a.Below(15) == 0 {
		ahead := Pick(a.Dice, "nop", "int -2147483648, int -1, div, drop", "long -9223372036854775808, long -1, div64, drop")
		return slices.Concat(lost, read(strings.Split(ahead, ", ")...), read("unreachable"))
	}
	if a.Below(8) == 0 {
		return slices.Concat(lost, a.along(a.open[0], deep), read("return"))
	}
	at := a.Below(len(a.open))
	lost = append(lost, a.along(a.open[at], deep)...)
	if a.Below(2) == 0 {
		return append(lost, numbered("br", len(a.open)-1-at)...)
	}
	table := api.Ins{Op: api.OpBrTable, A: int64(len(a.open) - 1 - at)}
	for range a.Below(5) {
		table.To = append(table.To, int64(len(a.open)-1-Pick(a.Dice, placesOf(a.open, a.open[at])...)))
	}
	return slices.Concat(lost, a.value(api.I32, deep), []api.Ins{table})
}

// along gives what a way takes along.
func (a *author) along(kind api.Kind, deep int) []api.Ins {
	if kind == api.NoKind {
		return nil
	}
	return a.value(kind, deep)
}

// deed does something, and leaves the stack as it is.
func (a *author) deed(deep int) []api.Ins {
	if deep == 0 {
		return read("nop")
	}
	deep--
	kind := Pick(a.Dice, api.I32, api.I64)
	switch a.Below(9) {
	case 0:
		return slices.Concat(a.value(kind, deep), read("drop"))
	case 1, 2:
		if places := placesOf(a.locals, kind); len(places) > 0 {
			return slices.Concat(a.value(kind, deep), numbered("set", Pick(a.Dice, places...)))
		}
	case 3:
		if kind == api.I32 {
			return slices.Concat(a.value(api.I32, deep), numbered("gset", 0))
		}
		return slices.Concat(a.value(api.I64, deep), numbered("gset", 1))
	case 4:
		return a.stored(deep)
	case 5:
		return a.called(api.NoKind, deep)
	case 6, 7:
		return a.block(api.NoKind, deep)
	case 8:
		at := a.Below(len(a.open))
		if a.open[at] == api.NoKind {
			return slices.Concat(a.value(api.I32, deep), numbered("br_if", len(a.open)-1-at))
		}
	}
	return read("nop")
}

// fill gives one of the module's own functions a new body, which is as long as there may be at most.
func (a *author) fill(own int) {
	s := a.m.Types[a.m.Funcs[own].Type]
	a.m.Funcs[own].Locals = Pick(a.Dice, nil, Kinds(api.I32, api.I64), Kinds(api.I64, api.I64, api.I32))
	a.locals = slices.Concat(s.In, a.m.Funcs[own].Locals)
	out := api.NoKind
	if len(s.Out) > 0 {
		out = s.Out[0]
	}
	for {
		a.open = Kinds(out)
		var all []api.Ins
		for range a.Below(5) {
			all = append(all, a.deed(4)...)
		}
		all = slices.Concat(all, a.inner(out, 4), read("end"))
		if len(all) <= api.MaxBody {
			a.m.Funcs[own].Body = all
			return
		}
	}
}

// Play answers a sound module whose functions do much.
func (d *Dice) Play() api.Module {
	m := With(d.Below(len(Stage().Types)), nil, "unreachable")
	a := &author{Dice: d, m: m}
	for own := range m.Funcs {
		if own == 0 || d.Below(2) == 0 {
			a.fill(own)
		}
	}
	return a.m
}
