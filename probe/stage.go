package probe

import (
	"strconv"

	"troupe/api"
	"troupe/inst"
)

// The types of Stage, by what they take and give; the last one is the same as TypeIntInt.
const (
	TypeNothing = iota
	TypeInt
	TypeLong
	TypeBoth
	TypeFour
	TypeIntInt
	TypeTwo
	TypeIn
	TypeIntLong
	TypeAgain
)

// The functions of Stage.
const (
	HostBoth = iota
	HostFour
	HostInt
	HostNothing
	Main // to be filled
	Next // gives 1 more than it takes
	Less // takes two, and gives the first one less the second one
	Four // of the type of HostFour
)

// Stage answers a sound module that has something of everything; its function Main is to be filled.
func Stage() api.Module {
	return api.Module{
		Types:   stageTypes(),
		Imports: []api.Import{{Name: "both", Type: TypeBoth}, {Name: "four", Type: TypeFour}, {Name: "int", Type: TypeInt}, {Name: "nothing"}},
		Funcs: []api.Func{
			{Body: Body("")},
			{Type: TypeIntInt, Body: Body("get 0, int 1, add")},
			{Type: TypeTwo, Body: Body("get 0, get 1, sub")},
			{Type: TypeFour, Body: Body("get 1, gset 0, get 3, gset 1")},
		},
		Table: 8,
		Pages: 1,
		Most:  3,
		Globals: []api.Global{
			{Kind: api.I32, Mut: true, Start: 7},
			{Kind: api.I64, Mut: true, Start: 1 << 40},
			{Kind: api.I32, Start: -3},
			{Kind: api.I64, Start: -1 << 50},
		},
		Exports: []api.Export{{Name: "a", Func: HostBoth}, {Name: "b", Func: Main}},
		Elems:   []api.Elem{{At: 1, Funcs: []int{Next, Less, HostBoth, HostInt, Four, Main}}},
		Data:    []api.Data{{At: 3, Bytes: "hi"}},
	}
}

func stageTypes() []api.Sig {
	return []api.Sig{
		{},
		{Out: Kinds(api.I32)},
		{Out: Kinds(api.I64)},
		{In: Kinds(api.I32, api.I64), Out: Kinds(api.I64)},
		{In: Kinds(api.I64, api.I32, api.I32, api.I64)},
		{In: Kinds(api.I32), Out: Kinds(api.I32)},
		{In: Kinds(api.I32, api.I32), Out: Kinds(api.I32)},
		{In: Kinds(api.I32)},
		{In: Kinds(api.I32), Out: Kinds(api.I64)},
		{In: Kinds(api.I32), Out: Kinds(api.I32)},
	}
}

// With is Stage with this as its function Main.
func With(number int, locals []api.Kind, text string) api.Module {
	m := Stage()
	m.Funcs[0] = api.Func{Type: number, Locals: locals, Body: Body(text)}
	return m
}

// First answers what an instance of a sound module has at first.
func First(m api.Module) api.Image {
	x, err := inst.Make(m)
	if err != api.OK {
		panic("the module has no instance: " + strconv.Itoa(int(err)))
	}
	return x
}
