package probe

import (
	"math"
	"slices"
	"strings"

	"troupe/api"
)

// Wild answers a number at some edge, or one that counts something.
func (d *Dice) Wild() int {
	switch d.Below(4) {
	case 0:
		return d.Below(3)
	case 1:
		return Pick(d, math.MinInt64, math.MaxInt64, -1, 1<<31, 1<<32-1, 1<<32, -1<<31, 63, 64, 256, 2048)
	}
	return d.Below(20) - 2
}

func (d *Dice) wildLong() int64 {
	return int64(d.Wild())
}

func (d *Dice) wildKind() api.Kind {
	return Pick(d, api.I32, api.I64, api.I32, api.I64, api.NoKind, api.Kind(d.Below(256)))
}

func (d *Dice) wildName() string {
	return Pick(d, "", "a", "b", "\xff", "a name of 17 byte", "a name of 16 byt")
}

// WildList answers a few such, or none, or more than there may be.
func WildList[T any](d *Dice, one func() T) []T {
	var all []T
	for range d.Below(Pick(d, 2, 4, 19)) {
		all = append(all, one())
	}
	return all
}

func (d *Dice) wildSig() api.Sig {
	return api.Sig{In: WildList(d, d.wildKind), Out: WildList(d, d.wildKind)}
}

func (d *Dice) wildIns() api.Ins {
	return api.Ins{Op: byte(d.Below(256)), A: d.wildLong(), B: d.wildLong(), To: WildList(d, d.wildLong)}
}

func (d *Dice) wildFunc() api.Func {
	list := append(WildList(d, d.wildIns), api.Ins{Op: api.OpEnd})
	return api.Func{Type: d.Wild(), Locals: WildList(d, d.wildKind), Body: list}
}

// WildModule answers a module of which hardly anything fits together.
func (d *Dice) WildModule() api.Module {
	return api.Module{
		Types:   WildList(d, d.wildSig),
		Imports: WildList(d, func() api.Import { return api.Import{Name: d.wildName(), Type: d.Wild()} }),
		Funcs:   WildList(d, d.wildFunc),
		Table:   d.Wild(),
		Pages:   d.Wild(),
		Most:    d.Wild(),
		Globals: WildList(d, func() api.Global { return api.Global{Kind: d.wildKind(), Mut: d.Below(2) == 0, Start: d.wildLong()} }),
		Exports: WildList(d, func() api.Export { return api.Export{Name: d.wildName(), Func: d.Wild()} }),
		Start:   d.Wild(),
		Elems:   WildList(d, func() api.Elem { return api.Elem{At: d.Wild(), Funcs: WildList(d, d.Wild)} }),
		Data:    WildList(d, func() api.Data { return api.Data{At: d.Wild(), Bytes: d.wildName()} }),
	}
}

// WildImage answers an image that hardly any instance has.
func (d *Dice) WildImage() api.Image {
	text := strings.Repeat("x", Pick(d, 0, 1, 255, 256, 512, 1024, 2048, 2304))
	return api.Image{Mem: text, Table: WildList(d, d.Wild), Globals: WildList(d, d.wildLong)}
}

// WildState answers a state that hardly any machine has.
func (d *Dice) WildState() api.State {
	call := func() api.Call {
		return api.Call{Func: d.Wild(), At: d.Wild(), Locals: WildList(d, d.wildLong), Stack: WildList(d, d.wildLong)}
	}
	return api.State{Calls: slices.Repeat(WildList(d, call), Pick(d, 1, 1, 3)), Host: d.Wild()}
}

// Spoilt answers a module that Play could have made, but for a part that is another one.
func (d *Dice) Spoilt() api.Module {
	m, other := d.Play(), d.WildModule()
	switch d.Below(9) {
	case 0:
		m.Types = other.Types
	case 1:
		m.Imports = other.Imports
	case 2:
		m.Funcs = other.Funcs
	case 3:
		m.Table = other.Table
	case 4:
		m.Pages, m.Most = other.Pages, other.Most
	case 5:
		m.Globals = other.Globals
	case 6:
		m.Exports, m.Start = other.Exports, other.Start
	case 7:
		m.Elems, m.Data = other.Elems, other.Data
	}
	return m
}

// Altered answers a body in which some instructions have gone, or are other ones, or have come from elsewhere in it.
func (d *Dice) Altered(list []api.Ins) []api.Ins {
	list = slices.Clone(list)
	for range 1 + d.Below(3) {
		at := d.Below(len(list))
		switch d.Below(4) {
		case 0:
			list = slices.Delete(list, at, at+1)
		case 1:
			list = slices.Insert(list, at, list[d.Below(len(list))])
		case 2:
			list[at].A = Pick[int64](d, 0, 1, 2, 3, 64, 126, 127)
		case 3:
			list[at] = One(Pick(d, "nop", "drop", "int 1", "long 1", "return", "unreachable", "br 0", "br 1", "br_if 0", "block", "end", "else", "br_table 0 1 0"))
		}
		if len(list) == 0 {
			return list
		}
	}
	return list
}

// WrongModules answers modules that are not sound, by what is wrong with them.
func WrongModules() map[api.Errno]api.Module {
	long := With(TypeNothing, nil, "")
	long.Funcs[0].Body = slices.Repeat(long.Funcs[0].Body, api.MaxBody+1)
	open := Stage()
	open.Funcs[3].Body = open.Funcs[3].Body[:2]
	unknown := Stage()
	unknown.Funcs[1].Type = 10
	twice := Stage()
	twice.Exports[1].Name = "a"
	return map[api.Errno]api.Module{
		api.ErrLarge: long,
		api.ErrShort: open,
		api.ErrIndex: unknown,
		api.ErrName:  twice,
		api.ErrType:  With(TypeInt, nil, "long"),
		api.ErrAlign: With(TypeNothing, nil, "int 0, load 3, drop"),
		api.ErrUnsup: With(TypeNothing, nil, "6"),
		api.ErrForm:  With(TypeNothing, nil, "else"),
		api.ErrArg:   With(TypeNothing, nil, "int 2147483648, drop"),
	}
}

// WrongImages answers images that no instance of Stage has.
func WrongImages() []api.Image {
	var all []api.Image
	for _, spoil := range []func(x *api.Image){
		func(x *api.Image) { *x = api.Image{} },
		func(x *api.Image) { x.Mem = x.Mem[:255] },
		func(x *api.Image) { x.Mem = strings.Repeat(x.Mem, 4) },
		func(x *api.Image) { x.Table = x.Table[:7] },
		func(x *api.Image) { x.Table[0] = 8 },
		func(x *api.Image) { x.Table[0] = -2 },
		func(x *api.Image) { x.Globals = append(x.Globals, 0) },
		func(x *api.Image) { x.Globals[0] = 1 << 31 },
		func(x *api.Image) { x.Globals[2] = 0 },
	} {
		x := First(Stage())
		spoil(&x)
		all = append(all, x)
	}
	return all
}
