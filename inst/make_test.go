package inst_test

import (
	"slices"
	"strings"

	"troupe/api"
)

const (
	i32 = api.I32
	i64 = api.I64
)

func kinds(list ...api.Kind) []api.Kind {
	return list
}

func zeros(length int) string {
	return strings.Repeat("\x00", length)
}

// list is a body of these instructions, and its own end.
func list(all ...api.Ins) []api.Ins {
	return append(all, api.Ins{Op: api.OpEnd})
}

// stage is a sound module that has something of everything; its functions are 0 and 1 from outside, and 2, 3, 4.
func stage() api.Module {
	return api.Module{
		Types:   []api.Sig{{}, {Out: kinds(i32)}, {In: kinds(i32, i64), Out: kinds(i64)}},
		Imports: []api.Import{{Name: "one", Type: 2}, {Name: "two"}},
		Funcs: []api.Func{
			{Body: list(api.Ins{Op: api.OpNop})},
			{Type: 1, Body: list(api.Ins{Op: api.OpConst32, A: 5})},
			{Type: 2, Locals: kinds(i32), Body: list(
				api.Ins{Op: api.OpBlock, A: 64},
				api.Ins{Op: api.OpLocalGet},
				api.Ins{Op: api.OpBrTable, A: 0, To: []int64{0, 0}},
				api.Ins{Op: api.OpEnd},
				api.Ins{Op: api.OpLocalGet, A: 1},
			)},
		},
		Table: 6,
		Pages: 2,
		Most:  4,
		Globals: []api.Global{
			{Kind: i32, Mut: true, Start: 7},
			{Kind: i64, Mut: true, Start: 1 << 40},
			{Kind: i32, Start: -3},
			{Kind: i64, Start: -1 << 50},
		},
		Exports: []api.Export{{Name: "a", Func: 0}, {Name: "b", Func: 4}},
		Start:   3,
		Elems:   []api.Elem{{At: 1, Funcs: []int{4, 0}}, {At: 5, Funcs: []int{2}}},
		Data:    []api.Data{{At: 3, Bytes: "hi"}, {At: 255, Bytes: "over"}},
	}
}

// stageImage is what an instance of stage has at first.
func stageImage() api.Image {
	return api.Image{
		Mem:     zeros(3) + "hi" + zeros(250) + "over" + zeros(253),
		Table:   []int{-1, 4, 0, -1, -1, 2},
		Globals: []int64{7, 1 << 40, -3, -1 << 50},
	}
}

// changed is stage with a change.
func changed(change func(m *api.Module)) api.Module {
	m := stage()
	change(&m)
	return m
}

// changedImage is what an instance of stage has at first, with a change.
func changedImage(change func(x *api.Image)) api.Image {
	x := stageImage()
	change(&x)
	return x
}

// wrongs are modules of each error that valid.Module has.
func wrongs() map[api.Errno]api.Module {
	with := func(all ...api.Ins) api.Module {
		return changed(func(m *api.Module) { m.Funcs[0].Body = list(all...) })
	}
	return map[api.Errno]api.Module{
		api.ErrArg:   changed(func(m *api.Module) { m.Pages = 5 }),
		api.ErrLarge: changed(func(m *api.Module) { m.Table = 17 }),
		api.ErrShort: changed(func(m *api.Module) { m.Funcs[1].Body = nil }),
		api.ErrForm:  with(api.Ins{Op: api.OpEnd}),
		api.ErrUnsup: with(api.Ins{Op: 255}),
		api.ErrDeep:  with(slices.Repeat([]api.Ins{{Op: api.OpLoop, A: 64}}, 13)...),
		api.ErrIndex: with(api.Ins{Op: api.OpBr, A: 1}),
		api.ErrAlign: with(api.Ins{Op: api.OpConst32}, api.Ins{Op: 40, A: 3}, api.Ins{Op: api.OpDrop}),
		api.ErrType:  with(api.Ins{Op: api.OpDrop}),
		api.ErrName:  changed(func(m *api.Module) { m.Exports[1].Name = "a" }),
	}
}

func sameImage(x, y api.Image) bool {
	return x.Mem == y.Mem && slices.Equal(x.Table, y.Table) && slices.Equal(x.Globals, y.Globals)
}

// isEmpty tells whether x is what is told beside an error.
func isEmpty(x api.Image) bool {
	return x.Mem == "" && x.Table == nil && x.Globals == nil
}

// dice answers numbers that are always the same ones, one behind the other.
type dice uint64

func (d *dice) below(n int) int {
	x := uint64(*d)
	x ^= x << 13
	x ^= x >> 7
	x ^= x << 17
	*d = dice(x)
	return int((x >> 20) % uint64(n))
}

func pick[T any](d *dice, from ...T) T {
	return from[d.below(len(from))]
}
