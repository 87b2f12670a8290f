package bin_test

import (
	"math"
	"slices"
	"strings"

	"troupe/api"
	"troupe/leb"
	"troupe/nest"
)

const head = "\x00asm\x01\x00\x00\x00"

// sec is a section with this content.
func sec(number byte, content string) string {
	return string([]byte{number}) + leb.U(uint64(len(content))) + content
}

// mod is a module of these sections.
func mod(sections ...string) string {
	return head + strings.Join(sections, "")
}

// body is instructions with nothing beside them, blocks without a value, and the body's own end.
func body(ops ...byte) []api.Ins {
	var out []api.Ins
	for _, op := range append(ops, api.OpEnd) {
		x := api.Ins{Op: op}
		if op >= 2 && op <= 4 {
			x.A = 64
		}
		out = append(out, x)
	}
	return out
}

func sameIns(x, y api.Ins) bool {
	return x.Op == y.Op && x.A == y.A && x.B == y.B && slices.Equal(x.To, y.To)
}

func sameSig(x, y api.Sig) bool {
	return slices.Equal(x.In, y.In) && slices.Equal(x.Out, y.Out)
}

func sameFunc(x, y api.Func) bool {
	return x.Type == y.Type && slices.Equal(x.Locals, y.Locals) && slices.EqualFunc(x.Body, y.Body, sameIns)
}

func sameElem(x, y api.Elem) bool {
	return x.At == y.At && slices.Equal(x.Funcs, y.Funcs)
}

func same(x, y api.Module) bool {
	return slices.EqualFunc(x.Types, y.Types, sameSig) &&
		slices.Equal(x.Imports, y.Imports) &&
		slices.EqualFunc(x.Funcs, y.Funcs, sameFunc) &&
		x.Table == y.Table && x.Pages == y.Pages && x.Most == y.Most &&
		slices.Equal(x.Globals, y.Globals) &&
		slices.Equal(x.Exports, y.Exports) &&
		x.Start == y.Start &&
		slices.EqualFunc(x.Elems, y.Elems, sameElem) &&
		slices.Equal(x.Data, y.Data)
}

// isNothing tells whether m is the struct of zeros that stands beside an error.
func isNothing(m api.Module) bool {
	return same(m, api.Module{}) && m.Types == nil && m.Imports == nil && m.Funcs == nil &&
		m.Globals == nil && m.Exports == nil && m.Elems == nil && m.Data == nil
}

// full has something of everything.
func full() api.Module {
	return api.Module{
		Types:   []api.Sig{{In: []api.Kind{127, 126, 127, 126}, Out: []api.Kind{126}}, {}, {Out: []api.Kind{127}}},
		Imports: []api.Import{{Name: "take", Type: 1}, {Name: "", Type: 300}},
		Funcs: []api.Func{
			{Type: 2, Locals: []api.Kind{127, 127, 126, 127}, Body: []api.Ins{{Op: 65, A: -1}, {Op: 14, A: 1, To: []int64{0, 128}}, {Op: 11}}},
			{Type: 1, Body: body(4, 5, 11)},
		},
		Table:   10,
		Pages:   1,
		Most:    8,
		Globals: []api.Global{{Kind: 127, Mut: true, Start: -65}, {Kind: 126, Start: math.MinInt64}},
		Exports: []api.Export{{Name: "go", Func: 2}, {Name: "h\xc3\xa9", Func: 200}},
		Start:   129,
		Elems:   []api.Elem{{At: 3, Funcs: []int{0, 128, 2}}, {At: -1}},
		Data:    []api.Data{{At: 255, Bytes: "ab\x00\xff"}, {At: math.MinInt32}},
	}
}

// dice answers numbers that are always the same ones, one behind the other.
type dice uint64

func (d *dice) below(n int) int {
	x := uint64(*d)
	x ^= x << 13
	x ^= x >> 7
	x ^= x << 17
	*d = dice(x)
	return int((x >> 20) % uint64(n))
}

// some answers up to most of what one makes: often none, sometimes as many as there may be.
func some[T any](d *dice, most int, one func() T) []T {
	n := d.below(most + 1)
	switch d.below(4) {
	case 0:
		return nil
	case 1:
		n = min(n, 2)
	}
	var out []T
	for range n {
		out = append(out, one())
	}
	return out
}

func pick[T any](d *dice, from ...T) T {
	return from[d.below(len(from))]
}

func (d *dice) kind() api.Kind {
	return pick(d, api.I32, api.I64)
}

func (d *dice) number() int {
	return pick(d, 0, 1, d.below(16), 127, 128, d.below(1<<32), math.MaxUint32)
}

func (d *dice) int32() int {
	return pick(d, 0, -1, 63, 64, -64, -65, d.below(1<<32)-1<<31, math.MinInt32, math.MaxInt32)
}

func (d *dice) name() string {
	text := ""
	for _, piece := range some(d, 16, func() string { return pick(d, "a", "host", "\x00", "h\xc3\xa9", "\xf0\x9f\x98\x80") }) {
		if len(text)+len(piece) <= 16 {
			text += piece
		}
	}
	return text
}

func (d *dice) sig() api.Sig {
	return api.Sig{In: some(d, 4, d.kind), Out: some(d, 1, d.kind)}
}

func (d *dice) imported() api.Import {
	return api.Import{Name: d.name(), Type: d.number()}
}

// part is some instructions that a body may have one behind the other.
func (d *dice) part() []api.Ins {
	switch d.below(6) {
	case 0:
		return []api.Ins{{Op: 65, A: int64(d.int32())}}
	case 1:
		return []api.Ins{{Op: 66, A: int64(d.int32()) * int64(d.number())}}
	case 2:
		return []api.Ins{{Op: 14, A: int64(d.number()), To: some(d, 16, func() int64 { return int64(d.number()) })}}
	case 3:
		return []api.Ins{{Op: 4, A: 127}, {Op: 1}, {Op: 5}, {Op: 3, A: 64}, {Op: 11}, {Op: 11}}
	case 4:
		return []api.Ins{{Op: 40, A: 2, B: int64(d.number())}}
	}
	return []api.Ins{{Op: 106}}
}

func (d *dice) function() api.Func {
	parts := some(d, 12, d.part)
	return api.Func{Type: d.number(), Locals: some(d, 16, d.kind), Body: append(slices.Concat(parts...), api.Ins{Op: 11})}
}

// longFuncs are so long that their module may be too large.
func (d *dice) longFuncs() []api.Func {
	var out []api.Func
	for range 16 {
		long := slices.Repeat([]api.Ins{{Op: 66, A: math.MaxInt64}}, d.below(40))
		out = append(out, api.Func{Type: d.number(), Body: append(long, api.Ins{Op: 11})})
	}
	return out
}

func (d *dice) global() api.Global {
	if d.below(2) == 0 {
		return api.Global{Kind: api.I32, Mut: d.below(2) == 0, Start: int64(d.int32())}
	}
	return api.Global{Kind: api.I64, Mut: d.below(2) == 0, Start: pick(d, int64(d.int32()), math.MinInt64, math.MaxInt64)}
}

func (d *dice) export() api.Export {
	return api.Export{Name: d.name(), Func: d.number()}
}

func (d *dice) elem() api.Elem {
	return api.Elem{At: d.int32(), Funcs: some(d, 16, d.number)}
}

func (d *dice) data() api.Data {
	bytes := some(d, 64, func() byte { return byte(d.below(256)) })
	return api.Data{At: d.int32(), Bytes: string(bytes)}
}

// module is one that can be told, but for its size.
func (d *dice) module() api.Module {
	most := d.below(9)
	return api.Module{
		Types:   some(d, 16, d.sig),
		Imports: some(d, 16, d.imported),
		Funcs:   some(d, 16, d.function),
		Table:   d.below(17),
		Pages:   d.below(most + 1),
		Most:    most,
		Globals: some(d, 8, d.global),
		Exports: some(d, 8, d.export),
		Start:   d.number(),
		Elems:   some(d, 4, d.elem),
		Data:    some(d, 4, d.data),
	}
}

// scribe writes modules by hand. A loud one uses what may be read and is never written: numbers with more bytes than they need, sections that are empty, groups of any size.
type scribe struct {
	d    *dice
	loud bool
}

// longer adds bytes to a number, up to most.
func (w scribe) longer(s string, fill byte, most int) string {
	out := []byte(s)
	for w.loud && len(out) < most && w.d.below(3) == 0 {
		out[len(out)-1] |= 128
		out = append(out, fill)
	}
	return string(out)
}

func (w scribe) u(n int) string {
	return w.longer(leb.U(uint64(n)), 0, 5)
}

func (w scribe) s(n int64, most int) string {
	if n < 0 {
		return w.longer(leb.S(n), 127, most)
	}
	return w.longer(leb.S(n), 0, most)
}

func (w scribe) name(s string) string {
	return w.u(len(s)) + s
}

func (w scribe) kinds(kinds []api.Kind) string {
	text := w.u(len(kinds))
	for _, kind := range kinds {
		text += string([]byte{byte(kind)})
	}
	return text
}

func (w scribe) groups(kinds []api.Kind) string {
	count, text, from := 0, "", 0
	add := func(size int, kind api.Kind) {
		count++
		text += w.u(size) + string([]byte{byte(kind)})
	}
	for at := range kinds {
		last := at == len(kinds)-1 || kinds[at+1] != kinds[at]
		if last || w.loud && w.d.below(2) == 0 {
			add(at+1-from, kinds[at])
			from = at + 1
		}
	}
	for w.loud && count < 16 && w.d.below(3) == 0 {
		add(0, w.d.kind())
	}
	return w.u(count) + text
}

func (w scribe) code(f api.Func) string {
	text, err := nest.Write(f.Body)
	if err != api.OK {
		panic("the test makes a wrong body")
	}
	text = w.groups(f.Locals) + text
	return w.u(len(text)) + text
}

func (w scribe) global(g api.Global) string {
	mut := "\x00"
	if g.Mut {
		mut = "\x01"
	}
	if g.Kind == api.I64 {
		return "\x7e" + mut + "\x42" + w.s(g.Start, 10) + "\x0b"
	}
	return "\x7f" + mut + "\x41" + w.s(g.Start, 5) + "\x0b"
}

func (w scribe) place(at int) string {
	return "\x00\x41" + w.s(int64(at), 5) + "\x0b"
}

func (w scribe) elem(e api.Elem) string {
	text := w.place(e.At) + w.u(len(e.Funcs))
	for _, f := range e.Funcs {
		text += w.u(f)
	}
	return text
}

// items is a list as the content of a section; without anything it is the empty text.
func items[T any](w scribe, list []T, one func(T) string) string {
	if len(list) == 0 && !(w.loud && w.d.below(2) == 0) {
		return ""
	}
	text := w.u(len(list))
	for _, x := range list {
		text += one(x)
	}
	return text
}

// contents answers what stands in the sections, by their numbers; those that are left out are empty texts.
func (w scribe) contents(m api.Module) [12]string {
	var c [12]string
	c[1] = items(w, m.Types, func(s api.Sig) string { return "\x60" + w.kinds(s.In) + w.kinds(s.Out) })
	c[2] = items(w, m.Imports, func(i api.Import) string { return w.name("host") + w.name(i.Name) + "\x00" + w.u(i.Type) })
	c[3] = items(w, m.Funcs, func(f api.Func) string { return w.u(f.Type) })
	none := w.loud && w.d.below(3) == 0
	if m.Table > 0 || none && w.d.below(2) == 0 {
		c[4] = w.u(1) + "\x70\x00" + w.u(m.Table)
	} else if none {
		c[4] = w.u(0)
	}
	if m.Most > 0 || none && w.d.below(2) == 0 {
		c[5] = w.u(1) + "\x01" + w.u(m.Pages) + w.u(m.Most)
	} else if none {
		c[5] = w.u(0)
	}
	c[6] = items(w, m.Globals, w.global)
	c[7] = items(w, m.Exports, func(e api.Export) string { return w.name(e.Name) + "\x00" + w.u(e.Func) })
	if m.Start > 0 {
		c[8] = w.u(m.Start - 1)
	}
	c[9] = items(w, m.Elems, w.elem)
	c[10] = items(w, m.Funcs, w.code)
	c[11] = items(w, m.Data, func(x api.Data) string { return w.place(x.At) + w.name(x.Bytes) })
	return c
}

// join lays the sections one behind the other.
func (w scribe) join(contents [12]string) string {
	text := head
	for number, content := range contents {
		if content != "" {
			text += string([]byte{byte(number)}) + w.u(len(content)) + content
		}
	}
	return text
}

func (w scribe) text(m api.Module) string {
	return w.join(w.contents(m))
}
