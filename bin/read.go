package bin

import (
	"math"
	"slices"
	"strings"

	"troupe/api"
	"troupe/leb"
	"troupe/nest"
)

// Read answers the module that s is.
func Read(s string) (m api.Module, err api.Errno) {
	defer func() {
		if thrown := recover(); thrown != nil {
			m, err = api.Module{}, thrown.(api.Errno)
		}
	}()
	throwUnless(len(s) <= api.MaxBytes, api.ErrLarge)
	return readModule(&reader{rest: s}), api.OK
}

// throwUnless ends all that Read does, however deep within: err is what it answers.
func throwUnless(holds bool, err api.Errno) {
	if !holds {
		panic(err)
	}
}

func readModule(r *reader) api.Module {
	for i := range len(head) {
		r.fixed(head[i], api.ErrForm)
	}
	var d draft
	last := byte(0)
	for r.rest != "" {
		number := r.next()
		throwUnless(typeSection <= number && number <= dataSection, api.ErrUnsup)
		throwUnless(number > last, api.ErrForm)
		content := r.inner()
		d.fill(number, content)
		content.end()
		last = number
	}
	return d.whole()
}

// draft is what has been read of a module. Until all is read the types of its functions lie apart from these, since they stand in a section of their own.
type draft struct {
	module api.Module
	types  []int
}

// fill reads the content of a section.
func (d *draft) fill(number byte, r *reader) {
	m := &d.module
	switch number {
	case typeSection:
		m.Types = list(r, api.MaxTypes, r.sig)
	case importSection:
		m.Imports = list(r, api.MaxImports, r.imported)
	case functionSection:
		d.types = list(r, api.MaxFuncs, r.number)
	case tableSection:
		m.Table = r.table()
	case memorySection:
		m.Pages, m.Most = r.memory()
	case globalSection:
		m.Globals = list(r, api.MaxGlobals, r.global)
	case exportSection:
		m.Exports = list(r, api.MaxExports, r.export)
	case startSection:
		m.Start = r.start()
	case elemSection:
		m.Elems = list(r, api.MaxElems, r.elem)
	case codeSection:
		m.Funcs = list(r, api.MaxFuncs, r.code)
	case dataSection:
		m.Data = list(r, api.MaxData, r.data)
	}
}

// whole answers the module once all is read.
func (d *draft) whole() api.Module {
	throwUnless(len(d.types) == len(d.module.Funcs), api.ErrForm)
	for i, number := range d.types {
		d.module.Funcs[i].Type = number
	}
	return d.module
}

// reader takes from the front of a text, and throws what is wrong there.
type reader struct {
	rest string
}

// list reads how many there are, and hands the reading of each over to one.
func list[T any](r *reader, most int, one func() T) []T {
	var out []T
	for range r.count(most) {
		out = append(out, one())
	}
	return out
}

func (r *reader) sig() api.Sig {
	r.fixed(sigByte, api.ErrForm)
	in := list(r, api.MaxIn, r.kind)
	out := list(r, maxOut, r.kind)
	return api.Sig{In: in, Out: out}
}

func (r *reader) kind() api.Kind {
	kind := api.Kind(r.next())
	throwUnless(isKind(kind), api.ErrUnsup)
	return kind
}

func (r *reader) imported() api.Import {
	throwUnless(r.name() == hostName, api.ErrUnsup)
	name := r.name()
	r.fixed(ofFunction, api.ErrUnsup)
	return api.Import{Name: name, Type: r.number()}
}

func (r *reader) table() int {
	if r.count(1) == 0 {
		return 0
	}
	r.fixed(tableByte, api.ErrUnsup)
	r.fixed(noMost, api.ErrUnsup)
	return r.count(api.MaxTable)
}

// memory answers how many pages there are at first, and at most.
func (r *reader) memory() (int, int) {
	if r.count(1) == 0 {
		return 0, 0
	}
	r.fixed(hasMost, api.ErrUnsup)
	pages := r.number()
	most := r.count(api.MaxPages)
	throwUnless(pages <= most, api.ErrForm)
	return pages, most
}

func (r *reader) global() api.Global {
	kind := r.kind()
	mut := r.next()
	throwUnless(mut <= 1, api.ErrForm)
	op := r.next()
	throwUnless(op == api.OpConst32 || op == api.OpConst64, api.ErrUnsup)
	throwUnless(op == constOf(kind), api.ErrForm)
	start := r.signed(bitsOf(kind))
	r.fixed(api.OpEnd, api.ErrForm)
	return api.Global{Kind: kind, Mut: mut == 1, Start: start}
}

func bitsOf(kind api.Kind) int {
	if kind == api.I64 {
		return 64
	}
	return 32
}

func (r *reader) export() api.Export {
	name := r.name()
	r.fixed(ofFunction, api.ErrUnsup)
	return api.Export{Name: name, Func: r.number()}
}

// start answers one more than the number that is read, which must have its place among 32 bits, too.
func (r *reader) start() int {
	n := r.number()
	throwUnless(n < math.MaxUint32, api.ErrForm)
	return n + 1
}

func (r *reader) elem() api.Elem {
	at := r.place()
	return api.Elem{At: at, Funcs: list(r, api.MaxTable, r.number)}
}

func (r *reader) data() api.Data {
	at := r.place()
	bytes := r.piece(r.count(api.MaxChunk))
	// A copy, since a piece of what is read would share its memory.
	return api.Data{At: at, Bytes: strings.Clone(bytes)}
}

// place is where a part of the table or of the memory begins.
func (r *reader) place() int {
	r.fixed(onlyOne, api.ErrUnsup)
	r.fixed(api.OpConst32, api.ErrUnsup)
	at := r.signed(32)
	r.fixed(api.OpEnd, api.ErrForm)
	return int(at)
}

// code is a function but for its type.
func (r *reader) code() api.Func {
	inner := r.inner()
	locals := inner.locals()
	body := inner.body()
	inner.end()
	return api.Func{Locals: locals, Body: body}
}

func (r *reader) locals() []api.Kind {
	var kinds []api.Kind
	for range r.count(maxGroups) {
		size := r.number()
		kind := r.kind()
		throwUnless(len(kinds)+size <= api.MaxLocals, api.ErrLarge)
		kinds = append(kinds, slices.Repeat([]api.Kind{kind}, size)...)
	}
	return kinds
}

// inner reads how many bytes there are, and answers a reader of these alone.
func (r *reader) inner() *reader {
	return &reader{rest: r.piece(r.number())}
}

func (r *reader) end() {
	throwUnless(r.rest == "", api.ErrForm)
}

func (r *reader) piece(size int) string {
	throwUnless(size <= len(r.rest), api.ErrShort)
	piece := r.rest[:size]
	r.rest = r.rest[size:]
	return piece
}

func (r *reader) next() byte {
	return r.piece(1)[0]
}

func (r *reader) fixed(want byte, err api.Errno) {
	throwUnless(r.next() == want, err)
}

// count is a number with a limit.
func (r *reader) count(most int) int {
	n := r.number()
	throwUnless(n <= most, api.ErrLarge)
	return n
}

func (r *reader) number() int {
	n, size, err := leb.ReadU(r.rest, 32)
	r.pass(size, err)
	return int(n)
}

func (r *reader) signed(bits int) int64 {
	n, size, err := leb.ReadS(r.rest, bits)
	r.pass(size, err)
	return n
}

func (r *reader) name() string {
	name, size, err := leb.ReadName(r.rest)
	r.pass(size, err)
	return name
}

func (r *reader) body() []api.Ins {
	body, size, err := nest.Read(r.rest)
	r.pass(size, err)
	return body
}

// pass goes behind what another package has read.
func (r *reader) pass(size int, err api.Errno) {
	throwUnless(err == api.OK, err)
	r.rest = r.rest[size:]
}
