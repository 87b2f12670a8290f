package bin

import (
	"math"

	"troupe/api"
	"troupe/leb"
	"troupe/nest"
)

// Check answers what is wrong with the first part of a module that can't be told.
func Check(m api.Module) api.Errno {
	var c checker
	c.module(m)
	return c.err
}

// checker keeps the first error: what is looked at behind that one counts for nothing.
type checker struct {
	err api.Errno
}

func (c *checker) need(holds bool, err api.Errno) {
	if c.err == api.OK && !holds {
		c.err = err
	}
}

// each hands the elements of a list over to look, unless there are too many.
func each[T any](c *checker, list []T, most int, look func(T)) {
	c.need(len(list) <= most, api.ErrLarge)
	for _, x := range list {
		if c.err != api.OK {
			return
		}
		look(x)
	}
}

func (c *checker) module(m api.Module) {
	each(c, m.Types, api.MaxTypes, c.sig)
	each(c, m.Imports, api.MaxImports, c.imported)
	each(c, m.Funcs, api.MaxFuncs, c.function)
	c.need(m.Table >= 0, api.ErrArg)
	c.need(m.Table <= api.MaxTable, api.ErrLarge)
	c.need(0 <= m.Pages && m.Pages <= m.Most, api.ErrArg)
	c.need(m.Most <= api.MaxPages, api.ErrLarge)
	each(c, m.Globals, api.MaxGlobals, c.global)
	each(c, m.Exports, api.MaxExports, c.export)
	c.number(m.Start)
	each(c, m.Elems, api.MaxElems, c.elem)
	each(c, m.Data, api.MaxData, c.data)
}

func (c *checker) sig(s api.Sig) {
	each(c, s.In, api.MaxIn, c.kind)
	each(c, s.Out, maxOut, c.kind)
}

func (c *checker) kind(kind api.Kind) {
	c.need(isKind(kind), api.ErrArg)
}

func (c *checker) imported(i api.Import) {
	c.name(i.Name)
	c.number(i.Type)
}

func (c *checker) function(f api.Func) {
	c.number(f.Type)
	each(c, f.Locals, api.MaxLocals, c.kind)
	err := nest.Check(f.Body)
	c.need(err == api.OK, err)
}

func (c *checker) global(g api.Global) {
	c.kind(g.Kind)
	c.need(g.Kind == api.I64 || is32(g.Start), api.ErrArg)
}

func (c *checker) export(e api.Export) {
	c.name(e.Name)
	c.number(e.Func)
}

func (c *checker) elem(e api.Elem) {
	c.need(is32(int64(e.At)), api.ErrArg)
	each(c, e.Funcs, api.MaxTable, c.number)
}

func (c *checker) data(d api.Data) {
	c.need(is32(int64(d.At)), api.ErrArg)
	c.need(len(d.Bytes) <= api.MaxChunk, api.ErrLarge)
}

func (c *checker) name(s string) {
	_, err := leb.Name(s)
	c.need(err == api.OK, err)
}

// number looks at the number of a type or a function, which need not be there.
func (c *checker) number(n int) {
	c.need(0 <= n && n <= math.MaxUint32, api.ErrArg)
}

func is32(n int64) bool {
	return math.MinInt32 <= n && n <= math.MaxInt32
}
