// Package mod: what several packages ask of a module.
package mod

import (
	"slices"

	"troupe/api"
)

// Has tells whether a function of m, from outside or its own, has that number.
func Has(m api.Module, number int) bool {
	return 0 <= number && number < len(m.Imports)+len(m.Funcs)
}

// TypeOf answers the type of the function with that number: both must be there.
func TypeOf(m api.Module, number int) api.Sig {
	if number < len(m.Imports) {
		return m.Types[m.Imports[number].Type]
	}
	return m.Types[m.Funcs[number-len(m.Imports)].Type]
}

// Same tells whether two types take the same and give the same.
func Same(s, other api.Sig) bool {
	return slices.Equal(s.In, other.In) && slices.Equal(s.Out, other.Out)
}

// Clone answers the same module with memory of its own.
func Clone(m api.Module) api.Module {
	m.Types = cloneAll(m.Types, cloneSig)
	m.Imports = slices.Clone(m.Imports)
	m.Funcs = cloneAll(m.Funcs, cloneFunc)
	m.Globals = slices.Clone(m.Globals)
	m.Exports = slices.Clone(m.Exports)
	m.Elems = cloneAll(m.Elems, cloneElem)
	m.Data = slices.Clone(m.Data)
	return m
}

func cloneAll[T any](list []T, clone func(T) T) []T {
	all := make([]T, len(list))
	for at, x := range list {
		all[at] = clone(x)
	}
	return all
}

func cloneSig(s api.Sig) api.Sig {
	return api.Sig{In: slices.Clone(s.In), Out: slices.Clone(s.Out)}
}

func cloneFunc(f api.Func) api.Func {
	f.Locals = slices.Clone(f.Locals)
	f.Body = CloneBody(f.Body)
	return f
}

// CloneBody answers the same instructions with memory of their own.
func CloneBody(l []api.Ins) []api.Ins {
	return cloneAll(l, cloneIns)
}

func cloneIns(x api.Ins) api.Ins {
	x.To = slices.Clone(x.To)
	return x
}

func cloneElem(e api.Elem) api.Elem {
	e.Funcs = slices.Clone(e.Funcs)
	return e
}
