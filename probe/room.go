package probe

import "troupe/api"

// fill stands in the room behind lists of numbers.
const fill = 99

// Roomy answers a list with memory of its own, and room behind it in which other stands.
func Roomy[T any](list []T, other T) []T {
	all := make([]T, len(list)+3)
	for at := range all {
		all[at] = other
	}
	copy(all, list)
	return all[:len(list)]
}

// Wide answers a list with the room behind it as a part of it.
func Wide[T any](list []T) []T {
	return list[:cap(list)]
}

func all[T any](list []T, one func(T) T) []T {
	var done []T
	for _, x := range list {
		done = append(done, one(x))
	}
	return done
}

// RoomyModule answers m with memory of its own, and room behind each list.
func RoomyModule(m api.Module) api.Module {
	m.Types = Roomy(all(m.Types, roomySig), api.Sig{In: Kinds(fill)})
	m.Imports = Roomy(m.Imports, api.Import{Type: fill})
	m.Funcs = Roomy(all(m.Funcs, roomyFunc), api.Func{Type: fill})
	m.Globals = Roomy(m.Globals, api.Global{Kind: fill})
	m.Exports = Roomy(m.Exports, api.Export{Func: fill})
	m.Elems = Roomy(all(m.Elems, roomyElem), api.Elem{At: fill})
	m.Data = Roomy(m.Data, api.Data{At: fill})
	return m
}

func roomySig(s api.Sig) api.Sig {
	return api.Sig{In: Roomy(s.In, fill), Out: Roomy(s.Out, fill)}
}

func roomyFunc(f api.Func) api.Func {
	list := all(f.Body, roomyIns)
	return api.Func{Type: f.Type, Locals: Roomy(f.Locals, fill), Body: Roomy(list, api.Ins{Op: fill})}
}

func roomyIns(x api.Ins) api.Ins {
	x.To = Roomy(x.To, fill)
	return x
}

func roomyElem(e api.Elem) api.Elem {
	return api.Elem{At: e.At, Funcs: Roomy(e.Funcs, fill)}
}

// WideModule answers m with the room behind each list as a part of it.
func WideModule(m api.Module) api.Module {
	m.Types = all(Wide(m.Types), wideSig)
	m.Imports = Wide(m.Imports)
	m.Funcs = all(Wide(m.Funcs), wideFunc)
	m.Globals = Wide(m.Globals)
	m.Exports = Wide(m.Exports)
	m.Elems = all(Wide(m.Elems), wideElem)
	m.Data = Wide(m.Data)
	return m
}

func wideSig(s api.Sig) api.Sig {
	return api.Sig{In: Wide(s.In), Out: Wide(s.Out)}
}

func wideFunc(f api.Func) api.Func {
	return api.Func{Type: f.Type, Locals: Wide(f.Locals), Body: all(Wide(f.Body), wideIns)}
}

func wideIns(x api.Ins) api.Ins {
	x.To = Wide(x.To)
	return x
}

func wideElem(e api.Elem) api.Elem {
	return api.Elem{At: e.At, Funcs: Wide(e.Funcs)}
}

// RoomyImage answers x with memory of its own, and room behind each list.
func RoomyImage(x api.Image) api.Image {
	return api.Image{Mem: x.Mem, Table: Roomy(x.Table, fill), Globals: Roomy(x.Globals, fill)}
}

// WideImage answers x with the room behind each list as a part of it.
func WideImage(x api.Image) api.Image {
	return api.Image{Mem: x.Mem, Table: Wide(x.Table), Globals: Wide(x.Globals)}
}

// RoomyState answers s with memory of its own, and room behind each list.
func RoomyState(s api.State) api.State {
	return api.State{Calls: Roomy(all(s.Calls, roomyCall), api.Call{Func: fill}), Host: s.Host}
}

func roomyCall(c api.Call) api.Call {
	c.Locals, c.Stack = Roomy(c.Locals, fill), Roomy(c.Stack, fill)
	return c
}

// WideState answers s with the room behind each list as a part of it.
func WideState(s api.State) api.State {
	return api.State{Calls: all(Wide(s.Calls), wideCall), Host: s.Host}
}

func wideCall(c api.Call) api.Call {
	c.Locals, c.Stack = Wide(c.Locals), Wide(c.Stack)
	return c
}
