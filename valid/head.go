package valid

import (
	"troupe/api"
	"troupe/bin"
	"troupe/mod"
)

// Head answers what is wrong with a module, but for what its bodies do.
func Head(m api.Module) api.Errno {
	if err := bin.Check(m); err != api.OK {
		return err
	}
	if !typesAreThere(m) {
		return api.ErrIndex
	}
	if err := checkExports(m); err != api.OK {
		return err
	}
	if err := checkStart(m); err != api.OK {
		return err
	}
	if !elemsAreThere(m) || !dataAreThere(m) {
		return api.ErrIndex
	}
	return api.OK
}

func typesAreThere(m api.Module) bool {
	for _, i := range m.Imports {
		if i.Type >= len(m.Types) {
			return false
		}
	}
	for _, f := range m.Funcs {
		if f.Type >= len(m.Types) {
			return false
		}
	}
	return true
}

func checkExports(m api.Module) api.Errno {
	for at, e := range m.Exports {
		if !mod.Has(m, e.Func) {
			return api.ErrIndex
		}
		for _, other := range m.Exports[:at] {
			if other.Name == e.Name {
				return api.ErrName
			}
		}
	}
	return api.OK
}

// checkStart needs the types to be there.
func checkStart(m api.Module) api.Errno {
	if m.Start == 0 {
		return api.OK
	}
	if !mod.Has(m, m.Start-1) {
		return api.ErrIndex
	}
	if s := mod.TypeOf(m, m.Start-1); len(s.In)+len(s.Out) > 0 {
		return api.ErrType
	}
	return api.OK
}

func elemsAreThere(m api.Module) bool {
	for _, e := range m.Elems {
		if m.Table == 0 {
			return false
		}
		for _, number := range e.Funcs {
			if !mod.Has(m, number) {
				return false
			}
		}
	}
	return true
}

func dataAreThere(m api.Module) bool {
	return m.Most > 0 || len(m.Data) == 0
}
