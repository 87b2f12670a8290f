package probe

import "troupe/api"

// SpoilLongs writes over all numbers of a list, the room behind it included.
func SpoilLongs(list []int64) {
	for at := range Wide(list) {
		Wide(list)[at] = fill
	}
}

// SpoilModule writes over all that the lists of m have, the room behind them included.
func SpoilModule(m api.Module) {
	for _, s := range m.Types {
		clear(Wide(s.In))
		clear(Wide(s.Out))
	}
	for _, f := range m.Funcs {
		spoilFunc(f)
	}
	for _, e := range m.Elems {
		clear(Wide(e.Funcs))
	}
	clear(Wide(m.Types))
	clear(Wide(m.Imports))
	clear(Wide(m.Funcs))
	clear(Wide(m.Globals))
	clear(Wide(m.Exports))
	clear(Wide(m.Elems))
	clear(Wide(m.Data))
}

func spoilFunc(f api.Func) {
	for _, x := range f.Body {
		clear(Wide(x.To))
	}
	clear(Wide(f.Locals))
	clear(Wide(f.Body))
}

// SpoilImage writes over all that the lists of x have, the room behind them included.
func SpoilImage(x api.Image) {
	SpoilLongs(x.Globals)
	for at := range Wide(x.Table) {
		Wide(x.Table)[at] = fill
	}
}

// SpoilState writes over all that the lists of s have, the room behind them included.
func SpoilState(s api.State) {
	for _, c := range s.Calls {
		SpoilLongs(c.Locals)
		SpoilLongs(c.Stack)
	}
	clear(Wide(s.Calls))
}
