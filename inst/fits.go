package inst

import (
	"troupe/api"
	"troupe/mod"
	"troupe/num"
	"troupe/valid"
)

// Fits answers what is wrong with a module, or else whether an instance of it may have x.
func Fits(m api.Module, x api.Image) api.Errno {
	if err := valid.Module(m); err != api.OK {
		return err
	}
	if !bytesFit(m, x.Mem) || !tableFits(m, x.Table) || !globalsFit(m, x.Globals) {
		return api.ErrArg
	}
	return api.OK
}

func bytesFit(m api.Module, bytes string) bool {
	pages := len(bytes) / api.Page
	return len(bytes)%api.Page == 0 && m.Pages <= pages && pages <= m.Most
}

func tableFits(m api.Module, table []int) bool {
	if len(table) != m.Table {
		return false
	}
	for _, number := range table {
		if number != nobody && !mod.Has(m, number) {
			return false
		}
	}
	return true
}

func globalsFit(m api.Module, values []int64) bool {
	if len(values) != len(m.Globals) {
		return false
	}
	for at, g := range m.Globals {
		if !mayBe(g, values[at]) {
			return false
		}
	}
	return true
}

// mayBe tells whether g may ever be n: only one that can be set may be another than it was at first.
func mayBe(g api.Global, n int64) bool {
	if !g.Mut {
		return n == g.Start
	}
	return num.Fit(g.Kind, n) == n
}
