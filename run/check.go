package run

import (
	"slices"

	"troupe/api"
	"troupe/inst"
	"troupe/mod"
	"troupe/num"
	"troupe/valid"
)

// nobody is the number of no function.
const nobody = -1

// Check answers what is wrong with a module or an image, or else whether s may be the state of a machine of the module.
func Check(m api.Module, x api.Image, s api.State) api.Errno {
	if err := inst.Fits(m, x); err != api.OK {
		return err
	}
	if len(s.Calls) > api.MaxCalls {
		return api.ErrLarge
	}
	if !mayBe(m, s) {
		return api.ErrArg
	}
	return api.OK
}

// mayBe needs a sound module.
func mayBe(m api.Module, s api.State) bool {
	if s.Host < 0 || s.Host > len(m.Imports) || s.Host > 0 && len(s.Calls) == 0 {
		return false
	}
	awaited := s.Host - 1 // nobody, if no answer is waited for
	for _, c := range slices.Backward(s.Calls) {
		if !fits(m, c, awaited) {
			return false
		}
		awaited = len(m.Imports) + c.Func
	}
	return true
}

// fits tells whether c may be a call of a sound module that has called the function with the number awaited, or nobody.
func fits(m api.Module, c api.Call, awaited int) bool {
	shapes, err := valid.Shapes(m, c.Func) // an error, if there is no such function
	if err != api.OK || c.At < 0 || c.At >= len(shapes) || shapes[c.At].Dead {
		return false
	}
	f, stack := m.Funcs[c.Func], shapes[c.At].Stack
	if awaited != nobody {
		if c.At == 0 || !mayCall(m, f.Body[c.At-1], awaited) {
			return false
		}
		given := len(mod.TypeOf(m, awaited).Out)
		stack = stack[:len(stack)-given]
	}
	locals := slices.Concat(m.Types[f.Type].In, f.Locals)
	return areOf(locals, c.Locals) && areOf(stack, c.Stack)
}

// mayCall tells whether an instruction may call the function with that number. Of a call_indirect its type alone is asked, whatever stands in the table.
func mayCall(m api.Module, x api.Ins, number int) bool {
	switch x.Op {
	case api.OpCall:
		return x.A == int64(number)
	case api.OpCallIndirect:
		return mod.Same(m.Types[x.A], mod.TypeOf(m, number))
	}
	return false
}

// areOf tells whether the values are of the kinds.
func areOf(kinds []api.Kind, values []int64) bool {
	return slices.EqualFunc(kinds, values, func(kind api.Kind, n int64) bool { return num.Fit(kind, n) == n })
}
