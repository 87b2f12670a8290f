package valid

import (
	"math/bits"
	"slices"

	"troupe/api"
	"troupe/ins"
	"troupe/mod"
)

// step answers why the next instruction isn't sound, and goes past it if it is.
func (t *track) step(x api.Ins) api.Errno {
	if !t.isThere(x) {
		return api.ErrIndex
	}
	if isSkew(x) {
		return api.ErrAlign
	}
	t.need(t.isAllowed(x))
	t.pass(x)
	if t.wrong {
		return api.ErrType
	}
	return api.OK
}

// isThere tells whether all that an instruction names is there.
func (t *track) isThere(x api.Ins) bool {
	m := t.module
	switch x.Op {
	case api.OpBr, api.OpBrIf, api.OpBrTable:
		return t.leads(x.A) && !slices.ContainsFunc(x.To, func(far int64) bool { return !t.leads(far) })
	case api.OpCall:
		return mod.Has(m, int(x.A))
	case api.OpCallIndirect:
		return m.Table > 0 && isIn(m.Types, x.A)
	case api.OpLocalGet, api.OpLocalSet, api.OpLocalTee:
		return isIn(t.locals, x.A)
	case api.OpGlobalGet, api.OpGlobalSet:
		return isIn(m.Globals, x.A)
	case api.OpMemSize, api.OpMemGrow:
		return m.Most > 0
	}
	return ins.Width(x.Op) == 0 || m.Most > 0
}

// leads tells whether a way that goes so far out leads to a block that is open, or to the body itself.
func (t *track) leads(far int64) bool {
	return isIn(t.open, far)
}

// isIn tells whether a list has an element with that number, which is at least 0.
func isIn[T any](list []T, number int64) bool {
	return number < int64(len(list))
}

// isSkew tells whether a load or store is aligned to more bytes than it moves: widths are powers of two.
func isSkew(x api.Ins) bool {
	width := ins.Width(x.Op)
	return width > 0 && x.A > int64(bits.TrailingZeros(uint(width)))
}

// isAllowed tells whether an instruction may stand here as far as that doesn't hang on the stack.
func (t *track) isAllowed(x api.Ins) bool {
	switch x.Op {
	case api.OpGlobalSet:
		return t.module.Globals[x.A].Mut
	case api.OpBrTable:
		along := t.out(x.A).along()
		return !slices.ContainsFunc(x.To, func(far int64) bool { return !slices.Equal(t.out(far).along(), along) })
	}
	return true
}

// pass goes past an instruction.
func (t *track) pass(x api.Ins) {
	switch x.Op {
	case api.OpDrop:
		t.take(anyKind)
	case api.OpSelect:
		t.choose()
	case api.OpElse:
		t.turn()
	case api.OpEnd:
		t.leave()
	default:
		takes, gives := t.effect(x)
		t.takeAll(takes)
		t.give(gives...)
	}
	switch x.Op {
	case api.OpBlock, api.OpLoop, api.OpIf:
		t.enter(x.Op, api.Kind(x.A))
	case api.OpUnreachable, api.OpBr, api.OpBrTable, api.OpReturn:
		t.die()
	}
}

// effect answers what an instruction takes, the topmost last, and what it gives, where that can be told without the stack.
func (t *track) effect(x api.Ins) ([]api.Kind, []api.Kind) {
	switch x.Op {
	case api.OpIf:
		return []api.Kind{api.I32}, nil
	case api.OpBr:
		return t.out(x.A).along(), nil
	case api.OpBrIf:
		along := t.out(x.A).along()
		return andNumber(along), along
	case api.OpBrTable:
		return andNumber(t.out(x.A).along()), nil
	case api.OpReturn:
		return t.open[0].along(), nil
	case api.OpCall:
		s := mod.TypeOf(t.module, int(x.A))
		return s.In, s.Out
	case api.OpCallIndirect:
		s := t.module.Types[x.A]
		return andNumber(s.In), s.Out
	case api.OpLocalGet, api.OpLocalSet, api.OpLocalTee:
		return effectOn(t.locals[x.A], x.Op)
	case api.OpGlobalGet, api.OpGlobalSet:
		return effectOn(t.module.Globals[x.A].Kind, x.Op)
	}
	takes, gives, _ := ins.Plain(x.Op)
	return takes, gives
}

// andNumber is kinds with an I32 above them, as a list of its own.
func andNumber(kinds []api.Kind) []api.Kind {
	return slices.Concat(kinds, []api.Kind{api.I32})
}

// effectOn is effect of what gets or sets a value of that kind.
func effectOn(kind api.Kind, op byte) ([]api.Kind, []api.Kind) {
	value := []api.Kind{kind}
	switch op {
	case api.OpLocalGet, api.OpGlobalGet:
		return nil, value
	case api.OpLocalTee:
		return value, value
	}
	return value, nil
}
