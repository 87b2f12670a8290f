package valid

import (
	"slices"

	"troupe/api"
)

// anyKind is that of a value that is of whatever kind is asked for: in a dead part such values are given and taken.
const anyKind api.Kind = 0

// block is a block that is open.
type block struct {
	op    byte // what opened it: of an if behind its else, else; of the body itself, block
	kinds []api.Kind
	base  int // how many values lie below its own part of the stack
	dead  bool
}

// along answers what a way out that leads to b takes along.
func (b block) along() []api.Kind {
	if b.op == api.OpLoop {
		return nil
	}
	return b.kinds
}

// kindsOf answers the values that a block of that kind gives.
func kindsOf(kind api.Kind) []api.Kind {
	if kind == api.NoKind {
		return nil
	}
	return []api.Kind{kind}
}

// track is what is known while a body is gone through.
type track struct {
	module api.Module
	locals []api.Kind
	stack  []api.Kind
	open   []block // the body itself first
	wrong  bool    // something that was taken wasn't there, or was of another kind
}

// begin answers what is known ahead of the first instruction of a function, whose type must be there.
func begin(m api.Module, f api.Func) *track {
	s := m.Types[f.Type]
	return &track{
		module: m,
		locals: slices.Concat(s.In, f.Locals),
		open:   []block{{op: api.OpBlock, kinds: s.Out}},
	}
}

// shape answers what is known now, with memory of its own.
func (t *track) shape() api.Shape {
	if slices.ContainsFunc(t.open, func(b block) bool { return b.dead }) {
		return api.Shape{Dead: true}
	}
	return api.Shape{Stack: slices.Clone(t.stack)}
}

// inner answers the innermost block that is open.
func (t *track) inner() *block {
	return &t.open[len(t.open)-1]
}

// out answers the block to which a way leads that goes so far out.
func (t *track) out(far int64) block {
	return t.open[len(t.open)-1-int(far)]
}

func (t *track) need(holds bool) {
	if !holds {
		t.wrong = true
	}
}

// take takes the topmost value of the innermost block's part, which must be of that kind, and answers of which kind it is as far as that is known now.
func (t *track) take(kind api.Kind) api.Kind {
	b, last := t.inner(), len(t.stack)-1
	if last < b.base {
		t.need(b.dead)
		return kind
	}
	found := t.stack[last]
	t.stack = t.stack[:last]
	if kind == anyKind {
		return found
	}
	t.need(found == kind || found == anyKind)
	return kind
}

// takeAll takes these, the last one first.
func (t *track) takeAll(kinds []api.Kind) {
	for _, kind := range slices.Backward(kinds) {
		t.take(kind)
	}
}

func (t *track) give(kinds ...api.Kind) {
	t.stack = append(t.stack, kinds...)
}

// choose goes past a select: if it is known of one of the two values of which kind it is, the other one must be so, too.
func (t *track) choose() {
	t.take(api.I32)
	kind := t.take(anyKind)
	t.give(t.take(kind))
}

// die makes the rest of the innermost block dead.
func (t *track) die() {
	b := t.inner()
	t.stack = t.stack[:b.base]
	b.dead = true
}

func (t *track) enter(op byte, kind api.Kind) {
	t.open = append(t.open, block{op: op, kinds: kindsOf(kind), base: len(t.stack)})
}

// finish takes what the innermost block gives, beside which there must be nothing on its part of the stack.
func (t *track) finish() {
	b := t.inner()
	t.takeAll(b.kinds)
	t.need(len(t.stack) == b.base)
}

// turn goes past an else.
func (t *track) turn() {
	t.finish()
	b := t.inner()
	b.op, b.dead = api.OpElse, false
}

// leave goes past an end.
func (t *track) leave() {
	t.finish()
	b := t.inner()
	// Without an else nothing is given if the number is 0.
	t.need(b.op != api.OpIf || len(b.kinds) == 0)
	t.open = t.open[:len(t.open)-1]
	t.give(b.kinds...)
}
