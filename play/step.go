package play

import (
	"troupe/api"
	"troupe/ins"
	"troupe/num"
)

// step is what an instruction does: it keeps what stands beside the instruction, and its ways.
type step func(c *call)

// stepsOf answers a sound body as steps.
func stepsOf(list []api.Ins, spots []api.Spot) []step {
	steps := make([]step, len(list))
	for at, x := range list {
		steps[at] = stepOf(x, spots[at].To)
	}
	steps[len(list)-1] = (*call).leave // the body's own end
	return steps
}

func stepOf(x api.Ins, ways []api.Jump) step {
	switch x.Op {
	case api.OpElse:
		return goOn(ways)
	case api.OpEnd:
		return nothing
	}
	return paid(deedOf(x, ways))
}

// paid is do for one of the fuel.
func paid(do step) step {
	return func(c *call) {
		if c.fuel == 0 {
			c.rest()
			return
		}
		c.fuel--
		do(c)
	}
}

func nothing(*call) {}

// goOn goes the only way. An instruction that is dead has none, but is never come to: so ways are asked for no sooner than they are gone.
func goOn(ways []api.Jump) step {
	return func(c *call) { c.follow(ways[0]) }
}

// goOnIf takes a number, and goes the only way if the number is 0, or if it isn't.
func goOnIf(ways []api.Jump, zero bool) step {
	return func(c *call) {
		if (c.take() == 0) == zero {
			c.follow(ways[0])
		}
	}
}

// deedOf answers what an instruction does that costs.
func deedOf(x api.Ins, ways []api.Jump) step {
	switch x.Op {
	case api.OpUnreachable:
		return func(c *call) { c.trap(api.ErrUnreachable) }
	case api.OpNop, api.OpBlock, api.OpLoop:
		return nothing
	case api.OpIf:
		return goOnIf(ways, true)
	case api.OpBrIf:
		return goOnIf(ways, false)
	case api.OpBr, api.OpReturn:
		return goOn(ways)
	case api.OpBrTable:
		return func(c *call) { c.choose(ways, c.takePlace()) }
	case api.OpCall:
		return func(c *call) { c.invoke(int(x.A)) }
	case api.OpCallIndirect:
		return func(c *call) { c.invokeAt(c.takePlace(), c.module.Types[x.A]) }
	}
	return moveOf(x)
}

// moveOf answers what an instruction does that gives or takes values as they are.
func moveOf(x api.Ins) step {
	switch x.Op {
	case api.OpDrop:
		return func(c *call) { c.take() }
	case api.OpSelect:
		return pickOne
	case api.OpLocalGet:
		return func(c *call) { c.give(c.locals[x.A]) }
	case api.OpLocalSet:
		return func(c *call) { c.locals[x.A] = c.take() }
	case api.OpLocalTee:
		return func(c *call) {
			c.locals[x.A] = c.take()
			c.give(c.locals[x.A])
		}
	case api.OpGlobalGet:
		return func(c *call) { c.give(c.globals[x.A]) }
	case api.OpGlobalSet:
		return func(c *call) { c.globals[x.A] = c.take() }
	case api.OpConst32, api.OpConst64:
		return func(c *call) { c.give(x.A) }
	}
	return memoryOf(x)
}

// pickOne is what a select does.
func pickOne(c *call) {
	vals := c.takeAll(3)
	if vals[2] != 0 {
		c.give(vals[0])
		return
	}
	c.give(vals[1])
}

// memoryOf answers what an instruction does that asks for the memory.
func memoryOf(x api.Ins) step {
	switch {
	case x.Op == api.OpMemSize:
		return func(c *call) { c.give(int64(c.Memory.Size())) }
	case x.Op == api.OpMemGrow:
		return func(c *call) { c.give(c.Memory.Grow(c.take())) }
	case ins.Width(x.Op) == 0:
		return reckonOf(x.Op)
	}
	_, gives, _ := ins.Plain(x.Op)
	if len(gives) > 0 {
		return func(c *call) { c.settle(c.Memory.Load(x.Op, c.take(), x.B)) }
	}
	return storeOf(x)
}

func storeOf(x api.Ins) step {
	return func(c *call) {
		vals := c.takeAll(2)
		if err := c.Memory.Store(x.Op, vals[0], x.B, vals[1]); err != api.OK {
			c.trap(err)
		}
	}
}

// reckonOf answers what an instruction does that makes a number of one or two.
func reckonOf(op byte) step {
	takes, _, _ := ins.Plain(op)
	if len(takes) == 1 {
		return func(c *call) { c.settle(num.One(op, c.take())) }
	}
	return func(c *call) {
		vals := c.takeAll(2)
		c.settle(num.Two(op, vals[0], vals[1]))
	}
}
