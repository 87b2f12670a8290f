package play

import (
	"slices"

	"troupe/api"
	"troupe/mod"
)

// nobody stands in a place of a table in which there is no function.
const nobody = -1

// call is a call under way: what it has for itself, and the instance.
type call struct {
	*Instance
	own    int // which of the module's own functions was called
	at     int // the place of the next instruction
	locals []int64
	stack  []int64
}

// told answers what the call has, with memory of its own.
func (c *call) told() api.Call {
	return api.Call{Func: c.own, At: c.at, Locals: slices.Clone(c.locals), Stack: slices.Clone(c.stack)}
}

// next does the next instruction.
func (c *call) next() {
	do := c.bodies[c.own][c.at]
	c.at++ // ahead of what is done, which may lead elsewhere
	do(c)
}

// rest ends a piece of the run ahead of the instruction that was come to, which is not done.
func (c *call) rest() {
	c.at--
	c.out = api.Out{End: api.EndFuel}
}

func (c *call) give(vals ...int64) {
	c.stack = append(c.stack, vals...)
}

func (c *call) take() int64 {
	last := len(c.stack) - 1
	n := c.stack[last]
	c.stack = c.stack[:last]
	return n
}

// takeAll takes the topmost values, and answers them, the topmost last, with memory of their own.
func (c *call) takeAll(count int) []int64 {
	left := len(c.stack) - count
	vals := slices.Clone(c.stack[left:])
	c.stack = c.stack[:left]
	return vals
}

// takePlace takes a number that counts places: it has no sign.
func (c *call) takePlace() int {
	return int(uint32(c.take()))
}

// settle gives what came of an instruction, or ends all with its error.
func (c *call) settle(n int64, err api.Errno) {
	if err != api.OK {
		c.trap(err)
		return
	}
	c.give(n)
}

// follow goes a way.
func (c *call) follow(way api.Jump) {
	kept := c.takeAll(way.Keep)
	c.stack = append(c.stack[:way.Height], kept...)
	c.at = way.At
}

// choose goes the way with that number, or the last one, if there are not so many.
func (c *call) choose(ways []api.Jump, number int) {
	c.follow(ways[min(number, len(ways)-1)])
}

// invoke lets the function with that number take its values: what it gives is given as soon as it has come to its end, or the answer has come.
func (c *call) invoke(number int) {
	vals := c.takeAll(len(c.typeOf(number).In))
	own := number - len(c.module.Imports)
	if own < 0 {
		c.ask(number, vals)
		return
	}
	c.enter(own, vals)
}

// invokeAt is invoke of the function at a place of the table, if that is one of such a type.
func (c *call) invokeAt(place int, s api.Sig) {
	if place >= len(c.table) || c.table[place] == nobody {
		c.trap(api.ErrElement)
		return
	}
	number := c.table[place]
	if !mod.Same(c.typeOf(number), s) {
		c.trap(api.ErrMatch)
		return
	}
	c.invoke(number)
}
