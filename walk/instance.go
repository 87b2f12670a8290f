package walk

import (
	"slices"

	"troupe/api"
	"troupe/flat"
	"troupe/mem"
)

// underWay is the end of what has not ended.
const underWay = 0

// instance is what all calls in one another share.
type instance struct {
	module  api.Module
	bodies  [][]step
	memory  *mem.Mem
	table   []int
	globals []int64
	answers []int64 // those that have not gone by
	asks    []api.Ask
	calls   int // how many are under way in one another
	fuel    int
	end     int
	why     api.Errno
}

// newInstance needs a module that x fits.
func newInstance(m api.Module, x api.Image, answers []int64, fuel int) *instance {
	memory, _ := mem.Of(x.Mem, m.Most) // what fits is a memory
	return &instance{
		module:  m,
		bodies:  bodiesOf(m),
		memory:  memory,
		table:   slices.Clone(x.Table),
		globals: slices.Clone(x.Globals),
		answers: answers,
		fuel:    fuel,
	}
}

// bodiesOf answers the steps of each of a sound module's own functions.
func bodiesOf(m api.Module) [][]step {
	whole, _ := flat.Whole(m)
	bodies := make([][]step, len(whole))
	for own, spots := range whole {
		bodies[own] = stepsOf(m.Funcs[own].Body, spots)
	}
	return bodies
}

func (i *instance) typeOf(number int) api.Sig {
	return typeOf(i.module, number)
}

// stop ends all calls that are under way: each looks for that ahead of its next instruction.
func (i *instance) stop(end int, why api.Errno) {
	i.end, i.why = end, why
}

func (i *instance) trap(why api.Errno) {
	i.stop(api.EndTrap, why)
}

// enter calls one of the module's own functions, and answers what it gives, which counts only if all goes on.
func (i *instance) enter(own int, vals []int64) []int64 {
	if i.calls == api.MaxCalls {
		i.trap(api.ErrStack)
		return nil
	}
	zeros := make([]int64, len(i.module.Funcs[own].Locals))
	c := &call{instance: i, steps: i.bodies[own], locals: slices.Concat(vals, zeros)}
	i.calls++
	c.walk()
	i.calls--
	return c.stack
}

// ask asks a function from outside, and answers what that gives.
func (i *instance) ask(number int, vals []int64) []int64 {
	i.asks = append(i.asks, api.Ask{Host: number, Vals: vals})
	answer := i.nextAnswer() // one goes by even if the function gives nothing
	return fitted(i.typeOf(number).Out, []int64{answer})
}

func (i *instance) nextAnswer() int64 {
	if len(i.answers) == 0 {
		return 0
	}
	answer := i.answers[0]
	i.answers = i.answers[1:]
	return answer
}

// out answers how all ended, if vals are what the first call gave.
func (i *instance) out(vals []int64) api.Out {
	if i.end == underWay {
		return api.Out{End: api.EndDone, Vals: vals, Left: i.fuel}
	}
	return api.Out{End: i.end, Trap: i.why, Left: i.fuel}
}

func (i *instance) image() api.Image {
	return api.Image{Mem: i.memory.All(), Table: i.table, Globals: i.globals}
}
