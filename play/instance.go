// Package play: instances, and the calls that are under way on them: what packages walk and run share.
package play

import (
	"slices"

	"troupe/api"
	"troupe/flat"
	"troupe/mem"
	"troupe/mod"
	"troupe/num"
)

// underWay is the end of what has not ended.
const underWay = 0

// Instance is what all calls in one another share, and these calls. All that it has is its own.
type Instance struct {
	Memory  *mem.Mem
	module  api.Module
	bodies  [][]step
	table   []int
	globals []int64
	calls   []*call // the innermost last
	host    int     // 1 more than the number of the import whose answer is waited for; 0: none
	fuel    int
	out     api.Out // how Go ends, as soon as that is known
}

// New answers an instance that has x, with nothing under way. It needs a sound module that x fits.
func New(m api.Module, x api.Image) *Instance {
	m = mod.Clone(m)
	memory, _ := mem.Of(x.Mem, m.Most) // what fits is a memory
	return &Instance{
		Memory:  memory,
		module:  m,
		bodies:  bodiesOf(m),
		table:   slices.Clone(x.Table),
		globals: slices.Clone(x.Globals),
	}
}

// Resume is New with these calls under way. It needs a state that an instance of the module can have.
func Resume(m api.Module, x api.Image, s api.State) *Instance {
	i := New(m, x)
	for _, c := range s.Calls {
		i.calls = append(i.calls, &call{
			Instance: i,
			own:      c.Func,
			at:       c.At,
			locals:   slices.Clone(c.Locals),
			stack:    slices.Clone(c.Stack),
		})
	}
	i.host = s.Host
	return i
}

// bodiesOf answers the steps of each of a sound module's own functions.
func bodiesOf(m api.Module) [][]step {
	whole, _ := flat.Whole(m)
	bodies := make([][]step, len(whole))
	for own, spots := range whole {
		bodies[own] = stepsOf(m.Funcs[own].Body, spots)
	}
	return bodies
}

func (i *Instance) typeOf(number int) api.Sig {
	return mod.TypeOf(i.module, number)
}

// IsIdle tells whether no call is under way.
func (i *Instance) IsIdle() bool {
	return len(i.calls) == 0
}

// Waits tells whether an answer is waited for.
func (i *Instance) Waits() bool {
	return i.host != 0
}

// Start calls the function with that number, if it is one of the module's own, and takes so many values. It needs an idle instance.
func (i *Instance) Start(number int, args []int64) api.Errno {
	if !mod.Has(i.module, number) || number < len(i.module.Imports) {
		return api.ErrIndex
	}
	in := i.typeOf(number).In
	if len(args) != len(in) {
		return api.ErrArg
	}
	i.enter(number-len(i.module.Imports), fitted(in, args))
	return api.OK
}

// fitted answers as many values as there are kinds, each as one of its kind.
func fitted(kinds []api.Kind, values []int64) []int64 {
	list := make([]int64, len(kinds))
	for at, kind := range kinds {
		list[at] = num.Fit(kind, values[at])
	}
	return list
}

// Go does one instruction behind the other, until that ends. It needs a call under way, and no answer that is waited for.
func (i *Instance) Go(fuel int) api.Out {
	i.fuel = fuel
	for i.out.End == underWay {
		i.inner().next()
	}
	out := i.out
	out.Left = i.fuel
	i.out = api.Out{}
	return out
}

// Answer gives what the import gives whose answer is waited for; that must be so.
func (i *Instance) Answer(n int64) {
	out := i.typeOf(i.host - 1).Out
	i.host = 0
	i.inner().give(fitted(out, []int64{n})...)
}

// inner answers the innermost call.
func (i *Instance) inner() *call {
	return i.calls[len(i.calls)-1]
}

// enter calls one of the module's own functions.
func (i *Instance) enter(own int, vals []int64) {
	if len(i.calls) == api.MaxCalls {
		i.trap(api.ErrStack)
		return
	}
	zeros := make([]int64, len(i.module.Funcs[own].Locals))
	i.calls = append(i.calls, &call{Instance: i, own: own, locals: slices.Concat(vals, zeros)})
}

// leave ends the innermost call, and gives what is on its stack.
func (i *Instance) leave() {
	vals := i.inner().stack
	i.calls = i.calls[:len(i.calls)-1]
	if i.IsIdle() {
		i.out = api.Out{End: api.EndDone, Vals: vals}
		return
	}
	i.inner().give(vals...)
}

// ask asks a function from outside.
func (i *Instance) ask(number int, vals []int64) {
	i.host = number + 1
	i.out = api.Out{End: api.EndHost, Host: number, Vals: vals}
}

// trap ends all calls.
func (i *Instance) trap(why api.Errno) {
	i.calls = nil
	i.out = api.Out{End: api.EndTrap, Trap: why}
}

// Image answers what the instance has.
func (i *Instance) Image() api.Image {
	return api.Image{Mem: i.Memory.All(), Table: slices.Clone(i.table), Globals: slices.Clone(i.globals)}
}

// State answers what is under way.
func (i *Instance) State() api.State {
	s := api.State{Host: i.host}
	for _, c := range i.calls {
		s.Calls = append(s.Calls, c.told())
	}
	return s
}
