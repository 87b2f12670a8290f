package flat_test

import (
	"troupe/api"
	"troupe/ins"
)

// The second reckoning looks for the blocks of each instruction anew, and counts values without their kinds.

// opener answers the place of what opened the block that is so far out of a place; -1 is the body itself.
func opener(list []api.Ins, at int, far int64) int {
	closed := 0
	for at--; at >= 0; at-- {
		switch {
		case list[at].Op == 11:
			closed++
		case opens(list[at].Op) && closed > 0:
			closed--
		case opens(list[at].Op) && far == 0:
			return at
		case opens(list[at].Op):
			far--
		}
	}
	return -1
}

// closer answers the place of the first of these that belongs to the block that was opened at a place: its end, or its else, if that is asked for.
func closer(list []api.Ins, at int, elseToo bool) int {
	open := 0
	for at++; ; at++ {
		switch {
		case opens(list[at].Op):
			open++
		case list[at].Op == 5 && open == 0 && elseToo:
			return at
		case list[at].Op == 11 && open == 0:
			return at
		case list[at].Op == 11:
			open--
		}
	}
}

func gives(kind int64) int {
	return map[int64]int{64: 0, 126: 1, 127: 1}[kind]
}

// gauge counts the values on the stack.
type gauge struct {
	m     api.Module
	list  []api.Ins
	at    int
	ahead []int // how many there are ahead of each instruction; -1: it is dead
}

// change answers how many values more there are behind an instruction.
func (g *gauge) change(x api.Ins) int {
	sig := func(s api.Sig) int { return len(s.Out) - len(s.In) }
	switch x.Op {
	case 1, 34:
		return 0
	case 13, 26, 33, 36:
		return -1
	case 27:
		return -2
	case 32, 35:
		return 1
	case 16:
		var all []int
		for _, i := range g.m.Imports {
			all = append(all, i.Type)
		}
		for _, f := range g.m.Funcs {
			all = append(all, f.Type)
		}
		return sig(g.m.Types[all[x.A]])
	case 17:
		return sig(g.m.Types[x.A]) - 1
	}
	takes, given, ok := ins.Plain(x.Op)
	if !ok {
		panic("the test has no such instruction")
	}
	return len(given) - len(takes)
}

// block goes through a block behind its beginning, which stands on so many values.
func (g *gauge) block(base int, lost bool) {
	count, dead := base, lost
	for {
		x := g.list[g.at]
		g.at++
		if dead {
			g.ahead = append(g.ahead, -1)
		} else {
			g.ahead = append(g.ahead, count)
		}
		switch {
		case x.Op == 11:
			return
		case x.Op == 5:
			count, dead = base, lost
		case opens(x.Op):
			if x.Op == 4 {
				count--
			}
			g.block(count, dead)
			count += gives(x.A)
		case x.Op == 0, x.Op == 12, x.Op == 14, x.Op == 15:
			dead = true
		default:
			count += g.change(x)
		}
	}
}

// reckoner has a body, and how many values there are ahead of each instruction.
type reckoner struct {
	list  []api.Ins
	ahead []int
	out   int // how many values the body gives
}

// base answers how many values lie below a block's own part.
func (r reckoner) base(from int) int {
	if r.list[from].Op == 4 {
		return r.ahead[from] - 1
	}
	return r.ahead[from]
}

// to answers the way to the block that was opened at a place.
func (r reckoner) to(from int) api.Jump {
	switch {
	case from == -1:
		return api.Jump{At: len(r.list) - 1, Keep: r.out}
	case r.list[from].Op == 3:
		return api.Jump{At: from, Height: r.base(from)}
	}
	return api.Jump{At: closer(r.list, from, false), Keep: gives(r.list[from].A), Height: r.base(from)}
}

func (r reckoner) spot(at int) api.Spot {
	x := r.list[at]
	far := func(n int64) api.Jump { return r.to(opener(r.list, at, n)) }
	var s api.Spot
	if r.ahead[at] == -1 {
		return s
	}
	switch x.Op {
	case 12, 13:
		s.To = append(s.To, far(x.A))
	case 14:
		for _, n := range append(append([]int64{}, x.To...), x.A) {
			s.To = append(s.To, far(n))
		}
	case 15:
		s.To = append(s.To, r.to(-1))
	case 4:
		next := closer(r.list, at, true)
		if r.list[next].Op == 5 {
			next++
		}
		s.To = append(s.To, api.Jump{At: next, Height: r.base(at)})
	case 5:
		s.To = append(s.To, far(0))
	}
	return s
}

// reckon answers what Func says of a function whose body is sound.
func reckon(m api.Module, at int) []api.Spot {
	f := m.Funcs[at]
	g := &gauge{m: m, list: f.Body}
	g.block(0, false)
	r := reckoner{list: f.Body, ahead: g.ahead, out: len(m.Types[f.Type].Out)}
	var spots []api.Spot
	for place := range f.Body {
		spots = append(spots, r.spot(place))
	}
	return spots
}
