package flat

import "troupe/api"

// nowhere is what nest.Match says of an if that has no else.
const nowhere = -1

// trail is a sound body that is gone through.
type trail struct {
	list        []api.Ins
	shapes      []api.Shape
	ends, elses []int
	open        []api.Jump // the ways that lead to the blocks that are open, the body itself first
}

// spots goes through the whole body.
func (t *trail) spots() []api.Spot {
	spots := make([]api.Spot, len(t.list))
	for at, x := range t.list {
		if !t.shapes[at].Dead {
			spots[at].To = t.ways(at)
		}
		switch x.Op {
		case api.OpBlock, api.OpLoop, api.OpIf:
			t.open = append(t.open, t.wayTo(at))
		case api.OpEnd:
			t.open = t.open[:len(t.open)-1]
		}
	}
	return spots
}

// ways answers those of the instruction at a place that is not dead.
func (t *trail) ways(at int) []api.Jump {
	x := t.list[at]
	switch x.Op {
	case api.OpBr, api.OpBrIf:
		return []api.Jump{t.out(x.A)}
	case api.OpBrTable:
		return t.choices(x)
	case api.OpReturn:
		return []api.Jump{t.open[0]}
	case api.OpIf:
		return []api.Jump{t.wayPast(at)}
	case api.OpElse:
		return []api.Jump{t.out(0)}
	}
	return nil
}

// out answers the way that goes so far out.
func (t *trail) out(far int64) api.Jump {
	return t.open[len(t.open)-1-int(far)]
}

// choices answers the ways of a br_table.
func (t *trail) choices(x api.Ins) []api.Jump {
	var ways []api.Jump
	for _, far := range x.To {
		ways = append(ways, t.out(far))
	}
	return append(ways, t.out(x.A))
}

// wayOut answers the way that leads to the body itself, which is that of a function of that type.
func (t *trail) wayOut(s api.Sig) api.Jump {
	return api.Jump{At: len(t.list) - 1, Keep: len(s.Out)}
}

// wayTo answers the way that leads to the block that is opened at a place; if that place is dead nothing that is not dead can go it.
func (t *trail) wayTo(at int) api.Jump {
	x, height := t.list[at], t.below(at)
	if x.Op == api.OpLoop {
		return api.Jump{At: at, Height: height}
	}
	return api.Jump{At: t.ends[at], Keep: keptOf(api.Kind(x.A)), Height: height}
}

// wayPast answers the way that the if at a place goes if its number is 0.
func (t *trail) wayPast(at int) api.Jump {
	if t.elses[at] == nowhere {
		return api.Jump{At: t.ends[at], Height: t.below(at)}
	}
	return api.Jump{At: t.elses[at] + 1, Height: t.below(at)}
}

// below answers how many values lie below the own part of the block that is opened at a place.
func (t *trail) below(at int) int {
	height := len(t.shapes[at].Stack)
	if t.list[at].Op == api.OpIf {
		return height - 1 // its number is taken ahead of that
	}
	return height
}

// keptOf answers how many values a block of that kind gives.
func keptOf(kind api.Kind) int {
	if kind == api.NoKind {
		return 0
	}
	return 1
}
