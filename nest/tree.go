package nest

import "troupe/api"

// Tree is a body, with what is within a block as a part of that block.
type Tree struct {
	parts []part
}

// part is an instruction that stands alone, a block or a choice.
type part interface {
	// flat answers list with the part's instructions behind it.
	flat(list []api.Ins) []api.Ins
}

// single is an instruction that opens nothing.
type single struct {
	only api.Ins
}

// block is a block or a loop.
type block struct {
	head  api.Ins
	inner []part
}

// choice is an if: inner is what is done if the number isn't 0.
type choice struct {
	block
	hasElse bool // there may be an else with nothing behind it
	other   []part
}

func (s single) flat(list []api.Ins) []api.Ins {
	return append(list, copied(s.only))
}

func (b block) flat(list []api.Ins) []api.Ins {
	return closed(b.front(list))
}

// front is flat without the end.
func (b block) front(list []api.Ins) []api.Ins {
	return flatAll(append(list, copied(b.head)), b.inner)
}

func (c choice) flat(list []api.Ins) []api.Ins {
	list = c.front(list)
	if c.hasElse {
		list = flatAll(append(list, api.Ins{Op: api.OpElse}), c.other)
	}
	return closed(list)
}

func flatAll(list []api.Ins, parts []part) []api.Ins {
	for _, p := range parts {
		list = p.flat(list)
	}
	return list
}

func closed(list []api.Ins) []api.Ins {
	return append(list, api.Ins{Op: api.OpEnd})
}

// copied is x with a To of its own, since trees share no memory with what they are made of, nor with what they answer.
func copied(x api.Ins) api.Ins {
	x.To = append([]int64(nil), x.To...)
	return x
}

// Of answers a body as a tree.
func Of(l []api.Ins) (*Tree, api.Errno) {
	ends, elses, err := Match(l)
	if err != api.OK {
		return nil, err
	}
	g := grower{list: l, ends: ends, elses: elses}
	return &Tree{parts: g.between(0, len(l)-1)}, api.OK
}

// grower makes parts of a body that was matched.
type grower struct {
	list        []api.Ins
	ends, elses []int
}

// between answers what stands from the place from on, up to the place to.
func (g grower) between(from, to int) []part {
	var parts []part
	for at := from; at < to; at++ {
		parts = append(parts, g.partAt(at))
		if g.ends[at] != nowhere {
			at = g.ends[at]
		}
	}
	return parts
}

func (g grower) partAt(at int) part {
	head := copied(g.list[at])
	switch head.Op {
	case api.OpBlock, api.OpLoop:
		return block{head: head, inner: g.between(at+1, g.ends[at])}
	case api.OpIf:
		return g.choiceAt(at, head)
	}
	return single{only: head}
}

func (g grower) choiceAt(at int, head api.Ins) choice {
	end, turn := g.ends[at], g.elses[at]
	if turn == nowhere {
		return choice{block: block{head: head, inner: g.between(at+1, end)}}
	}
	first := block{head: head, inner: g.between(at+1, turn)}
	return choice{block: first, hasElse: true, other: g.between(turn+1, end)}
}

// Flat answers the body that the tree was made of.
func (t *Tree) Flat() []api.Ins {
	return closed(flatAll(nil, t.parts))
}

// Deep answers how many blocks are in one another at most.
func (t *Tree) Deep() int {
	return deep(t.parts)
}

func deep(parts []part) int {
	most := 0
	for _, p := range parts {
		switch p := p.(type) {
		case block:
			most = max(most, 1+deep(p.inner))
		case choice:
			most = max(most, 1+deep(p.inner), 1+deep(p.other))
		}
	}
	return most
}

// Size answers how many blocks, loops and ifs there are.
func (t *Tree) Size() int {
	return size(t.parts)
}

func size(parts []part) int {
	all := 0
	for _, p := range parts {
		switch p := p.(type) {
		case block:
			all += 1 + size(p.inner)
		case choice:
			all += 1 + size(p.inner) + size(p.other)
		}
	}
	return all
}
