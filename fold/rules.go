package fold

import (
	"slices"

	"troupe/api"
	"troupe/ins"
	"troupe/nest"
	"troupe/num"
)

// change is what a rule does at a place: so many instructions become these.
type change struct {
	from int
	into []api.Ins
}

// rule answers what is to be done at a place of a body that is not its own end, or nil if the rule does not apply there. What it leaves is a body again.
type rule func(l []api.Ins, at int) *change

// rules answers all of them, in the order of their numbers.
func rules() []rule {
	return []rule{
		nopGoes,
		oneIsReckoned,
		twoAreReckoned,
		dropIsSpared,
		branchIsDecided,
		deadGoes,
		setAndGet,
		ifIsDecided,
		emptyGoes,
		teeAndDrop,
		choiceIsMade,
	}
}

func becomes(from int, into ...api.Ins) *change {
	return &change{from: from, into: into}
}

func nopGoes(l []api.Ins, at int) *change {
	if l[at].Op != api.OpNop {
		return nil
	}
	return becomes(1)
}

func oneIsReckoned(l []api.Ins, at int) *change {
	op := l[at+1].Op
	if !isConst(l[at]) || !feed(l[at:at+1], op) {
		return nil
	}
	n, err := num.One(op, l[at].A)
	if err != api.OK {
		return nil
	}
	return becomes(2, given(op, n))
}

func twoAreReckoned(l []api.Ins, at int) *change {
	if !isConst(l[at]) || !isConst(l[at+1]) {
		return nil
	}
	op := l[at+2].Op // the body's own end is no const: something stands behind two of them
	if !feed(l[at:at+2], op) {
		return nil
	}
	n, err := num.Two(op, l[at].A, l[at+1].A)
	if err != api.OK {
		return nil
	}
	return becomes(3, given(op, n))
}

func dropIsSpared(l []api.Ins, at int) *change {
	if l[at+1].Op != api.OpDrop {
		return nil
	}
	switch l[at].Op {
	case api.OpConst32, api.OpConst64, api.OpLocalGet, api.OpGlobalGet:
		return becomes(2)
	}
	return nil
}

func branchIsDecided(l []api.Ins, at int) *change {
	if l[at].Op != api.OpConst32 || l[at+1].Op != api.OpBrIf {
		return nil
	}
	if l[at].A == 0 {
		return becomes(2)
	}
	return becomes(2, api.Ins{Op: api.OpBr, A: l[at+1].A})
}

func deadGoes(l []api.Ins, at int) *change {
	switch l[at].Op {
	case api.OpBr, api.OpBrTable, api.OpReturn, api.OpUnreachable:
		if l[at+1].Op != api.OpEnd && l[at+1].Op != api.OpElse {
			return becomes(1+sizeAt(l, at+1), l[at])
		}
	}
	return nil
}

func setAndGet(l []api.Ins, at int) *change {
	if l[at].Op != api.OpLocalSet || l[at+1].Op != api.OpLocalGet || l[at].A != l[at+1].A {
		return nil
	}
	return becomes(2, api.Ins{Op: api.OpLocalTee, A: l[at].A})
}

func ifIsDecided(l []api.Ins, at int) *change {
	if l[at].Op != api.OpConst32 || l[at+1].Op != api.OpIf {
		return nil
	}
	ends, elses, _ := nest.Match(l) // l is a body
	end, turn := ends[at+1], elses[at+1]
	isTrue, hasElse := l[at].A != 0, turn > at
	block := []api.Ins{{Op: api.OpBlock, A: l[at+1].A}}
	switch {
	case isTrue && hasElse:
		return becomes(end-at, slices.Concat(block, l[at+2:turn])...)
	case isTrue:
		return becomes(2, block...)
	case hasElse:
		return becomes(turn+1-at, block...)
	}
	return becomes(end + 1 - at)
}

func emptyGoes(l []api.Ins, at int) *change {
	isBlock := l[at].Op == api.OpBlock || l[at].Op == api.OpLoop
	if !isBlock || l[at].A != int64(api.NoKind) || l[at+1].Op != api.OpEnd {
		return nil
	}
	return becomes(2)
}

func teeAndDrop(l []api.Ins, at int) *change {
	if l[at].Op != api.OpLocalTee || l[at+1].Op != api.OpDrop {
		return nil
	}
	return becomes(2, api.Ins{Op: api.OpLocalSet, A: l[at].A})
}

func choiceIsMade(l []api.Ins, at int) *change {
	if l[at].Op != api.OpConst32 || l[at].A == 0 || l[at+1].Op != api.OpSelect {
		return nil
	}
	return becomes(2, api.Ins{Op: api.OpDrop})
}

func isConst(x api.Ins) bool {
	return x.Op == api.OpConst32 || x.Op == api.OpConst64
}

// feed tells whether consts give just what the instruction op takes.
func feed(consts []api.Ins, op byte) bool {
	takes, _, _ := ins.Plain(op)
	return slices.EqualFunc(consts, takes, func(x api.Ins, kind api.Kind) bool {
		return x.Op == constOf(kind)
	})
}

// given answers the const that stands for n, which the instruction op gives.
func given(op byte, n int64) api.Ins {
	_, gives, _ := ins.Plain(op)
	return api.Ins{Op: constOf(gives[0]), A: n}
}

func constOf(kind api.Kind) byte {
	if kind == api.I32 {
		return api.OpConst32
	}
	return api.OpConst64
}

// sizeAt answers how many instructions go together at a place that is no end or else: a block, loop or if goes up to its end.
func sizeAt(l []api.Ins, at int) int {
	ends, _, _ := nest.Match(l) // l is a body
	if ends[at] < at {
		return 1
	}
	return ends[at] + 1 - at
}
