package valid_test

import (
	"strings"

	"troupe/api"
)

// A stack is a text here, the topmost value last: i is an I32, l an I64.

func letter(kind api.Kind) string {
	switch kind {
	case 127:
		return "i"
	case 126:
		return "l"
	}
	return ""
}

func letters(list []api.Kind) string {
	var text string
	for _, kind := range list {
		text += letter(kind)
	}
	return text
}

// plain is what instructions take and give, and how many bytes they move, as the tables of chapters 2 and 3 have it.
func plain(op byte) (takes, gives string, width int, ok bool) {
	within := func(from, to byte) bool { return from <= op && op <= to }
	switch {
	case op == 69, within(103, 105), op == 192, op == 193:
		return "i", "i", 0, true
	case op == 80, op == 167:
		return "l", "i", 0, true
	case within(121, 123), within(194, 196):
		return "l", "l", 0, true
	case op == 172, op == 173:
		return "i", "l", 0, true
	case within(70, 79), within(106, 120):
		return "ii", "i", 0, true
	case within(81, 90):
		return "ll", "i", 0, true
	case within(124, 138):
		return "ll", "l", 0, true
	case op == 40, within(44, 47):
		return "i", "i", map[byte]int{40: 4, 44: 1, 45: 1, 46: 2, 47: 2}[op], true
	case op == 41, within(48, 53):
		return "i", "l", map[byte]int{41: 8, 48: 1, 49: 1, 50: 2, 51: 2, 52: 4, 53: 4}[op], true
	case op == 54, op == 58, op == 59:
		return "ii", "", map[byte]int{54: 4, 58: 1, 59: 2}[op], true
	case op == 55, within(60, 62):
		return "il", "", map[byte]int{55: 8, 60: 1, 61: 2, 62: 4}[op], true
	case op == 63, op == 65:
		return "", "i", 0, true
	case op == 64:
		return "i", "i", 0, true
	case op == 66:
		return "", "l", 0, true
	}
	return "", "", 0, false
}

// worlds are all the stacks that there may be on a block's own part: where the kind of a value is left open there is a world for each.
type worlds map[string]bool

// part is a block's own part of the stack.
type part struct {
	all  worlds
	dead bool
}

// takeOne answers the stack below the topmost value, which must be of that kind, and whether there is one.
func (p part) takeOne(stack, kind string) (string, bool) {
	if stack == "" {
		return "", p.dead
	}
	return strings.CutSuffix(stack, kind)
}

// then answers the worlds behind something that takes and gives this.
func (p part) then(takes, gives string) worlds {
	next := worlds{}
	for stack := range p.all {
		ok := true
		for at := len(takes) - 1; at >= 0 && ok; at-- {
			stack, ok = p.takeOne(stack, takes[at:at+1])
		}
		if ok {
			next[stack+gives] = true
		}
	}
	return next
}

func union(a, b worlds) worlds {
	all := worlds{}
	for stack := range a {
		all[stack] = true
	}
	for stack := range b {
		all[stack] = true
	}
	return all
}

// judge reckons which instruction of a body isn't sound, block by block.
type judge struct {
	m      api.Module
	locals string
	body   []api.Ins
	at     int
	along  []string // what ways take along, the innermost block's last
	shapes []api.Shape
}

// sigOf answers what a function takes and gives.
func (j *judge) sigOf(number int64) (string, string) {
	var all []int
	for _, i := range j.m.Imports {
		all = append(all, i.Type)
	}
	for _, f := range j.m.Funcs {
		all = append(all, f.Type)
	}
	s := j.m.Types[all[number]]
	return letters(s.In), letters(s.Out)
}

func (j *judge) way(far int64) string {
	return j.along[len(j.along)-1-int(far)]
}

// misses tells whether something that the instruction names is not there.
func (j *judge) misses(x api.Ins) bool {
	_, _, width, _ := plain(x.Op)
	count := int64(1) << 40
	switch name := x.Op; {
	case width > 0, name == 63, name == 64:
		return j.m.Most == 0
	case name == 12, name == 13, name == 14:
		for _, far := range x.To {
			if far >= int64(len(j.along)) {
				return true
			}
		}
		count = int64(len(j.along))
	case name == 16:
		count = int64(len(j.m.Imports) + len(j.m.Funcs))
	case name == 17:
		if j.m.Table == 0 {
			return true
		}
		count = int64(len(j.m.Types))
	case name >= 32 && name <= 34:
		count = int64(len(j.locals))
	case name == 35, name == 36:
		count = int64(len(j.m.Globals))
	default:
		return false
	}
	return x.A >= count
}

func skew(x api.Ins) bool {
	_, _, width, _ := plain(x.Op)
	least := 1
	for range min(x.A, 10) {
		least *= 2
	}
	return width > 0 && least > width
}

// after answers the worlds behind an instruction that neither opens nor closes a block.
func (j *judge) after(p part, x api.Ins) worlds {
	if takes, gives, _, ok := plain(x.Op); ok {
		return p.then(takes, gives)
	}
	switch x.Op {
	case 0, 1:
		return p.all
	case 12:
		return p.then(j.way(x.A), "")
	case 13:
		return p.then(j.way(x.A)+"i", j.way(x.A))
	case 14:
		for _, far := range x.To {
			if j.way(far) != j.way(x.A) {
				return nil
			}
		}
		return p.then(j.way(x.A)+"i", "")
	case 15:
		return p.then(j.along[0], "")
	case 16:
		return p.then(j.sigOf(x.A))
	case 17:
		s := j.m.Types[x.A]
		return p.then(letters(s.In)+"i", letters(s.Out))
	case 26:
		return union(p.then("i", ""), p.then("l", ""))
	case 27:
		return union(p.then("iii", "i"), p.then("lli", "l"))
	case 32:
		return p.then("", j.locals[x.A:x.A+1])
	case 33:
		return p.then(j.locals[x.A:x.A+1], "")
	case 34:
		return p.then(j.locals[x.A:x.A+1], j.locals[x.A:x.A+1])
	case 35:
		return p.then("", letter(j.m.Globals[x.A].Kind))
	case 36:
		if !j.m.Globals[x.A].Mut {
			return nil
		}
		return p.then(letter(j.m.Globals[x.A].Kind), "")
	}
	panic("the test has no such instruction")
}

// closes tells whether a block that gives this may end.
func (p part) closes(gives string) bool {
	return p.then(gives, "")[""]
}

// note tells what is known ahead of the instruction that is next; below is what lies under the block's own part.
func (j *judge) note(p part, below string, lost bool) {
	shape := api.Shape{Dead: lost || p.dead}
	for stack := range p.all {
		if shape.Dead {
			break
		}
		for _, sign := range below + stack {
			shape.Stack = append(shape.Stack, map[rune]api.Kind{'i': 127, 'l': 126}[sign])
		}
	}
	j.shapes = append(j.shapes, shape)
}

// block goes through a block that was opened by op, up to its end; lost tells whether it stands in a dead part.
func (j *judge) block(op byte, gives, below string, lost bool) api.Errno {
	along := gives
	if op == 3 {
		along = ""
	}
	j.along = append(j.along, along)
	p := part{all: worlds{"": true}}
	for {
		x := j.body[j.at]
		j.note(p, below, lost)
		switch {
		case x.Op == 5:
			if !p.closes(gives) {
				return api.ErrType
			}
			op, p = 5, part{all: worlds{"": true}}
		case x.Op == 11:
			if !p.closes(gives) || op == 4 && gives != "" {
				return api.ErrType
			}
			j.along = j.along[:len(j.along)-1]
			j.at++
			return api.OK
		case x.Op >= 2 && x.Op <= 4:
			if err := j.within(&p, x, below, lost); err != api.OK {
				return err
			}
			continue
		default:
			if err := j.single(&p, x); err != api.OK {
				return err
			}
		}
		j.at++
	}
}

// within goes through a block that stands in the part p.
func (j *judge) within(p *part, x api.Ins, below string, lost bool) api.Errno {
	if x.Op == 4 {
		if p.all = p.then("i", ""); len(p.all) == 0 {
			return api.ErrType
		}
	}
	inner, gives := below, letter(api.Kind(x.A))
	if !lost && !p.dead {
		for stack := range p.all {
			inner += stack
		}
	}
	j.at++
	if err := j.block(x.Op, gives, inner, lost || p.dead); err != api.OK {
		return err
	}
	p.all = p.then("", gives)
	return api.OK
}

func (j *judge) single(p *part, x api.Ins) api.Errno {
	if j.misses(x) {
		return api.ErrIndex
	}
	if skew(x) {
		return api.ErrAlign
	}
	if p.all = j.after(*p, x); len(p.all) == 0 {
		return api.ErrType
	}
	switch x.Op {
	case 0, 12, 14, 15:
		*p = part{all: worlds{"": true}, dead: true}
	}
	return api.OK
}

// reckon answers what Func and Shapes say of a module whose Head is OK.
func reckon(m api.Module, at int) (int, []api.Shape, api.Errno) {
	f := m.Funcs[at]
	s := m.Types[f.Type]
	j := &judge{m: m, locals: letters(s.In) + letters(f.Locals), body: f.Body}
	if err := j.block(2, letters(s.Out), "", false); err != api.OK {
		return j.at, nil, err
	}
	return 0, j.shapes, api.OK
}
