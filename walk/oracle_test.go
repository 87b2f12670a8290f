package walk_test

import (
	"slices"

	"troupe/api"
	"troupe/ins"
	"troupe/num"
)

// The second reckoning knows no ways: it goes into blocks, and out of them as far as a branch says.

// part is an instruction with what is within it, and behind its else.
type part struct {
	x            api.Ins
	inner, other []part
}

// partsOf answers the parts up to the end or else that closes them, and the place of that.
func partsOf(list []api.Ins, at int) ([]part, int) {
	var parts []part
	for {
		p := part{x: list[at]}
		switch {
		case p.x.Op == 5 || p.x.Op == 11:
			return parts, at
		case opens(p.x.Op):
			p.inner, at = partsOf(list, at+1)
			if list[at].Op == 5 {
				p.other, at = partsOf(list, at+1)
			}
		}
		parts = append(parts, p)
		at++
	}
}

// Where a part leads: so many blocks out, or to the next part, or nowhere.
const (
	onward = -1 - iota
	over
)

// everyone as a number of blocks out is farther than there are blocks.
const everyone = 1000

// actor is an instance, and what is under way on it.
type actor struct {
	m       api.Module
	bytes   []byte
	table   []int
	globals []int64
	answers []int64
	asks    []api.Ask
	fuel    int
	deep    int
	end     api.Out
}

type scene struct {
	*actor
	locals, stack []int64
}

func (a *actor) sig(number int) api.Sig {
	var all []int
	for _, i := range a.m.Imports {
		all = append(all, i.Type)
	}
	for _, f := range a.m.Funcs {
		all = append(all, f.Type)
	}
	return a.m.Types[all[number]]
}

func (a *actor) fail(why api.Errno) int {
	a.end = api.Out{End: 2, Trap: why}
	return over
}

func (s *scene) pop() int64 {
	n := s.stack[len(s.stack)-1]
	s.stack = s.stack[:len(s.stack)-1]
	return n
}

func (s *scene) push(n int64) int {
	s.stack = append(s.stack, n)
	return onward
}

func (s *scene) pushOr(n int64, err api.Errno) int {
	if err != api.OK {
		return s.fail(err)
	}
	return s.push(n)
}

// all does one part behind the other.
func (s *scene) all(parts []part) int {
	for _, p := range parts {
		if s.fuel == 0 {
			s.end = api.Out{End: 3}
			return over
		}
		s.fuel--
		if lead := s.do(p); lead != onward {
			return lead
		}
	}
	return onward
}

// block does what is within a block, and lets go of what was put there but the values that it gives.
func (s *scene) block(parts []part, arity int) int {
	base := len(s.stack)
	lead := s.all(parts)
	if lead == over || lead == onward {
		return lead
	}
	if lead > 0 {
		return lead - 1
	}
	for arity == 1 && len(s.stack) > base+1 {
		s.stack = slices.Delete(s.stack, base, base+1)
	}
	for arity == 0 && len(s.stack) > base {
		s.pop()
	}
	return onward
}

func (s *scene) loop(p part) int {
	base := len(s.stack)
	for {
		lead := s.all(p.inner)
		if lead == over || lead == onward {
			return lead
		}
		if lead > 0 {
			return lead - 1
		}
		s.stack = s.stack[:base]
		if s.fuel == 0 {
			s.end = api.Out{End: 3}
			return over
		}
		s.fuel--
	}
}

func arityOf(kind int64) int {
	return map[int64]int{64: 0, 126: 1, 127: 1}[kind]
}

func (s *scene) do(p part) int {
	switch p.x.Op {
	case 0:
		return s.fail(api.ErrUnreachable)
	case 1:
		return onward
	case 2:
		return s.block(p.inner, arityOf(p.x.A))
	case 3:
		return s.loop(p)
	case 4:
		if s.pop() == 0 {
			return s.block(p.other, arityOf(p.x.A))
		}
		return s.block(p.inner, arityOf(p.x.A))
	case 12:
		return int(p.x.A)
	case 13:
		if s.pop() == 0 {
			return onward
		}
		return int(p.x.A)
	case 14:
		n := s.pop()
		if n < 0 || n >= int64(len(p.x.To)) {
			return int(p.x.A)
		}
		return int(p.x.To[n])
	case 15:
		return everyone
	case 16:
		return s.call(int(p.x.A))
	case 17:
		return s.indirect(p.x.A)
	}
	return s.simple(p.x)
}

func (s *scene) indirect(kind int64) int {
	n := s.pop()
	if n < 0 || n >= int64(len(s.table)) || s.table[n] < 0 {
		return s.fail(api.ErrElement)
	}
	want, have := s.m.Types[kind], s.sig(s.table[n])
	if string(want.In) != string(have.In) || string(want.Out) != string(have.Out) {
		return s.fail(api.ErrMatch)
	}
	return s.call(s.table[n])
}

func (s *scene) call(number int) int {
	sig := s.sig(number)
	vals := make([]int64, len(sig.In))
	for at := len(vals) - 1; at >= 0; at-- {
		vals[at] = s.pop()
	}
	if number >= len(s.m.Imports) {
		given, lead := s.play(number, vals)
		s.stack = append(s.stack, given...)
		return lead
	}
	s.asks = append(s.asks, api.Ask{Host: number, Vals: vals})
	answer := int64(0)
	if len(s.answers) > 0 {
		answer, s.answers = s.answers[0], s.answers[1:]
	}
	for _, kind := range sig.Out {
		s.push(fit(kind, answer))
	}
	return onward
}

// fit is n as one of that kind.
func fit(kind api.Kind, n int64) int64 {
	if kind == i32 {
		return int64(int32(n))
	}
	return n
}

// play does a whole call.
func (a *actor) play(number int, vals []int64) ([]int64, int) {
	if a.deep == 40 {
		return nil, a.fail(api.ErrStack)
	}
	f := a.m.Funcs[number-len(a.m.Imports)]
	parts, _ := partsOf(f.Body, 0)
	s := &scene{actor: a, locals: append(slices.Clone(vals), make([]int64, len(f.Locals))...)}
	a.deep++
	lead := s.all(parts)
	a.deep--
	if lead == over {
		return nil, over
	}
	return s.stack[len(s.stack)-len(a.sig(number).Out):], onward
}

func (s *scene) simple(x api.Ins) int {
	switch x.Op {
	case 26:
		s.pop()
	case 27:
		n, b, a := s.pop(), s.pop(), s.pop()
		if n == 0 {
			a = b
		}
		s.push(a)
	case 32:
		s.push(s.locals[x.A])
	case 33:
		s.locals[x.A] = s.pop()
	case 34:
		s.locals[x.A] = s.stack[len(s.stack)-1]
	case 35:
		s.push(s.globals[x.A])
	case 36:
		s.globals[x.A] = s.pop()
	case 65, 66:
		s.push(x.A)
	case 63:
		s.push(int64(len(s.bytes) / 256))
	case 64:
		s.grow(s.pop())
	default:
		return s.plain(x)
	}
	return onward
}

func (s *scene) grow(n int64) {
	pages := len(s.bytes) / 256
	if n < 0 || n > int64(s.m.Most-pages) {
		s.push(-1)
		return
	}
	s.bytes = append(s.bytes, make([]byte, 256*n)...)
	s.push(int64(pages))
}

func (s *scene) plain(x api.Ins) int {
	takes, gives, _ := ins.Plain(x.Op)
	width := ins.Width(x.Op)
	switch {
	case width > 0 && len(gives) > 0:
		return s.load(x, width)
	case width > 0:
		return s.store(x, width)
	case len(takes) == 1:
		return s.pushOr(num.One(x.Op, s.pop()))
	}
	b, a := s.pop(), s.pop()
	return s.pushOr(num.Two(x.Op, a, b))
}

// from answers where the bytes of a load or store begin, and whether all are there.
func (s *scene) from(x api.Ins, width int) (int64, bool) {
	at := s.pop()
	if at < 0 {
		at += 1 << 32
	}
	at += x.B
	return at, at+int64(width) <= int64(len(s.bytes))
}

func (s *scene) load(x api.Ins, width int) int {
	at, there := s.from(x, width)
	if !there {
		return s.fail(api.ErrBounds)
	}
	n := int64(0)
	for i := width - 1; i >= 0; i-- {
		n = n<<8 + int64(s.bytes[at+int64(i)])
	}
	if !slices.Contains([]byte{45, 47, 49, 51, 53}, x.Op) && width < 8 && n >= 1<<(8*width-1) {
		n -= 1 << (8 * width)
	}
	return s.push(n)
}

func (s *scene) store(x api.Ins, width int) int {
	n := s.pop()
	at, there := s.from(x, width)
	if !there {
		return s.fail(api.ErrBounds)
	}
	for i := range width {
		s.bytes[at+int64(i)] = byte(n >> (8 * i))
	}
	return onward
}

// reckon answers what comes of a call that can be made.
func reckon(m api.Module, x api.Image, f int, args, answers []int64, fuel int) result {
	a := &actor{m: m, bytes: []byte(x.Mem), table: x.Table, globals: slices.Clone(x.Globals), answers: answers, fuel: fuel}
	var vals []int64
	for at, kind := range a.sig(f).In {
		vals = append(vals, fit(kind, args[at]))
	}
	given, lead := a.play(f, vals)
	out := a.end
	if lead != over {
		out = api.Out{End: 1, Vals: given}
	}
	out.Left = a.fuel
	return result{out: out, image: api.Image{Mem: string(a.bytes), Table: slices.Clone(a.table), Globals: a.globals}, asks: a.asks}
}
