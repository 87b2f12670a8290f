package probe

import (
	"slices"

	"troupe/api"
	"troupe/ins"
	"troupe/num"
)

// The second reckoning knows no ways, and nothing that could be taken up again: it goes into blocks and calls, and out of them as far as a branch says.

// Run is a call of a function that can be made on an instance that has X.
type Run struct {
	M             api.Module
	X             api.Image
	F             int
	Args, Answers []int64
	Fuel          int
	Waits         bool // for an answer, if there is none any more; else that is 0
}

// Result is what comes of a run.
type Result struct {
	Out   api.Out
	Image api.Image
	Asks  []api.Ask
	State api.State
}

// Reckon answers what comes of a run.
func (r Run) Reckon() Result {
	a := &actor{Run: r, bytes: []byte(r.X.Mem), globals: slices.Clone(r.X.Globals), answers: r.Answers, fuel: r.Fuel}
	var vals []int64
	for at, kind := range a.sig(r.F).In {
		vals = append(vals, fit(kind, r.Args[at]))
	}
	given, lead := a.play(r.F, vals)
	if lead != over {
		a.end = api.Out{End: api.EndDone, Vals: given}
	}
	a.end.Left = a.fuel
	slices.Reverse(a.calls)
	image := api.Image{Mem: string(a.bytes), Table: slices.Clone(r.X.Table), Globals: a.globals}
	return Result{Out: a.end, Image: image, Asks: a.asks, State: api.State{Calls: a.calls, Host: a.host}}
}

// part is an instruction with its place, and with what is within it, and behind its else.
type part struct {
	x            api.Ins
	at           int
	inner, other []part
}

// partsOf answers the parts up to the end or else that closes them, and the place of that.
func partsOf(list []api.Ins, at int) ([]part, int) {
	var parts []part
	for {
		p := part{x: list[at], at: at}
		switch {
		case p.x.Op == api.OpElse || p.x.Op == api.OpEnd:
			return parts, at
		case opens(p.x.Op):
			p.inner, at = partsOf(list, at+1)
			if list[at].Op == api.OpElse {
				p.other, at = partsOf(list, at+1)
			}
		}
		parts = append(parts, p)
		at++
	}
}

// Where a part leads, if not so many blocks out: to the next part, or nowhere.
const (
	onward = -1
	over   = -2
)

// everyone as a number of blocks out is farther than there are blocks.
const everyone = 1000

// actor is an instance, and what is under way on it.
type actor struct {
	Run
	bytes   []byte
	globals []int64
	answers []int64
	asks    []api.Ask
	fuel    int
	deep    int
	end     api.Out
	calls   []api.Call // that were under way when all ended, the innermost first
	host    int
}

// scene is a call.
type scene struct {
	*actor
	own, at       int
	locals, stack []int64
}

func (a *actor) sig(number int) api.Sig {
	var all []int
	for _, i := range a.M.Imports {
		all = append(all, i.Type)
	}
	for _, f := range a.M.Funcs {
		all = append(all, f.Type)
	}
	return a.M.Types[all[number]]
}

func (a *actor) fail(why api.Errno) int {
	a.end = api.Out{End: api.EndTrap, Trap: why}
	return over
}

// play does a whole call.
func (a *actor) play(number int, vals []int64) ([]int64, int) {
	if a.deep == api.MaxCalls {
		return nil, a.fail(api.ErrStack)
	}
	own := number - len(a.M.Imports)
	f := a.M.Funcs[own]
	parts, _ := partsOf(f.Body, 0)
	s := &scene{actor: a, own: own, locals: append(slices.Clone(vals), make([]int64, len(f.Locals))...)}
	a.deep++
	lead := s.all(parts)
	a.deep--
	if lead == over {
		if a.end.End != api.EndTrap {
			a.calls = append(a.calls, api.Call{Func: own, At: s.at, Locals: s.locals, Stack: s.stack})
		}
		return nil, over
	}
	return s.stack[len(s.stack)-len(a.sig(number).Out):], onward
}

func (s *scene) pop() int64 {
	n := s.stack[len(s.stack)-1]
	s.stack = s.stack[:len(s.stack)-1]
	return n
}

func (s *scene) push(n int64) int {
	s.stack = append(s.stack, n)
	return onward
}

func (s *scene) pushOr(n int64, err api.Errno) int {
	if err != api.OK {
		return s.fail(err)
	}
	return s.push(n)
}

// pays tells whether there is fuel for the part at a place.
func (s *scene) pays(at int) bool {
	s.at = at
	if s.fuel == 0 {
		s.end = api.Out{End: api.EndFuel}
		return false
	}
	s.fuel--
	return true
}

// all does one part behind the other.
func (s *scene) all(parts []part) int {
	for _, p := range parts {
		if !s.pays(p.at) {
			return over
		}
		if lead := s.do(p); lead != onward {
			return lead
		}
	}
	return onward
}

// block does what is within a block, and lets go of what was put there but the values that it gives.
func (s *scene) block(parts []part, kind int64) int {
	base := len(s.stack)
	lead := s.all(parts)
	if lead == over || lead == onward {
		return lead
	}
	if lead > 0 {
		return lead - 1
	}
	if kind == int64(api.NoKind) {
		s.stack = s.stack[:base]
		return onward
	}
	n := s.pop()
	s.stack = append(s.stack[:base], n)
	return onward
}

func (s *scene) loop(p part) int {
	base := len(s.stack)
	for {
		lead := s.all(p.inner)
		if lead == over || lead == onward {
			return lead
		}
		if lead > 0 {
			return lead - 1
		}
		s.stack = s.stack[:base]
		if !s.pays(p.at) {
			return over
		}
	}
}

func (s *scene) do(p part) int {
	switch p.x.Op {
	case api.OpUnreachable:
		return s.fail(api.ErrUnreachable)
	case api.OpNop:
		return onward
	case api.OpBlock:
		return s.block(p.inner, p.x.A)
	case api.OpLoop:
		return s.loop(p)
	case api.OpIf:
		if s.pop() == 0 {
			return s.block(p.other, p.x.A)
		}
		return s.block(p.inner, p.x.A)
	case api.OpBr:
		return int(p.x.A)
	case api.OpBrIf:
		if s.pop() == 0 {
			return onward
		}
		return int(p.x.A)
	case api.OpBrTable:
		n := s.pop()
		if n < 0 || n >= int64(len(p.x.To)) {
			return int(p.x.A)
		}
		return int(p.x.To[n])
	case api.OpReturn:
		return everyone
	case api.OpCall:
		return s.call(p, int(p.x.A))
	case api.OpCallIndirect:
		return s.indirect(p)
	}
	return s.simple(p.x)
}

func (s *scene) indirect(p part) int {
	n := s.pop()
	if n < 0 || n >= int64(len(s.X.Table)) || s.X.Table[n] < 0 {
		return s.fail(api.ErrElement)
	}
	want, have := s.M.Types[p.x.A], s.sig(s.X.Table[n])
	if string(want.In) != string(have.In) || string(want.Out) != string(have.Out) {
		return s.fail(api.ErrMatch)
	}
	return s.call(p, s.X.Table[n])
}

func (s *scene) call(p part, number int) int {
	sig := s.sig(number)
	vals := make([]int64, len(sig.In))
	for at := len(vals) - 1; at >= 0; at-- {
		vals[at] = s.pop()
	}
	s.at = p.at + 1
	if number < len(s.M.Imports) {
		return s.ask(number, vals)
	}
	given, lead := s.play(number, vals)
	s.stack = append(s.stack, given...)
	return lead
}

func (s *scene) ask(number int, vals []int64) int {
	answer := int64(0)
	switch {
	case len(s.answers) > 0:
		answer, s.answers = s.answers[0], s.answers[1:]
	case s.Waits:
		s.host, s.end = number+1, api.Out{End: api.EndHost, Host: number, Vals: vals}
		return over
	}
	s.asks = append(s.asks, api.Ask{Host: number, Vals: vals})
	for _, kind := range s.sig(number).Out {
		s.push(fit(kind, answer))
	}
	return onward
}

// fit is n as one of that kind.
func fit(kind api.Kind, n int64) int64 {
	if kind == api.I32 {
		return int64(int32(n))
	}
	return n
}

func (s *scene) simple(x api.Ins) int {
	switch x.Op {
	case api.OpDrop:
		s.pop()
	case api.OpSelect:
		n, second, first := s.pop(), s.pop(), s.pop()
		if n == 0 {
			first = second
		}
		s.push(first)
	case api.OpLocalGet:
		s.push(s.locals[x.A])
	case api.OpLocalSet:
		s.locals[x.A] = s.pop()
	case api.OpLocalTee:
		s.locals[x.A] = s.stack[len(s.stack)-1]
	case api.OpGlobalGet:
		s.push(s.globals[x.A])
	case api.OpGlobalSet:
		s.globals[x.A] = s.pop()
	case api.OpConst32, api.OpConst64:
		s.push(x.A)
	case api.OpMemSize:
		s.push(int64(len(s.bytes) / api.Page))
	case api.OpMemGrow:
		s.grow(s.pop())
	default:
		return s.plain(x)
	}
	return onward
}

func (s *scene) grow(n int64) {
	pages := len(s.bytes) / api.Page
	if n < 0 || n > int64(s.M.Most-pages) {
		s.push(-1)
		return
	}
	s.bytes = append(s.bytes, make([]byte, api.Page*n)...)
	s.push(int64(pages))
}

func (s *scene) plain(x api.Ins) int {
	takes, gives, _ := ins.Plain(x.Op)
	width := ins.Width(x.Op)
	switch {
	case width > 0 && len(gives) > 0:
		return s.load(x, width)
	case width > 0:
		return s.store(x, width)
	case len(takes) == 1:
		return s.pushOr(num.One(x.Op, s.pop()))
	}
	second, first := s.pop(), s.pop()
	return s.pushOr(num.Two(x.Op, first, second))
}

// from answers where the bytes of a load or store begin, and whether all are there.
func (s *scene) from(x api.Ins, width int) (int64, bool) {
	at := s.pop()
	if at < 0 {
		at += 1 << 32
	}
	at += x.B
	return at, at+int64(width) <= int64(len(s.bytes))
}

func (s *scene) load(x api.Ins, width int) int {
	at, there := s.from(x, width)
	if !there {
		return s.fail(api.ErrBounds)
	}
	n := int64(0)
	for i := width - 1; i >= 0; i-- {
		n = n<<8 + int64(s.bytes[at+int64(i)])
	}
	if !slices.Contains([]byte{45, 47, 49, 51, 53}, x.Op) && width < 8 && n >= 1<<(8*width-1) {
		n -= 1 << (8 * width)
	}
	return s.push(n)
}

func (s *scene) store(x api.Ins, width int) int {
	n := s.pop()
	at, there := s.from(x, width)
	if !there {
		return s.fail(api.ErrBounds)
	}
	for i := range width {
		s.bytes[at+int64(i)] = byte(n >> (8 * i))
	}
	return onward
}
