package shot

import (
	"strings"

	"troupe/api"
	"troupe/leb"
)

// Read answers the image and the state that Write made t of.
func Read(t string) (api.Image, api.State, api.Errno) {
	r := reader{rest: t}
	x := r.image()
	s := r.state()
	if r.err != api.OK {
		return api.Image{}, api.State{}, r.err
	}
	// What is left behind the end, or has more bytes than it needs, isn't written again.
	if text, _ := Write(x, s); text != t {
		return api.Image{}, api.State{}, api.ErrForm
	}
	return x, s, api.OK
}

// reader takes from the front of a text, and keeps the first error: what comes behind that one counts for nothing.
type reader struct {
	rest string
	err  api.Errno
}

func (r *reader) image() api.Image {
	mem := r.bytes()
	table := readList(r, api.MaxTable, r.place)
	globals := readList(r, api.MaxGlobals, r.value)
	return api.Image{Mem: mem, Table: table, Globals: globals}
}

func (r *reader) state() api.State {
	host := r.number()
	calls := readList(r, api.MaxCalls, r.call)
	return api.State{Host: host, Calls: calls}
}

func (r *reader) call() api.Call {
	own := r.number()
	at := r.number()
	locals := readList(r, maxLocals, r.value)
	stack := readList(r, api.MaxBody, r.value)
	return api.Call{Func: own, At: at, Locals: locals, Stack: stack}
}

// readList reads how many there are, and hands the reading of each over to one.
func readList[T any](r *reader, most int, one func() T) []T {
	var list []T
	for range r.count(most) {
		list = append(list, one())
	}
	return list
}

func (r *reader) bytes() string {
	size := r.count(maxMem)
	r.need(size <= len(r.rest), api.ErrShort)
	if r.err != api.OK {
		return ""
	}
	// A copy, since a piece of what is read would share its memory.
	bytes := strings.Clone(r.rest[:size])
	r.rest = r.rest[size:]
	return bytes
}

// count is a number with a limit; behind an error it is 0.
func (r *reader) count(most int) int {
	n := r.number()
	r.need(n <= most, api.ErrLarge)
	if r.err != api.OK {
		return 0
	}
	return n
}

func (r *reader) number() int {
	n, size, err := leb.ReadU(r.rest, 32)
	r.pass(size, err)
	return int(n)
}

func (r *reader) place() int {
	return int(r.signed(32))
}

func (r *reader) value() int64 {
	return r.signed(64)
}

func (r *reader) signed(bits int) int64 {
	n, size, err := leb.ReadS(r.rest, bits)
	r.pass(size, err)
	return n
}

// pass goes behind a number that has been read.
func (r *reader) pass(size int, err api.Errno) {
	r.need(err == api.OK, err)
	r.rest = r.rest[size:]
}

func (r *reader) need(holds bool, err api.Errno) {
	if r.err == api.OK && !holds {
		r.err = err
	}
}
