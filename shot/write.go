package shot

import (
	"math"
	"strings"

	"troupe/api"
	"troupe/leb"
)

// Write answers an image and a state as bytes.
func Write(x api.Image, s api.State) (string, api.Errno) {
	var w writer
	w.image(x)
	w.state(s)
	if w.err != api.OK {
		return "", w.err
	}
	return w.text.String(), api.OK
}

// writer puts one part behind the other, and keeps the first error: what comes behind that one counts for nothing.
type writer struct {
	text strings.Builder
	err  api.Errno
}

// image tells first whether any part has too much, and only then whether what stands in one of them can't be told.
func (w *writer) image(x api.Image) {
	w.limit(len(x.Mem), maxMem)
	w.limit(len(x.Table), api.MaxTable)
	w.limit(len(x.Globals), api.MaxGlobals)
	w.bytes(x.Mem)
	writeList(w, x.Table, w.place)
	writeList(w, x.Globals, w.value)
}

func (w *writer) state(s api.State) {
	w.number(s.Host)
	w.limit(len(s.Calls), api.MaxCalls)
	writeList(w, s.Calls, w.call)
}

func (w *writer) call(c api.Call) {
	w.number(c.Func)
	w.number(c.At)
	w.limit(len(c.Locals), maxLocals)
	w.limit(len(c.Stack), api.MaxBody)
	writeList(w, c.Locals, w.value)
	writeList(w, c.Stack, w.value)
}

// writeList hands the elements of a list over to one, unless something was wrong ahead of them.
func writeList[T any](w *writer, list []T, one func(T)) {
	w.number(len(list))
	for _, x := range list {
		if w.err != api.OK {
			return
		}
		one(x)
	}
}

func (w *writer) limit(n, most int) {
	w.need(n <= most, api.ErrLarge)
}

func (w *writer) bytes(s string) {
	w.number(len(s))
	w.put(s)
}

func (w *writer) number(n int) {
	w.need(0 <= n && n <= math.MaxUint32, api.ErrArg)
	w.put(leb.U(uint64(n)))
}

// place is what stands in a place of the table: a number with a sign, since none is -1.
func (w *writer) place(n int) {
	w.need(math.MinInt32 <= n && n <= math.MaxInt32, api.ErrArg)
	w.value(int64(n))
}

func (w *writer) value(n int64) {
	w.put(leb.S(n))
}

func (w *writer) put(text string) {
	if w.err == api.OK {
		w.text.WriteString(text)
	}
}

func (w *writer) need(holds bool, err api.Errno) {
	if w.err == api.OK && !holds {
		w.err = err
	}
}
