package ins

import (
	"troupe/api"
	"troupe/leb"
)

// zeroByte stands where other programs name a memory or a table: here there is one of each.
const zeroByte = "\x00"

// Write answers an instruction as bytes.
func Write(x api.Ins) (string, api.Errno) {
	if err := Check(x); err != api.OK {
		return "", err
	}
	return oneByte(x.Op) + besideText(x), api.OK
}

// besideText counts on Check: what it writes is in its bounds.
func besideText(x api.Ins) string {
	switch besideOf(x.Op) {
	case kindOfBlock:
		return oneByte(byte(x.A))
	case number:
		return numberText(x.A)
	case ways:
		text := numberText(int64(len(x.To)))
		for _, far := range x.To {
			text += numberText(far)
		}
		return text + numberText(x.A)
	case typeAndZero:
		return numberText(x.A) + zeroByte
	case place:
		return numberText(x.A) + numberText(x.B)
	case zero:
		return zeroByte
	case const32, const64:
		return leb.S(x.A)
	}
	return ""
}

func oneByte(b byte) string {
	return string([]byte{b})
}

func numberText(n int64) string {
	return leb.U(uint64(n))
}

// Read answers the instruction with which s begins, and how many bytes it has.
func Read(s string) (api.Ins, int, api.Errno) {
	r := reader{rest: s}
	x := r.instruction()
	if r.err != api.OK {
		return api.Ins{}, 0, r.err
	}
	return x, len(s) - len(r.rest), api.OK
}

// reader takes from the front of a text. It keeps the first error: what is taken behind that one counts for nothing.
type reader struct {
	rest string
	err  api.Errno
}

func (r *reader) fail(err api.Errno) {
	if r.err == api.OK {
		r.err = err
	}
}

func (r *reader) instruction() api.Ins {
	x := api.Ins{Op: r.next()}
	switch besideOf(x.Op) {
	case unknown:
		r.fail(api.ErrUnsup)
	case kindOfBlock:
		x.A = r.kindOfBlock()
	case number:
		x.A = r.number()
	case ways:
		x.To = r.numbers()
		x.A = r.number()
	case typeAndZero:
		x.A = r.number()
		r.zero()
	case place:
		x.A = r.number()
		x.B = r.number()
	case zero:
		r.zero()
	case const32:
		x.A = take(r, leb.ReadS, 32)
	case const64:
		x.A = take(r, leb.ReadS, 64)
	}
	return x
}

func (r *reader) next() byte {
	if len(r.rest) == 0 {
		r.fail(api.ErrShort)
		return 0
	}
	b := r.rest[0]
	r.rest = r.rest[1:]
	return b
}

func (r *reader) kindOfBlock() int64 {
	a := int64(r.next())
	if !isKindOfBlock(a) {
		r.fail(api.ErrUnsup)
	}
	return a
}

func (r *reader) zero() {
	if r.next() != 0 {
		r.fail(api.ErrForm)
	}
}

func (r *reader) number() int64 {
	return take(r, leb.ReadU, 32)
}

func (r *reader) numbers() []int64 {
	n := r.number()
	if n > api.MaxTo {
		r.fail(api.ErrLarge)
		return nil
	}
	list := make([]int64, n)
	for i := range list {
		list[i] = r.number()
	}
	return list
}

// take reads a number by one of leb's two ways.
func take[N int64 | uint64](r *reader, read func(s string, bits int) (N, int, api.Errno), bits int) int64 {
	n, size, err := read(r.rest, bits)
	if err != api.OK {
		r.fail(err)
		return 0
	}
	r.rest = r.rest[size:]
	return int64(n)
}
