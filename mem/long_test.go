package mem_test

import (
	"testing"

	"troupe/api"
	"troupe/mem"
)

// dice follow a fixed rule, so that every run does the same.
type dice uint64

func (d *dice) below(n int) int {
	*d ^= *d << 13
	*d ^= *d >> 7
	*d ^= *d << 17
	return int(uint64(*d>>11) % uint64(n))
}

// flat is a memory as one list of bytes: the second reckoning.
type flat struct {
	bytes string
	most  int
}

func (f *flat) grow(n int) int64 {
	before := len(f.bytes) / 256
	if before+n > f.most {
		return -1
	}
	f.bytes += zeros(256 * n)
	return int64(before)
}

func (f *flat) has(at, n int) bool {
	return at+n <= len(f.bytes)
}

func (f *flat) put(at int, s string) api.Errno {
	if !f.has(at, len(s)) {
		return api.ErrBounds
	}
	f.bytes = f.bytes[:at] + s + f.bytes[at+len(s):]
	return api.OK
}

// step does any one thing with both.
func step(t *testing.T, d *dice, m *mem.Mem, f *flat) {
	t.Helper()
	at := d.below(len(f.bytes) + 12)
	x := moves()[d.below(len(moves()))]
	switch d.below(12) {
	case 0:
		n := d.below(4)
		if got, want := m.Grow(int64(n)), f.grow(n); got != want {
			t.Fatalf("Grow(%d): %d, not %d", n, got, want)
		}
	case 1:
		s := pattern(600)[d.below(40):][:d.below(500)]
		if got, want := m.Put(int64(at), s), f.put(at, s); got != want {
			t.Fatalf("Put(%d, %d bytes): %d, not %d", at, len(s), got, want)
		}
	case 2:
		n, want := d.below(600), ""
		if f.has(at, n) {
			want = f.bytes[at : at+n]
		}
		if got, err := m.Bytes(int64(at), int64(n)); got != want || (err == api.OK) != f.has(at, n) {
			t.Fatalf("Bytes(%d, %d): %d bytes, %d", at, n, len(got), err)
		}
	default:
		moveBoth(t, d, m, f, x, at)
	}
}

func moveBoth(t *testing.T, d *dice, m *mem.Mem, f *flat, x move, at int) {
	t.Helper()
	off := d.below(at + 1)
	base := int64(at - off)
	if x.store {
		v := int64(d.below(1<<31))<<32 ^ int64(d.below(1<<32))
		if got, want := m.Store(x.op, base, int64(off), v), f.put(at, lowest(v, x.width)); got != want {
			t.Fatalf("Store(%d) at %d: %d, not %d", x.op, at, got, want)
		}
		return
	}
	want := int64(0)
	if f.has(at, x.width) {
		want = loaded(f.bytes[at:at+x.width], x.sign)
	}
	if got, err := m.Load(x.op, base, int64(off)); got != want || (err == api.OK) != f.has(at, x.width) {
		t.Fatalf("Load(%d) at %d: %d, %d, not %d", x.op, at, got, err, want)
	}
}

// P21, P22: whatever is done, in whatever order, a memory is what one list of bytes would be.
func TestLongRuns(t *testing.T) {
	d := dice(88172645463325252)
	for range 300 {
		most := d.below(9)
		pages := d.below(most + 1)
		f := &flat{zeros(256 * pages), most}
		m, err := mem.New(pages, most)
		if err != api.OK {
			t.Fatal(err)
		}
		for range 100 {
			step(t, &d, m, f)
			holds(t, "a long run", m, f.bytes)
			if d.below(50) == 0 {
				m = made(t, m.All(), most)
			}
		}
	}
}
