package mem_test

import (
	"math"
	"strings"
	"testing"

	"troupe/api"
)

// far are places and counts that are no use with any memory, some of them so that a sum of two goes round.
func far() []int64 {
	return []int64{math.MinInt64, math.MinInt64 + 1, math.MinInt64 + 256, -1 << 32, -1<<32 + 1, math.MinInt32, -256, -2, -1,
		2049, 4096, math.MaxInt32, 1 << 31, math.MaxUint32, 1 << 32, 1<<32 + 1, 1<<62 - 1, 1 << 62, math.MaxInt64 - 256, math.MaxInt64 - 1, math.MaxInt64}
}

// P22: Bytes answers them where all of them are there, wherever they begin and end.
func TestBytesEverywhere(t *testing.T) {
	for _, pages := range []int{0, 1, 2, 3} {
		bytes := pattern(256 * pages)
		m := made(t, bytes, 8)
		end := int64(len(bytes))
		for at := int64(-2); at <= end+2; at++ {
			for n := int64(-2); n <= end+2; n++ {
				got, err := m.Bytes(at, n)
				if at < 0 || n < 0 || at+n > end {
					if got != "" || err != api.ErrBounds {
						t.Fatalf("%d pages: Bytes(%d, %d): %d bytes, %d", pages, at, n, len(got), err)
					}
					continue
				}
				if got != bytes[at:at+n] || err != api.OK {
					t.Fatalf("%d pages: Bytes(%d, %d): %d bytes, %d", pages, at, n, len(got), err)
				}
			}
		}
		holds(t, "Bytes", m, bytes)
	}
}

// P22: Bytes far off.
func TestBytesFarOff(t *testing.T) {
	bytes := pattern(2048)
	m := made(t, bytes, 8)
	near := []int64{0, 1, 255, 256, 2047, 2048}
	for _, a := range far() {
		for _, b := range append(far(), near...) {
			for _, pair := range [][2]int64{{a, b}, {b, a}} {
				if got, err := m.Bytes(pair[0], pair[1]); got != "" || err != api.ErrBounds {
					t.Errorf("Bytes(%d, %d): %d bytes, %d", pair[0], pair[1], len(got), err)
				}
			}
		}
	}
	if got, err := m.Bytes(0, 2048); got != bytes || err != api.OK {
		t.Errorf("Bytes of all: %d bytes, %d", len(got), err)
	}
	if got, err := m.Bytes(2048, 0); got != "" || err != api.OK {
		t.Errorf("Bytes of none at the end: %d bytes, %d", len(got), err)
	}
}

// P22: Put lays all bytes where they are all there, and else changes nothing.
func TestPutEverywhere(t *testing.T) {
	source := strings.Repeat("\x00\xff\x80putting", 80)
	for _, pages := range []int{0, 1, 2, 3} {
		bytes := pattern(256 * pages)
		end := int64(len(bytes))
		for at := int64(-2); at <= end+2; at++ {
			for _, n := range []int64{0, 1, 2, 3, 7, 8, 31, 32, 38, 255, 256, 257, 300, 511, 512, 513, 767, 768, 769} {
				m := made(t, bytes, 8)
				err := m.Put(at, source[:n])
				if at < 0 || at+n > end {
					if err != api.ErrBounds {
						t.Fatalf("%d pages: Put(%d, %d bytes): %d", pages, at, n, err)
					}
					holds(t, "Put out of bounds", m, bytes)
					continue
				}
				if err != api.OK {
					t.Fatalf("%d pages: Put(%d, %d bytes): %d", pages, at, n, err)
				}
				holds(t, "Put", m, bytes[:at]+source[:n]+bytes[at+n:])
			}
		}
	}
}

// P22: Put far off, and of more than any memory has.
func TestPutFarOff(t *testing.T) {
	bytes := pattern(2048)
	m := made(t, bytes, 8)
	for _, at := range far() {
		for _, n := range []int{0, 1, 256, 2048, 2049, 5000} {
			if err := m.Put(at, zeros(n)); err != api.ErrBounds {
				t.Errorf("Put(%d, %d bytes): %d", at, n, err)
			}
		}
	}
	for _, at := range []int64{0, 1, 2047, 2048} {
		for _, n := range []int{2049, 5000, 1 << 20} {
			if err := m.Put(at, zeros(n)); err != api.ErrBounds {
				t.Errorf("Put(%d, %d bytes): %d", at, n, err)
			}
		}
	}
	holds(t, "Put far off", m, bytes)
	if err := m.Put(2048, ""); err != api.OK {
		t.Errorf("Put of nothing at the end: %d", err)
	}
	if err := m.Put(0, zeros(2048)); err != api.OK {
		t.Errorf("Put of all: %d", err)
	}
	holds(t, "Put of all", m, zeros(2048))
}
