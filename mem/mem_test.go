package mem_test

import (
	"math"
	"strings"
	"testing"

	"troupe/api"
	"troupe/mem"
)

// pattern is a text of so many bytes in which no two pages, and no two places near each other, look alike.
func pattern(length int) string {
	out := make([]byte, length)
	for i := range out {
		out[i] = byte(i*7 + i/256*31 + 1)
	}
	return string(out)
}

func zeros(length int) string {
	return strings.Repeat("\x00", length)
}

// made answers a memory that has these bytes.
func made(t *testing.T, bytes string, most int) *mem.Mem {
	t.Helper()
	m, err := mem.Of(bytes, most)
	if err != api.OK || m == nil {
		t.Fatalf("Of %d bytes, at most %d pages: %d", len(bytes), most, err)
	}
	return m
}

// holds fails, unless m has just these bytes.
func holds(t *testing.T, what string, m *mem.Mem, bytes string) {
	t.Helper()
	if got := m.All(); got != bytes {
		t.Errorf("%s: the memory has other bytes, %d, not %d", what, len(got), len(bytes))
	}
	if got := m.Size(); got != len(bytes)/256 {
		t.Errorf("%s: %d pages, not %d", what, got, len(bytes)/256)
	}
}

// counts are numbers of pages: all that there may be, those next to them, and those far off.
func counts() []int {
	out := []int{math.MinInt, math.MinInt + 1, math.MinInt32, -256, math.MaxInt - 1, math.MaxInt, math.MaxInt32, 1 << 32, 1<<32 + 1, -1 << 32, 255, 256, 257}
	for n := -9; n <= 17; n++ {
		out = append(out, n)
	}
	return out
}

// P21: New answers a memory for 0 <= pages <= most <= 8 alone.
func TestNew(t *testing.T) {
	right := 0
	for _, pages := range counts() {
		for _, most := range counts() {
			m, err := mem.New(pages, most)
			if pages < 0 || pages > most || most > 8 {
				if m != nil || err != api.ErrArg {
					t.Errorf("New(%d, %d): %v, %d", pages, most, m != nil, err)
				}
				continue
			}
			right++
			if m == nil || err != api.OK {
				t.Fatalf("New(%d, %d): %d", pages, most, err)
			}
			holds(t, "New", m, zeros(256*pages))
		}
	}
	if right != 45 {
		t.Errorf("%d pairs of pages and most are right, not 45", right)
	}
}

// P21: Of answers a memory for whole pages alone, at most most of them, which is from 0 to 8.
func TestOf(t *testing.T) {
	long := pattern(2600)
	for length := range len(long) {
		for most := -2; most <= 11; most++ {
			m, err := mem.Of(long[:length], most)
			if most < 0 || most > 8 || length%256 != 0 || length > 256*most {
				if m != nil || err != api.ErrArg {
					t.Errorf("Of %d bytes, most %d: %v, %d", length, most, m != nil, err)
				}
				continue
			}
			if m == nil || err != api.OK {
				t.Fatalf("Of %d bytes, most %d: %d", length, most, err)
			}
			holds(t, "Of", m, long[:length])
		}
	}
	for _, most := range counts() {
		want := api.ErrArg
		if 0 <= most && most <= 8 {
			want = api.OK
		}
		if _, err := mem.Of("", most); err != want {
			t.Errorf("Of nothing, most %d: %d, not %d", most, err, want)
		}
		if m, err := mem.Of(zeros(1<<20), most); m != nil || err != api.ErrArg {
			t.Errorf("Of 4096 pages, most %d: %v, %d", most, m != nil, err)
		}
	}
}

// P21: what New and Of were told is the most that Grow goes to.
func TestMostIsKept(t *testing.T) {
	for most := range 9 {
		for pages := range most + 1 {
			fresh, _ := mem.New(pages, most)
			for _, m := range []*mem.Mem{fresh, made(t, pattern(256*pages), most)} {
				for size := pages; size < most; size++ {
					if got := m.Grow(1); got != int64(size) {
						t.Errorf("pages %d, most %d: Grow(1) at %d: %d", pages, most, size, got)
					}
				}
				if got := m.Grow(1); got != -1 || m.Size() != most {
					t.Errorf("pages %d, most %d: Grow(1) at the most: %d, %d pages", pages, most, got, m.Size())
				}
			}
		}
	}
}

// grown are numbers of pages as Grow takes them, and what they are as an I32 without a sign.
func grown() map[int64]int64 {
	out := map[int64]int64{
		-1: math.MaxUint32, -2: math.MaxUint32 - 1, -8: math.MaxUint32 - 7,
		math.MaxInt32: math.MaxInt32, math.MaxInt32 + 1: 1 << 31, math.MinInt32: 1 << 31,
		math.MaxUint32: math.MaxUint32, math.MaxUint32 - 1: math.MaxUint32 - 1,
		math.MaxInt64: math.MaxUint32, math.MinInt64: 0, math.MinInt64 + 1: 1, math.MinInt64 + 3: 3,
		256: 256, 65536: 65536,
	}
	for n := range int64(12) {
		out[n] = n
		out[1<<32+n] = n
		out[1<<40+n] = n
		out[-1<<32+n] = n
		out[-1<<63+n] = n
	}
	return out
}

// P21: Grow adds n pages of 0, n without a sign, if that isn't more than most; else it changes nothing.
func TestGrow(t *testing.T) {
	for most := range 9 {
		for pages := range most + 1 {
			for n, more := range grown() {
				before := pattern(256 * pages)
				m := made(t, before, most)
				got := m.Grow(n)
				if int64(pages)+more > int64(most) {
					if got != -1 {
						t.Errorf("%d of %d pages: Grow(%d): %d, not -1", pages, most, n, got)
					}
					holds(t, "Grow too far", m, before)
					continue
				}
				if got != int64(pages) {
					t.Errorf("%d of %d pages: Grow(%d): %d", pages, most, n, got)
				}
				holds(t, "Grow", m, before+zeros(256*int(more)))
			}
		}
	}
}

// P21: a Grow that failed takes no room from the next one.
func TestGrowBehindFailure(t *testing.T) {
	m := made(t, pattern(512), 5)
	steps := []struct{ n, out int64 }{{4, -1}, {-1, -1}, {2, 2}, {2, -1}, {0, 4}, {1, 4}, {1, -1}, {0, 5}, {1 << 32, 5}, {1<<32 + 1, -1}}
	for _, s := range steps {
		if got := m.Grow(s.n); got != s.out {
			t.Errorf("Grow(%d): %d, not %d", s.n, got, s.out)
		}
	}
	holds(t, "Grow again and again", m, pattern(512)+zeros(768))
}

// P21: what is behind the last page can be used once it is there, and not before.
func TestGrownPageIsUsed(t *testing.T) {
	m := made(t, pattern(256), 3)
	if err := m.Put(255, "ab"); err != api.ErrBounds {
		t.Errorf("Put over the end: %d", err)
	}
	m.Grow(1)
	if err := m.Put(255, "ab"); err != api.OK {
		t.Errorf("Put over the old end: %d", err)
	}
	if err := m.Store(55, 504, 0, -1); err != api.OK {
		t.Errorf("Store at the new end: %d", err)
	}
	m.Grow(1)
	holds(t, "grown twice", m, pattern(255)+"ab"+zeros(247)+strings.Repeat("\xff", 8)+zeros(256))
}

// P2: no memory shares its bytes with another one.
func TestMemoriesAreApart(t *testing.T) {
	first := pattern(512)
	a, b := made(t, first, 4), made(t, first, 4)
	c := made(t, a.All(), 4)
	d, _ := mem.New(2, 4)
	for _, m := range []*mem.Mem{a, c} {
		m.Put(0, "changed")
		m.Store(55, 256, 0, -1)
		m.Grow(1)
	}
	holds(t, "the second of the same bytes", b, first)
	holds(t, "the one of New", d, zeros(512))
	b.Put(100, "also")
	changed := "changed" + first[7:256] + strings.Repeat("\xff", 8) + first[264:] + zeros(256)
	holds(t, "the first one", a, changed)
	holds(t, "that of the first one's bytes", c, changed)
}

// P2: what was told stays as it was told.
func TestToldStays(t *testing.T) {
	m := made(t, pattern(768), 4)
	all := m.All()
	part, _ := m.Bytes(250, 300)
	m.Put(0, strings.Repeat("x", 768))
	m.Store(54, 300, 0, 0)
	m.Grow(1)
	if all != pattern(768) || part != pattern(768)[250:550] {
		t.Error("what was told has changed with the memory")
	}
}
