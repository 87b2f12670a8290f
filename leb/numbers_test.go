package leb_test

import (
	"math"
	"math/big"
	"strings"
	"testing"

	"troupe/api"
	"troupe/leb"
)

// What leb answers by name, held against the numbers of the document's section 'Words'.
func TestWords(t *testing.T) {
	got := [...]api.Errno{api.OK, api.ErrArg, api.ErrLarge, api.ErrShort, api.ErrForm}
	for i, e := range got {
		if int(e) != i {
			t.Errorf("error %d has the number %d", i, int(e))
		}
	}
	if api.MaxName != 16 {
		t.Errorf("MaxName is %d", api.MaxName)
	}
}

// P3.
func TestUWrites(t *testing.T) {
	for _, c := range []struct {
		n    uint64
		want string
	}{
		{0, "\x00"},
		{1, "\x01"},
		{63, "\x3f"},
		{64, "\x40"},
		{127, "\x7f"},
		{128, "\x80\x01"},
		{300, "\xac\x02"},
		{16383, "\xff\x7f"},
		{16384, "\x80\x80\x01"},
		{624485, "\xe5\x8e\x26"},
		{1<<32 - 1, "\xff\xff\xff\xff\x0f"},
		{1<<63 - 1, "\xff\xff\xff\xff\xff\xff\xff\xff\x7f"},
		{1 << 63, "\x80\x80\x80\x80\x80\x80\x80\x80\x80\x01"},
		{math.MaxUint64, "\xff\xff\xff\xff\xff\xff\xff\xff\xff\x01"},
	} {
		if got := leb.U(c.n); got != c.want {
			t.Errorf("U(%d) is %x, not %x", c.n, got, c.want)
		}
	}
}

// P3.
func TestSWrites(t *testing.T) {
	for _, c := range []struct {
		n    int64
		want string
	}{
		{0, "\x00"},
		{-1, "\x7f"},
		{63, "\x3f"},
		{64, "\xc0\x00"},
		{-64, "\x40"},
		{-65, "\xbf\x7f"},
		{127, "\xff\x00"},
		{128, "\x80\x01"},
		{-128, "\x80\x7f"},
		{8191, "\xff\x3f"},
		{8192, "\x80\xc0\x00"},
		{-8192, "\x80\x40"},
		{-8193, "\xff\xbf\x7f"},
		{-123456, "\xc0\xbb\x78"},
		{math.MaxInt32, "\xff\xff\xff\xff\x07"},
		{math.MinInt32, "\x80\x80\x80\x80\x78"},
		{math.MaxInt64, "\xff\xff\xff\xff\xff\xff\xff\xff\xff\x00"},
		{math.MinInt64, "\x80\x80\x80\x80\x80\x80\x80\x80\x80\x7f"},
	} {
		if got := leb.S(c.n); got != c.want {
			t.Errorf("S(%d) is %x, not %x", c.n, got, c.want)
		}
	}
}

// near answers numbers of all sizes: those around each power of 2, as bits.
func near() []uint64 {
	out := []uint64{0x0123456789abcdef, 0xaaaaaaaaaaaaaaaa}
	for shift := range 65 {
		for d := range uint64(7) {
			n := uint64(1)<<shift - 3 + d
			out = append(out, n, -n)
		}
	}
	return out
}

// value is what the bytes of one number stand for, however many there are.
func value(s string, signed bool) *big.Int {
	sum := new(big.Int)
	for i := range len(s) {
		part := big.NewInt(int64(s[i] & 127))
		sum.Add(sum, part.Lsh(part, uint(7*i)))
	}
	if signed && s[len(s)-1]&64 != 0 {
		sum.Sub(sum, new(big.Int).Lsh(big.NewInt(1), uint(7*len(s))))
	}
	return sum
}

// size is how many bytes n needs, counted by what so many groups of seven bits can hold.
func size(n *big.Int, signed bool) int {
	for k := 1; ; k++ {
		if inside(n, 7*k, signed) {
			return k
		}
	}
}

func inside(n *big.Int, bits int, signed bool) bool {
	least, above := new(big.Int), new(big.Int)
	if signed {
		above.Lsh(big.NewInt(1), uint(bits-1))
		least.Neg(above)
	} else {
		above.Lsh(big.NewInt(1), uint(bits))
	}
	return n.Cmp(least) >= 0 && n.Cmp(above) < 0
}

// checkWritten holds a written number against its value, its length and its marks.
func checkWritten(t *testing.T, s string, n *big.Int, signed bool) {
	t.Helper()
	if len(s) != size(n, signed) {
		t.Errorf("%v (sign %v): %x has %d bytes, not %d", n, signed, s, len(s), size(n, signed))
		return
	}
	for i := range len(s) {
		if (s[i] >= 128) != (i < len(s)-1) {
			t.Errorf("%v (sign %v): %x: byte %d tells wrongly whether one more follows", n, signed, s, i)
		}
	}
	if value(s, signed).Cmp(n) != 0 {
		t.Errorf("%v (sign %v): %x is %v", n, signed, s, value(s, signed))
	}
}

// P3.
func TestWrittenInFewestBytes(t *testing.T) {
	for _, n := range near() {
		checkWritten(t, leb.U(n), new(big.Int).SetUint64(n), false)
		checkWritten(t, leb.S(int64(n)), big.NewInt(int64(n)), true)
	}
}

// expect reads by the document's words, in numbers without a bound.
func expect(s string, bits int, signed bool) (*big.Int, int, api.Errno) {
	most := 5
	if bits == 64 {
		most = 10
	}
	k := 1
	for ; ; k++ {
		if len(s) < k {
			return new(big.Int), 0, api.ErrShort
		}
		if s[k-1] < 128 {
			break
		}
		if k == most {
			return new(big.Int), 0, api.ErrForm
		}
	}
	n := value(s[:k], signed)
	if !inside(n, bits, signed) {
		return new(big.Int), 0, api.ErrForm
	}
	return n, k, api.OK
}

// checkRead holds ReadU and ReadS of both widths against expect.
func checkRead(t *testing.T, s string) {
	t.Helper()
	for _, bits := range []int{32, 64} {
		n, k, e := leb.ReadU(s, bits)
		wantN, wantK, wantE := expect(s, bits, false)
		if new(big.Int).SetUint64(n).Cmp(wantN) != 0 || k != wantK || e != wantE {
			t.Errorf("ReadU(%x, %d) is %d, %d, %d, not %v, %d, %d", s, bits, n, k, e, wantN, wantK, wantE)
		}
		m, k, e := leb.ReadS(s, bits)
		wantN, wantK, wantE = expect(s, bits, true)
		if big.NewInt(m).Cmp(wantN) != 0 || k != wantK || e != wantE {
			t.Errorf("ReadS(%x, %d) is %d, %d, %d, not %v, %d, %d", s, bits, m, k, e, wantN, wantK, wantE)
		}
	}
}

// P4.
func TestReadU(t *testing.T) {
	nine := strings.Repeat("\xff", 9)
	for _, c := range []struct {
		s    string
		bits int
		n    uint64
		k    int
		e    api.Errno
	}{
		{"\x00", 32, 0, 1, api.OK},
		{"\x7f", 32, 127, 1, api.OK},
		{"\xac\x02", 32, 300, 2, api.OK},
		{"\xac\x02\xff\xff", 64, 300, 2, api.OK},
		{"\x80\x00", 32, 0, 2, api.OK},
		{"\x80\x80\x80\x80\x00", 32, 0, 5, api.OK},
		{"\x80\x80\x80\x80\x80\x00", 32, 0, 0, api.ErrForm},
		{"\x80\x80\x80\x80\x80\x00", 64, 0, 6, api.OK},
		{"\xac\x82\x80\x80\x00", 32, 300, 5, api.OK},
		{"\xff\xff\xff\xff\x0f", 32, 1<<32 - 1, 5, api.OK},
		{"\xff\xff\xff\xff\x10", 32, 0, 0, api.ErrForm},
		{"\xff\xff\xff\xff\x1f", 32, 0, 0, api.ErrForm},
		{"\xff\xff\xff\xff\x1f", 64, 1<<33 - 1, 5, api.OK},
		{"\xff\xff\xff\xff\x40", 32, 0, 0, api.ErrForm},
		{"\xff\xff\xff\xff\x8f", 32, 0, 0, api.ErrForm},
		{nine + "\x01", 64, math.MaxUint64, 10, api.OK},
		{nine + "\x00", 64, 1<<63 - 1, 10, api.OK},
		{nine + "\x02", 64, 0, 0, api.ErrForm},
		{nine + "\x7f", 64, 0, 0, api.ErrForm},
		{nine + "\x81", 64, 0, 0, api.ErrForm},
		{"", 32, 0, 0, api.ErrShort},
		{"", 64, 0, 0, api.ErrShort},
		{"\x80", 32, 0, 0, api.ErrShort},
		{"\xff\xff\xff\xff", 32, 0, 0, api.ErrShort},
		{"\xff\xff\xff\xff\xff", 64, 0, 0, api.ErrShort},
		{nine, 64, 0, 0, api.ErrShort},
	} {
		if n, k, e := leb.ReadU(c.s, c.bits); n != c.n || k != c.k || e != c.e {
			t.Errorf("ReadU(%x, %d) is %d, %d, %d, not %d, %d, %d", c.s, c.bits, n, k, e, c.n, c.k, c.e)
		}
	}
}

// P4.
func TestReadS(t *testing.T) {
	nines, none := strings.Repeat("\xff", 9), strings.Repeat("\x80", 9)
	for _, c := range []struct {
		s    string
		bits int
		n    int64
		k    int
		e    api.Errno
	}{
		{"\x00", 32, 0, 1, api.OK},
		{"\x3f", 32, 63, 1, api.OK},
		{"\x40", 32, -64, 1, api.OK},
		{"\x7f", 64, -1, 1, api.OK},
		{"\xbf\x7f\x00", 32, -65, 2, api.OK},
		{"\xc0\x00", 32, 64, 2, api.OK},
		{"\xff\x7f", 32, -1, 2, api.OK},
		{"\xff\xff\xff\xff\x7f", 32, -1, 5, api.OK},
		{"\xff\xff\xff\xff\xff\x7f", 32, 0, 0, api.ErrForm},
		{"\xff\xff\xff\xff\xff\x7f", 64, -1, 6, api.OK},
		{"\x80\x80\x80\x80\x00", 32, 0, 5, api.OK},
		{"\xff\xff\xff\xff\x07", 32, math.MaxInt32, 5, api.OK},
		{"\x80\x80\x80\x80\x78", 32, math.MinInt32, 5, api.OK},
		{"\xff\xff\xff\xff\x08", 32, 0, 0, api.ErrForm},
		{"\xff\xff\xff\xff\x0f", 32, 0, 0, api.ErrForm},
		{"\xff\xff\xff\xff\x0f", 64, 1<<32 - 1, 5, api.OK},
		{"\x80\x80\x80\x80\x70", 32, 0, 0, api.ErrForm},
		{"\x80\x80\x80\x80\x38", 32, 0, 0, api.ErrForm},
		{"\x80\x80\x80\x80\x47", 32, 0, 0, api.ErrForm},
		{"\x80\x80\x80\x80\xf8", 32, 0, 0, api.ErrForm},
		{nines + "\x00", 64, math.MaxInt64, 10, api.OK},
		{none + "\x7f", 64, math.MinInt64, 10, api.OK},
		{nines + "\x7f", 64, -1, 10, api.OK},
		{nines + "\x01", 64, 0, 0, api.ErrForm},
		{none + "\x7e", 64, 0, 0, api.ErrForm},
		{none + "\x40", 64, 0, 0, api.ErrForm},
		{none + "\xff", 64, 0, 0, api.ErrForm},
		{"", 32, 0, 0, api.ErrShort},
		{"", 64, 0, 0, api.ErrShort},
		{"\xff", 64, 0, 0, api.ErrShort},
		{"\x80\x80\x80\x80", 32, 0, 0, api.ErrShort},
		{nines, 64, 0, 0, api.ErrShort},
	} {
		if n, k, e := leb.ReadS(c.s, c.bits); n != c.n || k != c.k || e != c.e {
			t.Errorf("ReadS(%x, %d) is %d, %d, %d, not %d, %d, %d", c.s, c.bits, n, k, e, c.n, c.k, c.e)
		}
	}
}

// P4: bits are looked at ahead of s.
func TestReadWrongBits(t *testing.T) {
	for _, bits := range []int{math.MinInt, -64, -32, -1, 0, 1, 7, 8, 31, 33, 63, 65, 96, 128, 1<<32 + 32, math.MaxInt} {
		for _, s := range []string{"", "\x00", "\x80", strings.Repeat("\xff", 12)} {
			if n, k, e := leb.ReadU(s, bits); n != 0 || k != 0 || e != api.ErrArg {
				t.Errorf("ReadU(%x, %d) is %d, %d, %d", s, bits, n, k, e)
			}
			if n, k, e := leb.ReadS(s, bits); n != 0 || k != 0 || e != api.ErrArg {
				t.Errorf("ReadS(%x, %d) is %d, %d, %d", s, bits, n, k, e)
			}
		}
	}
}

// P4: what was written is read, and each piece of it ends too early.
func TestReadWhatWasWritten(t *testing.T) {
	for _, n := range near() {
		for _, s := range []string{leb.U(n), leb.S(int64(n))} {
			for end := range len(s) {
				checkRead(t, s[:end])
			}
			checkRead(t, s)
			checkRead(t, s+"\x80\x7f")
		}
	}
}

// longer answers the same number with more bytes than it needs.
func longer(s string, fill byte, by int) string {
	out := []byte(s)
	for range by {
		out[len(out)-1] |= 128
		out = append(out, fill)
	}
	return string(out)
}

// P4: numbers with more bytes than they need, up to those that have too many.
func TestReadLonger(t *testing.T) {
	for _, n := range near() {
		u, s := leb.U(n), leb.S(int64(n))
		fill := byte(0)
		if int64(n) < 0 {
			fill = 127
		}
		for by := 1; by < 12; by++ {
			checkRead(t, longer(u, 0, by))
			checkRead(t, longer(s, fill, by))
		}
		if m, k, e := leb.ReadU(longer(u, 0, 10-len(u)), 64); m != n || k != 10 || e != api.OK {
			t.Errorf("%d in ten bytes is %d, %d, %d", n, m, k, e)
		}
		if m, k, e := leb.ReadS(longer(s, fill, 10-len(s)), 64); m != int64(n) || k != 10 || e != api.OK {
			t.Errorf("%d in ten bytes is %d, %d, %d", int64(n), m, k, e)
		}
	}
}

// P4: every byte at every place, behind bytes of several kinds, with and without something behind it.
func TestReadEveryByteAtEveryPlace(t *testing.T) {
	for _, before := range []string{"\x80", "\xff", "\xaa", "\xc0", "\xbf"} {
		for place := range 12 {
			for b := range 256 {
				s := strings.Repeat(before, place) + string([]byte{byte(b)})
				checkRead(t, s)
				checkRead(t, s+"\x01")
				checkRead(t, s+strings.Repeat("\xff", 12))
			}
		}
	}
}

// P1, P4: every text of at most two bytes.
func TestReadEveryShortText(t *testing.T) {
	for a := range 256 {
		checkRead(t, string([]byte{byte(a)}))
		for b := range 256 {
			checkRead(t, string([]byte{byte(a), byte(b)}))
		}
	}
}
