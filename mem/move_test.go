package mem_test

import (
	"math"
	"math/big"
	"testing"

	"troupe/api"
	"troupe/mem"
)

// move is a load or a store of P9, written out.
type move struct {
	op    byte
	width int
	store bool
	sign  bool // of loads
}

func moves() []move {
	return []move{
		{40, 4, false, true}, {41, 8, false, true},
		{44, 1, false, true}, {45, 1, false, false}, {46, 2, false, true}, {47, 2, false, false},
		{48, 1, false, true}, {49, 1, false, false}, {50, 2, false, true}, {51, 2, false, false}, {52, 4, false, true}, {53, 4, false, false},
		{54, 4, true, false}, {55, 8, true, false},
		{58, 1, true, false}, {59, 2, true, false},
		{60, 1, true, false}, {61, 2, true, false}, {62, 4, true, false},
	}
}

func moveOf(op byte) (move, bool) {
	for _, x := range moves() {
		if x.op == op {
			return x, true
		}
	}
	return move{}, false
}

// loaded is the number that some bytes are, worked out in the library's big numbers.
func loaded(bytes string, sign bool) int64 {
	n := new(big.Int)
	for i := len(bytes) - 1; i >= 0; i-- {
		n.Mul(n, big.NewInt(256))
		n.Add(n, big.NewInt(int64(bytes[i])))
	}
	if sign && bytes[len(bytes)-1] >= 128 {
		n.Sub(n, new(big.Int).Lsh(big.NewInt(1), uint(8*len(bytes))))
	}
	return n.Int64()
}

// lowest are so many of the lowest bytes of v, worked out in the library's big numbers.
func lowest(v int64, width int) string {
	n, byteOf := big.NewInt(v), new(big.Int)
	var out []byte
	for range width {
		n.DivMod(n, big.NewInt(256), byteOf)
		out = append(out, byte(byteOf.Int64()))
	}
	return string(out)
}

// values are numbers at which a width or a sign ends, and some ordinary ones.
func values() []int64 {
	out := []int64{0, 1, 2, 100, 0x0102030405060708, 0x7766554433221180, -0x0102030405060708, math.MinInt64, math.MaxInt64}
	for _, k := range []int{7, 8, 15, 16, 24, 31, 32, 33, 40, 48, 56, 63} {
		p := int64(1) << k
		out = append(out, p-1, p, p+1, -p-1, -p, 1-p)
	}
	return out
}

// P22: numbers worked out by hand.
func TestLoadByHand(t *testing.T) {
	bytes := "\x01\x02\x03\x04\x05\x06\x07\x08\x80\xff\x7f\xfe\xff\xff\xff\xff\xff\xff\xff\xff\x00\x00\x00\x80\x00\x00\x00\x00\x00\x00\x00\x80"
	m := made(t, bytes+zeros(256-len(bytes)), 1)
	rows := []struct {
		op      byte
		at, out int64
	}{
		{40, 0, 0x04030201}, {40, 12, -1}, {40, 20, math.MinInt32}, {40, 8, -0x01800080}, {40, 7, 0x7fff8008},
		{41, 0, 0x0807060504030201}, {41, 12, -1}, {41, 24, math.MinInt64}, {41, 16, math.MinInt32<<32 + 1<<32 - 1},
		{44, 0, 1}, {44, 8, -128}, {44, 9, -1}, {44, 10, 127}, {45, 0, 1}, {45, 8, 128}, {45, 9, 255}, {45, 10, 127},
		{46, 0, 513}, {46, 8, -128}, {46, 9, 0x7fff}, {46, 22, -32768}, {46, 12, -1}, {47, 0, 513}, {47, 8, 0xff80}, {47, 9, 0x7fff}, {47, 22, 32768}, {47, 12, 65535},
		{48, 0, 1}, {48, 8, -128}, {48, 9, -1}, {48, 10, 127}, {49, 0, 1}, {49, 8, 128}, {49, 9, 255}, {49, 10, 127},
		{50, 0, 513}, {50, 8, -128}, {50, 9, 0x7fff}, {50, 22, -32768}, {51, 0, 513}, {51, 8, 0xff80}, {51, 9, 0x7fff}, {51, 22, 32768},
		{52, 0, 0x04030201}, {52, 12, -1}, {52, 20, math.MinInt32}, {53, 0, 0x04030201}, {53, 12, math.MaxUint32}, {53, 20, 1 << 31},
	}
	for _, r := range rows {
		if got, err := m.Load(r.op, r.at, 0); got != r.out || err != api.OK {
			t.Errorf("Load(%d) at %d: %d, %d, not %d", r.op, r.at, got, err, r.out)
		}
	}
}

// P22: bytes worked out by hand.
func TestStoreByHand(t *testing.T) {
	const old = "........"
	rows := []struct {
		op  byte
		v   int64
		out string
	}{
		{54, 1, "\x01\x00\x00\x00...."}, {54, -2, "\xfe\xff\xff\xff...."}, {54, 0x0807060504030201, "\x01\x02\x03\x04...."},
		{55, 1, "\x01\x00\x00\x00\x00\x00\x00\x00"}, {55, -2, "\xfe\xff\xff\xff\xff\xff\xff\xff"}, {55, 0x0807060504030201, "\x01\x02\x03\x04\x05\x06\x07\x08"},
		{58, 256, "\x00......."}, {58, -1, "\xff......."}, {58, 0x0201, "\x01......."},
		{59, 256, "\x00\x01......"}, {59, -1, "\xff\xff......"}, {59, 0x030201, "\x01\x02......"},
		{60, 256, "\x00......."}, {60, -1, "\xff......."}, {60, 0x0201, "\x01......."},
		{61, 256, "\x00\x01......"}, {61, -1, "\xff\xff......"}, {61, 0x030201, "\x01\x02......"},
		{62, 1 << 32, "\x00\x00\x00\x00...."}, {62, -1, "\xff\xff\xff\xff...."}, {62, 0x0504030201, "\x01\x02\x03\x04...."},
	}
	for _, r := range rows {
		m := made(t, old+zeros(248), 1)
		if err := m.Store(r.op, 0, 0, r.v); err != api.OK {
			t.Errorf("Store(%d) of %d: %d", r.op, r.v, err)
		}
		holds(t, "Store", m, r.out+zeros(248))
	}
}

// The document's example of this chapter.
func TestExample(t *testing.T) {
	m, _ := mem.New(1, 1)
	if err := m.Store(54, 2, 0, -1); err != api.OK {
		t.Error(err)
	}
	for op, want := range map[byte]int64{46: -1, 50: -1, 47: 65535, 51: 65535} {
		if got, err := m.Load(op, 4, 0); got != want || err != api.OK {
			t.Errorf("Load(%d): %d, %d, not %d", op, got, err, want)
		}
	}
}

// P22: of every byte as an instruction it is asked first whether it is a load (a store), then whether off is right, then where it is.
func TestOrderOfErrors(t *testing.T) {
	bytes := pattern(256)
	m := made(t, bytes, 1)
	for op := range 256 {
		x, is := moveOf(byte(op))
		for _, base := range []int64{0, 256, -1} {
			for _, off := range []int64{0, -1, math.MaxUint32, 1 << 32} {
				want := api.OK
				switch {
				case off < 0 || off > math.MaxUint32:
					want = api.ErrArg
				case base != 0 || off != 0:
					want = api.ErrBounds
				}
				wantLoad, wantStore := api.ErrUnsup, api.ErrUnsup
				if is && x.store {
					wantStore = want
				} else if is {
					wantLoad = want
				}
				if got, err := m.Load(byte(op), base, off); err != wantLoad || err != api.OK && got != 0 {
					t.Errorf("Load(%d, %d, %d): %d, %d, not %d", op, base, off, got, err, wantLoad)
				}
				if err := m.Store(byte(op), base, off, -1); err != wantStore {
					t.Errorf("Store(%d, %d, %d): %d, not %d", op, base, off, err, wantStore)
				}
				if wantStore == api.OK {
					m.Put(0, bytes)
				}
				holds(t, "a load or a store", m, bytes)
			}
		}
	}
}

// check holds what m, which has these bytes, does with x at base and off against a reckoning of its own; what it changed is put back.
func check(t *testing.T, m *mem.Mem, bytes string, x move, base, off, v int64) {
	t.Helper()
	want, at := api.OK, new(big.Int)
	at.Mod(big.NewInt(base), big.NewInt(1<<32))
	at.Add(at, big.NewInt(off))
	end := new(big.Int).Add(at, big.NewInt(int64(x.width)))
	switch {
	case off < 0 || off >= 1<<32:
		want = api.ErrArg
	case end.Cmp(big.NewInt(int64(len(bytes)))) > 0:
		want = api.ErrBounds
	}
	after, out := bytes, int64(0)
	if want == api.OK {
		from, to := at.Int64(), end.Int64()
		if x.store {
			after = bytes[:from] + lowest(v, x.width) + bytes[to:]
		} else {
			out = loaded(bytes[from:to], x.sign)
		}
	}
	if x.store {
		if err := m.Store(x.op, base, off, v); err != want {
			t.Errorf("%d bytes: Store(%d, %d, %d, %d): %d, not %d", len(bytes), x.op, base, off, v, err, want)
		}
	} else if got, err := m.Load(x.op, base, off); got != out || err != want {
		t.Errorf("%d bytes: Load(%d, %d, %d): %d, %d, not %d, %d", len(bytes), x.op, base, off, got, err, out, want)
	}
	holds(t, "what it left", m, after)
	if after != bytes {
		m.Put(0, bytes)
	}
}

// P22: every load and store at every place of every small memory, told by the base alone, by off alone, and by both.
func TestEveryPlace(t *testing.T) {
	for pages := range 4 {
		bytes := pattern(256 * pages)
		m := made(t, bytes, 8)
		for at := range int64(len(bytes) + 10) {
			for _, x := range moves() {
				check(t, m, bytes, x, at, 0, 0x7a81c2f38455e697)
				check(t, m, bytes, x, 0, at, -0x7a81c2f38455e697)
				check(t, m, bytes, x, at/3, at-at/3, -1)
			}
		}
	}
}

// P22: a base is taken without a sign, and by its lowest 32 bits; off isn't: that must be from 0 to 4294967295.
func TestFarPlaces(t *testing.T) {
	bases := []int64{0, 1, 248, 252, 255, 256, 2040, 2044, 2047, 2048}
	for _, n := range bases[:10:10] {
		bases = append(bases, n+1<<32, n-1<<32, n+1<<40, n+math.MinInt64, -n, 1<<32-n, math.MaxInt32-n, 1<<31+n, math.MinInt32+n, math.MaxInt64-n)
	}
	offs := append(far(), bases...)
	for _, pages := range []int{0, 1, 8} {
		bytes := pattern(256 * pages)
		m := made(t, bytes, 8)
		for _, x := range moves() {
			for _, base := range bases {
				for _, off := range offs {
					check(t, m, bytes, x, base, off, 77)
				}
			}
		}
	}
}

// P22: every store puts every number so that every load finds it, within a page and over a page's end.
func TestEveryValue(t *testing.T) {
	bytes := pattern(512)
	m := made(t, bytes, 2)
	for _, at := range []int64{0, 17, 249, 251, 253, 255, 256, 504} {
		for _, v := range values() {
			for _, x := range moves() {
				if x.store {
					check(t, m, bytes, x, at, 0, v)
					continue
				}
				held := bytes[:at] + lowest(v, 8) + bytes[at+8:]
				m.Put(0, held)
				check(t, m, held, x, at, 0, 0)
				m.Put(0, bytes)
			}
		}
	}
}

// P22: a load of one and of two bytes finds each number that these can be.
func TestEveryPairOfBytes(t *testing.T) {
	m, _ := mem.New(1, 1)
	for n := range 65536 {
		m.Put(9, string([]byte{byte(n), byte(n >> 8)}))
		for op, want := range map[byte]int64{
			44: int64(int8(n)), 45: int64(uint8(n)), 46: int64(int16(n)), 47: int64(n),
			48: int64(int8(n)), 49: int64(uint8(n)), 50: int64(int16(n)), 51: int64(n),
		} {
			if got, err := m.Load(op, 4, 5); got != want || err != api.OK {
				t.Fatalf("Load(%d) of %d: %d, %d, not %d", op, n, got, err, want)
			}
		}
	}
}
