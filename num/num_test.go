package num_test

import (
	"math"
	"math/big"
	"math/bits"
	"testing"

	"troupe/api"
	"troupe/num"
)

// edges are the numbers at which one kind, one width or one sign ends and the next begins, and some ordinary ones.
func edges() []int64 {
	out := []int64{0, 3, 5, 6, 7, 10, 100, 300, 65537, 1000003, 305419896, 81985529216486895, 0x5555555555555555, 0x0f0f0f0f0f0f0f0f}
	for _, k := range []int{1, 3, 5, 6, 7, 8, 12, 15, 16, 24, 30, 31, 32, 33, 40, 47, 48, 62, 63} {
		p := int64(1) << k
		out = append(out, p-2, p-1, p, p+1)
	}
	for _, n := range out[1:] {
		out = append(out, -n)
	}
	return out
}

// some follow a fixed rule, so that every run tries the same numbers.
func some(count int) []int64 {
	var out []int64
	n := uint64(88172645463325252)
	for i := range count {
		n ^= n << 13
		n ^= n >> 7
		n ^= n << 17
		out = append(out, int64(n>>(i%60)))
	}
	return out
}

// P6: Fit is that of 32 bits for I32 alone.
func TestFit(t *testing.T) {
	rows := []struct{ in, out int64 }{
		{0, 0}, {1, 1}, {-1, -1},
		{math.MaxInt32, math.MaxInt32},
		{math.MaxInt32 + 1, math.MinInt32},
		{math.MinInt32, math.MinInt32},
		{math.MinInt32 - 1, math.MaxInt32},
		{1<<32 - 1, -1},
		{1 << 32, 0},
		{1<<32 + 5, 5},
		{-1 << 32, 0},
		{-1<<32 - 1, -1},
		{math.MaxInt64, -1},
		{math.MinInt64, 0},
		{math.MinInt64 + 7, 7},
		{0x123456789abcdef0, -0x65432110},
	}
	for _, r := range rows {
		if got := num.Fit(api.I32, r.in); got != r.out {
			t.Errorf("Fit(I32, %d): %d, not %d", r.in, got, r.out)
		}
	}
	for k := range 256 {
		for _, a := range edges() {
			want := a
			if api.Kind(k) == api.I32 {
				want = fitted(32, big.NewInt(a))
			}
			if got := num.Fit(api.Kind(k), a); got != want {
				t.Errorf("Fit(%d, %d): %d, not %d", k, a, got, want)
			}
		}
	}
}

// P7: what the table says, by numbers worked out by hand.
func TestOneByHand(t *testing.T) {
	rows := []struct {
		op     byte
		a, out int64
	}{
		{69, 0, 1}, {69, 1, 0}, {69, -1, 0}, {69, 1 << 32, 1}, {69, math.MinInt64, 1}, {69, math.MinInt32, 0},
		{80, 0, 1}, {80, 1, 0}, {80, -1, 0}, {80, 1 << 32, 0}, {80, math.MinInt64, 0},
		{103, 0, 32}, {103, 1, 31}, {103, -1, 0}, {103, math.MaxInt32, 1}, {103, math.MinInt32, 0}, {103, 1 << 32, 32}, {103, 1<<40 + 256, 23},
		{121, 0, 64}, {121, 1, 63}, {121, -1, 0}, {121, math.MaxInt64, 1}, {121, math.MinInt64, 0}, {121, 1 << 32, 31},
		{104, 0, 32}, {104, 1, 0}, {104, 8, 3}, {104, -1, 0}, {104, math.MinInt32, 31}, {104, 1 << 32, 32}, {104, math.MinInt64, 32},
		{122, 0, 64}, {122, 1, 0}, {122, 8, 3}, {122, 1 << 32, 32}, {122, math.MinInt64, 63},
		{105, 0, 0}, {105, -1, 32}, {105, 1 << 32, 0}, {105, 7, 3}, {105, math.MinInt32, 1}, {105, math.MaxInt32, 31},
		{123, 0, 0}, {123, -1, 64}, {123, 1 << 32, 1}, {123, math.MinInt32, 33}, {123, math.MaxInt64, 63}, {123, math.MinInt64, 1},
		{192, 127, 127}, {192, 128, -128}, {192, 255, -1}, {192, 256, 0}, {192, -129, 127}, {192, 200, -56},
		{194, 127, 127}, {194, 128, -128}, {194, 255, -1}, {194, 256, 0}, {194, -129, 127}, {194, math.MinInt64 + 128, -128},
		{193, 32767, 32767}, {193, 32768, -32768}, {193, 65535, -1}, {193, 65536, 0}, {193, 128, 128}, {193, -32769, 32767},
		{195, 32767, 32767}, {195, 32768, -32768}, {195, 65535, -1}, {195, 65536, 0}, {195, 128, 128}, {195, -32769, 32767},
		{196, math.MaxInt32, math.MaxInt32}, {196, 1 << 31, math.MinInt32}, {196, 1<<32 + 5, 5}, {196, 1<<32 - 1, -1}, {196, 32768, 32768},
		{167, 1 << 31, math.MinInt32}, {167, 1 << 32, 0}, {167, -1, -1}, {167, math.MinInt64 + 9, 9}, {167, math.MaxInt64, -1},
		{172, -1, -1}, {172, math.MinInt32, math.MinInt32}, {172, math.MaxInt32, math.MaxInt32}, {172, 1<<32 - 1, -1}, {172, 1<<32 + 1, 1},
		{173, -1, 1<<32 - 1}, {173, math.MinInt32, 1 << 31}, {173, math.MaxInt32, math.MaxInt32}, {173, 1<<32 + 1, 1}, {173, math.MinInt64, 0},
	}
	for _, r := range rows {
		if got, err := num.One(r.op, r.a); got != r.out || err != api.OK {
			t.Errorf("One(%d, %d): %d, %d, not %d", r.op, r.a, got, err, r.out)
		}
	}
}

// P8: what the table says, by numbers worked out by hand.
func TestTwoByHand(t *testing.T) {
	const least, most, longLeast, longMost = math.MinInt32, math.MaxInt32, math.MinInt64, math.MaxInt64
	rows := []struct {
		op        byte
		a, b, out int64
	}{
		{70, 5, 5, 1}, {70, 5, 6, 0}, {70, 1<<32 + 5, 5, 1}, {81, 5, 5, 1}, {81, 1<<32 + 5, 5, 0},
		{71, 5, 5, 0}, {71, 5, 6, 1}, {71, 1<<32 + 5, 5, 0}, {82, 5, 5, 0}, {82, 1<<32 + 5, 5, 1},
		{72, -1, 1, 1}, {72, 1, 1, 0}, {72, 1 << 31, 0, 1}, {83, -1, 1, 1}, {83, 1, 1, 0}, {83, 1 << 31, 0, 0},
		{73, -1, 1, 0}, {73, 1, 1, 0}, {73, 1, -1, 1}, {84, -1, 1, 0}, {84, 1, 1, 0}, {84, 1, -1, 1},
		{74, -1, 1, 0}, {74, 1, 1, 0}, {74, 1, -1, 1}, {85, -1, 1, 0}, {85, 1, 1, 0}, {85, 1, -1, 1},
		{75, -1, 1, 1}, {75, 1, 1, 0}, {75, 1, -1, 0}, {86, -1, 1, 1}, {86, 1, 1, 0}, {86, 1, -1, 0},
		{76, -1, 1, 1}, {76, 1, 1, 1}, {76, 1, -1, 0}, {87, -1, 1, 1}, {87, 1, 1, 1}, {87, 1, -1, 0},
		{77, -1, 1, 0}, {77, 1, 1, 1}, {77, 1, -1, 1}, {88, -1, 1, 0}, {88, 1, 1, 1}, {88, 1, -1, 1},
		{78, -1, 1, 0}, {78, 1, 1, 1}, {78, 1, -1, 1}, {89, -1, 1, 0}, {89, 1, 1, 1}, {89, 1, -1, 1},
		{79, -1, 1, 1}, {79, 1, 1, 1}, {79, 1, -1, 0}, {90, -1, 1, 1}, {90, 1, 1, 1}, {90, 1, -1, 0},
		{106, most, 1, least}, {106, 1 << 32, 7, 7}, {106, -1, 1, 0}, {124, most, 1, 1 << 31}, {124, longMost, 1, longLeast},
		{107, least, 1, most}, {107, 3, 5, -2}, {125, least, 1, least - 1}, {125, longLeast, 1, longMost},
		{108, 1 << 16, 1 << 16, 0}, {108, least, -1, least}, {108, -3, 5, -15}, {126, 1 << 16, 1 << 16, 1 << 32}, {126, longLeast, -1, longLeast},
		{109, 7, 2, 3}, {109, -7, 2, -3}, {109, 7, -2, -3}, {109, -7, -2, 3}, {109, least, 1, least}, {109, most, -1, -most}, {109, least, least, 1}, {109, 1<<32 + 8, 2, 4},
		{127, 7, 2, 3}, {127, -7, 2, -3}, {127, 7, -2, -3}, {127, -7, -2, 3}, {127, least, -1, 1 << 31}, {127, longLeast, 1, longLeast}, {127, longMost, -1, -longMost},
		{110, -1, 2, most}, {110, least, -1, 0}, {110, -1, 1, -1}, {110, -1, -1, 1}, {110, 7, 2, 3},
		{128, -1, 2, longMost}, {128, longLeast, -1, 0}, {128, -1, 1, -1}, {128, -1, -1, 1}, {128, 7, 2, 3},
		{111, 7, 2, 1}, {111, -7, 2, -1}, {111, 7, -2, 1}, {111, -7, -2, -1}, {111, least, -1, 0},
		{129, 7, 2, 1}, {129, -7, 2, -1}, {129, 7, -2, 1}, {129, -7, -2, -1}, {129, longLeast, -1, 0}, {129, least, -1, 0},
		{112, -1, 10, 5}, {112, 7, -2, 7}, {112, least, -1, least}, {112, -2, -1, -2},
		{130, -1, 10, 5}, {130, 7, -2, 7}, {130, longLeast, -1, longLeast}, {130, -2, -1, -2},
		{113, 12, 10, 8}, {113, -1, 1<<32 + 3, 3}, {131, 12, 10, 8}, {131, -1, 1<<32 + 3, 1<<32 + 3},
		{114, 12, 10, 14}, {114, 0, 1 << 31, least}, {132, 12, 10, 14}, {132, 0, 1 << 31, 1 << 31},
		{115, 12, 10, 6}, {115, -1, 1 << 31, most}, {133, 12, 10, 6}, {133, -1, longLeast, longMost},
		{116, 1, 0, 1}, {116, 1, 31, least}, {116, 1, 32, 1}, {116, 1, 33, 2}, {116, 1, -1, least}, {116, 3, -32, 3},
		{134, 1, 0, 1}, {134, 1, 31, 1 << 31}, {134, 1, 63, longLeast}, {134, 1, 64, 1}, {134, 1, 65, 2}, {134, 1, -1, longLeast}, {134, 3, -64, 3},
		{117, -8, 0, -8}, {117, -8, 33, -4}, {117, least, 31, -1}, {117, least, -1, -1}, {117, most, 30, 1}, {117, -8, 32, -8},
		{135, -8, 0, -8}, {135, -8, 65, -4}, {135, longLeast, 63, -1}, {135, longLeast, -1, -1}, {135, longMost, 62, 1}, {135, -8, 64, -8},
		{118, -8, 0, -8}, {118, -1, 31, 1}, {118, -1, -1, 1}, {118, -1, 32, -1}, {118, -1, 1, most}, {118, 1 << 32, 1, 0},
		{136, -8, 0, -8}, {136, -1, 63, 1}, {136, -1, -1, 1}, {136, -1, 64, -1}, {136, -1, 1, longMost}, {136, 1 << 32, 1, 1 << 31},
		{119, 5, 0, 5}, {119, 1, 33, 2}, {119, least, 1, 1}, {119, 0x12345678, 8, 0x34567812}, {119, 1, -1, least}, {119, 5, 32, 5},
		{137, 5, 0, 5}, {137, 1, 65, 2}, {137, longLeast, 1, 1}, {137, 0x0123456789abcdef, 8, 0x23456789abcdef01}, {137, 1, -1, longLeast}, {137, 5, 64, 5},
		{120, 5, 0, 5}, {120, 1, 1, least}, {120, 0x12345678, 8, 0x78123456}, {120, least, 31, 1}, {120, 1, -1, 2}, {120, 5, 32, 5},
		{138, 5, 0, 5}, {138, 1, 1, longLeast}, {138, 0x23456789abcdef01, 8, 0x0123456789abcdef}, {138, longLeast, 63, 1}, {138, 1, -1, 2}, {138, 5, 64, 5},
	}
	for _, r := range rows {
		if got, err := num.Two(r.op, r.a, r.b); got != r.out || err != api.OK {
			t.Errorf("Two(%d, %d, %d): %d, %d, not %d", r.op, r.a, r.b, got, err, r.out)
		}
	}
}

// P8: divisions that have no answer, and the nearest that have one.
func TestDivisionsWithoutAnswer(t *testing.T) {
	rows := []struct {
		op   byte
		a, b int64
		err  api.Errno
	}{
		{109, 5, 0, api.ErrDivide}, {109, math.MinInt32, 0, api.ErrDivide}, {109, 5, 1 << 32, api.ErrDivide},
		{110, 5, 0, api.ErrDivide}, {110, 0, 0, api.ErrDivide}, {110, 5, -1 << 32, api.ErrDivide},
		{111, 5, 0, api.ErrDivide}, {111, math.MinInt32, 1 << 40, api.ErrDivide},
		{112, 5, 0, api.ErrDivide}, {112, -1, math.MinInt64, api.ErrDivide},
		{127, 5, 0, api.ErrDivide}, {127, math.MinInt64, 0, api.ErrDivide},
		{128, 5, 0, api.ErrDivide}, {129, -5, 0, api.ErrDivide}, {130, 5, 0, api.ErrDivide},
		{109, math.MinInt32, -1, api.ErrOverflow}, {109, 1 << 31, 1<<32 - 1, api.ErrOverflow},
		{127, math.MinInt64, -1, api.ErrOverflow},
		{109, math.MinInt32 + 1, -1, api.OK}, {109, math.MinInt32, -2, api.OK}, {109, math.MinInt64, -1, api.OK},
		{127, math.MinInt64 + 1, -1, api.OK}, {127, math.MinInt64, -2, api.OK}, {127, 5, 1 << 32, api.OK},
		{110, math.MinInt32, -1, api.OK}, {111, math.MinInt32, -1, api.OK}, {112, math.MinInt32, -1, api.OK},
		{128, math.MinInt64, -1, api.OK}, {129, math.MinInt64, -1, api.OK}, {130, math.MinInt64, -1, api.OK},
	}
	for _, r := range rows {
		n, err := num.Two(r.op, r.a, r.b)
		if err != r.err || err != api.OK && n != 0 {
			t.Errorf("Two(%d, %d, %d): %d, %d, not %d", r.op, r.a, r.b, n, err, r.err)
		}
	}
}

// P7, P8: every byte, and so that it is known which are left: what has no line in a table is ErrUnsup, with 0 beside it.
func TestWhichThereAre(t *testing.T) {
	ones, twos := 0, 0
	for op := range 256 {
		n, err := num.One(byte(op), -1)
		_, there := oneBig(byte(op), -1)
		if there != (err == api.OK) || !there && (err != api.ErrUnsup || n != 0) {
			t.Errorf("One(%d, -1): %d, %d", op, n, err)
		}
		m, fail := num.Two(byte(op), 5, 3)
		_, _, known := twoBig(byte(op), 5, 3)
		if known != (fail == api.OK) || !known && (fail != api.ErrUnsup || m != 0) {
			t.Errorf("Two(%d, 5, 3): %d, %d", op, m, fail)
		}
		if there {
			ones++
		}
		if known {
			twos++
		}
		if there && known {
			t.Errorf("%d is of one number and of two", op)
		}
	}
	if ones != 16 || twos != 50 {
		t.Errorf("%d instructions of one number, %d of two", ones, twos)
	}
}

// P6, P7: every byte with many numbers, held against numbers without an end.
func TestOneAgainstBig(t *testing.T) {
	for op := range 256 {
		for _, a := range append(edges(), some(600)...) {
			want, there := oneBig(byte(op), a)
			fail := api.OK
			if !there {
				fail = api.ErrUnsup
			}
			if got, err := num.One(byte(op), a); got != want || err != fail {
				t.Fatalf("One(%d, %d): %d, %d, not %d, %d", op, a, got, err, want, fail)
			}
		}
	}
}

// P6, P8: every byte with many pairs of numbers, held against numbers without an end.
func TestTwoAgainstBig(t *testing.T) {
	for op := range 256 {
		for _, a := range edges() {
			for _, b := range edges() {
				tryTwo(t, byte(op), a, b)
			}
		}
		more := some(600)
		for i, a := range more {
			tryTwo(t, byte(op), a, more[len(more)-1-i])
		}
	}
}

func tryTwo(t *testing.T, op byte, a, b int64) {
	want, fail, there := twoBig(op, a, b)
	if !there {
		fail = api.ErrUnsup
	}
	if got, err := num.Two(op, a, b); got != want || err != fail {
		t.Fatalf("Two(%d, %d, %d): %d, %d, not %d, %d", op, a, b, got, err, want, fail)
	}
}

// P6: where an I32 is meant, what stands above its 32 bits changes nothing.
func TestHighBitsDoNotCount(t *testing.T) {
	high := []int64{1 << 32, -1 << 32, 5 << 40, math.MinInt64, 0x7fffffff << 32}
	short := func(op int) bool {
		return 69 <= op && op <= 79 || 103 <= op && op <= 120 || op == 167 || op == 172 || op == 173 || op == 192 || op == 193
	}
	for op := range 256 {
		if !short(op) {
			continue
		}
		for i, a := range edges() {
			b := edges()[(i*7+3)%len(edges())]
			h, g := high[i%len(high)], high[(i/2)%len(high)]
			n, err := num.One(byte(op), a)
			if m, fail := num.One(byte(op), a^h); m != n || fail != err {
				t.Errorf("One(%d, %d): %d, %d, without its high bits %d, %d", op, a^h, m, fail, n, err)
			}
			n, err = num.Two(byte(op), a, b)
			if m, fail := num.Two(byte(op), a^h, b^g); m != n || fail != err {
				t.Errorf("Two(%d, %d, %d): %d, %d, without their high bits %d, %d", op, a^h, b^g, m, fail, n, err)
			}
		}
	}
}

// bare is a without a sign, of w bits; fitted goes back.
func bare(w uint, a int64) *big.Int {
	all := new(big.Int).Lsh(big.NewInt(1), w)
	return new(big.Int).Mod(big.NewInt(a), all)
}

func fitted(w uint, n *big.Int) int64 {
	all := new(big.Int).Lsh(big.NewInt(1), w)
	n = new(big.Int).Mod(n, all)
	if n.Bit(int(w)-1) == 1 {
		n.Sub(n, all)
	}
	return n.Int64()
}

func told(yes bool) int64 {
	if yes {
		return 1
	}
	return 0
}

// oneBig answers by the table of P7, counting bit by bit; false, if op has no line there.
func oneBig(op byte, a int64) (int64, bool) {
	lines := map[byte]struct {
		what string
		w    uint
	}{
		69: {"zero", 32}, 80: {"zero", 64}, 103: {"above", 32}, 121: {"above", 64}, 104: {"below", 32}, 122: {"below", 64}, 105: {"ones", 32}, 123: {"ones", 64},
		192: {"low", 8}, 193: {"low", 16}, 194: {"low", 8}, 195: {"low", 16}, 196: {"low", 32}, 167: {"low", 32}, 172: {"low", 32}, 173: {"bare", 32},
	}
	line, there := lines[op]
	n := bare(max(line.w, 1), a)
	switch line.what {
	case "zero":
		return told(n.Sign() == 0), there
	case "above":
		return int64(line.w) - int64(n.BitLen()), there
	case "below":
		count := int64(0)
		for count < int64(line.w) && n.Bit(int(count)) == 0 {
			count++
		}
		return count, there
	case "ones":
		count := int64(0)
		for i := range int(line.w) {
			count += int64(n.Bit(i))
		}
		return count, there
	case "low":
		return fitted(line.w, n), there
	case "bare":
		return n.Int64(), there
	}
	return 0, there
}

// twoBig answers by the table of P8; false, if op has no line there.
func twoBig(op byte, a, b int64) (int64, api.Errno, bool) {
	lines := []struct {
		short, long byte
		what        string
		bare        bool
	}{
		{70, 81, "==", false}, {71, 82, "!=", false},
		{72, 83, "<", false}, {74, 85, ">", false}, {76, 87, "<=", false}, {78, 89, ">=", false},
		{73, 84, "<", true}, {75, 86, ">", true}, {77, 88, "<=", true}, {79, 90, ">=", true},
		{106, 124, "+", false}, {107, 125, "-", false}, {108, 126, "*", false},
		{109, 127, "/", false}, {110, 128, "/", true}, {111, 129, "%", false}, {112, 130, "%", true},
		{113, 131, "&", true}, {114, 132, "|", true}, {115, 133, "^", true},
		{116, 134, "up", true}, {117, 135, "down", false}, {118, 136, "down", true},
		{119, 137, "turn up", true}, {120, 138, "turn down", true},
	}
	for _, line := range lines {
		var w uint
		switch op {
		case line.short:
			w = 32
		case line.long:
			w = 64
		default:
			continue
		}
		x, y := bare(w, a), bare(w, b)
		if !line.bare {
			x, y = big.NewInt(fitted(w, x)), big.NewInt(fitted(w, y))
		}
		n, err := twoOf(line.what, w, x, y)
		return n, err, true
	}
	return 0, api.OK, false
}

func twoOf(what string, w uint, x, y *big.Int) (int64, api.Errno) {
	z := new(big.Int)
	by := uint(new(big.Int).Mod(y, big.NewInt(int64(w))).Uint64())
	switch what {
	case "==":
		return told(x.Cmp(y) == 0), api.OK
	case "!=":
		return told(x.Cmp(y) != 0), api.OK
	case "<":
		return told(x.Cmp(y) < 0), api.OK
	case ">":
		return told(x.Cmp(y) > 0), api.OK
	case "<=":
		return told(x.Cmp(y) <= 0), api.OK
	case ">=":
		return told(x.Cmp(y) >= 0), api.OK
	case "+":
		z.Add(x, y)
	case "-":
		z.Sub(x, y)
	case "*":
		z.Mul(x, y)
	case "/", "%":
		return divided(what, w, x, y)
	case "&":
		z.And(x, y)
	case "|":
		z.Or(x, y)
	case "^":
		z.Xor(x, y)
	case "up":
		z.Lsh(x, by)
	case "down":
		z.Rsh(x, by)
	case "turn up":
		return turned(w, x, by), api.OK
	case "turn down":
		return turned(w, x, w-by), api.OK
	}
	return fitted(w, z), api.OK
}

func divided(what string, w uint, x, y *big.Int) (int64, api.Errno) {
	if y.Sign() == 0 {
		return 0, api.ErrDivide
	}
	q, r := new(big.Int).QuoRem(x, y, new(big.Int))
	if what == "%" {
		return fitted(w, r), api.OK
	}
	least := new(big.Int).Neg(new(big.Int).Lsh(big.NewInt(1), w-1))
	if x.Cmp(least) == 0 && y.Cmp(big.NewInt(-1)) == 0 {
		return 0, api.ErrOverflow
	}
	return fitted(w, q), api.OK
}

// turned moves bit by bit, each to where it comes in.
func turned(w uint, x *big.Int, by uint) int64 {
	z := new(big.Int)
	for i := range w {
		z.SetBit(z, int((i+by)%w), x.Bit(int(i)))
	}
	return fitted(w, z)
}

// P7, P8: what the library says of bits, where it speaks of the same.
func TestBitsAsLibrary(t *testing.T) {
	for _, a := range some(2000) {
		rows := []struct {
			op   byte
			want int
		}{
			{103, bits.LeadingZeros32(uint32(a))}, {121, bits.LeadingZeros64(uint64(a))},
			{104, bits.TrailingZeros32(uint32(a))}, {122, bits.TrailingZeros64(uint64(a))},
			{105, bits.OnesCount32(uint32(a))}, {123, bits.OnesCount64(uint64(a))},
		}
		for _, r := range rows {
			if got, err := num.One(r.op, a); got != int64(r.want) || err != api.OK {
				t.Errorf("One(%d, %d): %d, %d, not %d", r.op, a, got, err, r.want)
			}
		}
		for by := int64(-70); by <= 70; by++ {
			turn := bits.RotateLeft64(uint64(a), int(by))
			if got, _ := num.Two(137, a, by); got != int64(turn) {
				t.Errorf("Two(137, %d, %d): %d", a, by, got)
			}
			if got, _ := num.Two(138, a, -by); got != int64(turn) {
				t.Errorf("Two(138, %d, %d): %d", a, -by, got)
			}
			short := bits.RotateLeft32(uint32(a), int(by))
			if got, _ := num.Two(119, a, by); got != int64(int32(short)) {
				t.Errorf("Two(119, %d, %d): %d", a, by, got)
			}
			if got, _ := num.Two(120, a, -by); got != int64(int32(short)) {
				t.Errorf("Two(120, %d, %d): %d", a, -by, got)
			}
		}
	}
}
