package ins_test

import (
	"math"
	"slices"
	"strings"
	"testing"

	"troupe/api"
	"troupe/ins"
)

func sameIns(x, y api.Ins) bool {
	return x.Op == y.Op && x.A == y.A && x.B == y.B && slices.Equal(x.To, y.To)
}

// P11: what is written, byte by byte; it is read as it was, whatever follows.
func TestTextByHand(t *testing.T) {
	sixteen := make([]int64, 16)
	rows := []struct {
		x    api.Ins
		text string
	}{
		{api.Ins{Op: 0}, "\x00"},
		{api.Ins{Op: 1}, "\x01"},
		{api.Ins{Op: 2, A: 64}, "\x02\x40"},
		{api.Ins{Op: 3, A: 126}, "\x03\x7e"},
		{api.Ins{Op: 4, A: 127}, "\x04\x7f"},
		{api.Ins{Op: 5}, "\x05"},
		{api.Ins{Op: 11}, "\x0b"},
		{api.Ins{Op: 12}, "\x0c\x00"},
		{api.Ins{Op: 13, A: 128}, "\x0d\x80\x01"},
		{api.Ins{Op: 14, A: 5}, "\x0e\x00\x05"},
		{api.Ins{Op: 14, A: 300, To: []int64{1, 128, 4294967295}}, "\x0e\x03\x01\x80\x01\xff\xff\xff\xff\x0f\xac\x02"},
		{api.Ins{Op: 14, To: sixteen}, "\x0e\x10" + strings.Repeat("\x00", 17)},
		{api.Ins{Op: 15}, "\x0f"},
		{api.Ins{Op: 16, A: 4294967295}, "\x10\xff\xff\xff\xff\x0f"},
		{api.Ins{Op: 17, A: 200}, "\x11\xc8\x01\x00"},
		{api.Ins{Op: 26}, "\x1a"},
		{api.Ins{Op: 27}, "\x1b"},
		{api.Ins{Op: 32, A: 1}, "\x20\x01"},
		{api.Ins{Op: 34, A: 127}, "\x22\x7f"},
		{api.Ins{Op: 36, A: 7}, "\x24\x07"},
		{api.Ins{Op: 40, A: 2, B: 300}, "\x28\x02\xac\x02"},
		{api.Ins{Op: 62, A: 300, B: 2}, "\x3e\xac\x02\x02"},
		{api.Ins{Op: 63}, "\x3f\x00"},
		{api.Ins{Op: 64}, "\x40\x00"},
		{api.Ins{Op: 65, A: -1}, "\x41\x7f"},
		{api.Ins{Op: 65, A: 64}, "\x41\xc0\x00"},
		{api.Ins{Op: 65, A: math.MinInt32}, "\x41\x80\x80\x80\x80\x78"},
		{api.Ins{Op: 65, A: math.MaxInt32}, "\x41\xff\xff\xff\xff\x07"},
		{api.Ins{Op: 66, A: -65}, "\x42\xbf\x7f"},
		{api.Ins{Op: 66, A: math.MinInt64}, "\x42\x80\x80\x80\x80\x80\x80\x80\x80\x80\x7f"},
		{api.Ins{Op: 66, A: math.MaxInt64}, "\x42\xff\xff\xff\xff\xff\xff\xff\xff\xff\x00"},
		{api.Ins{Op: 69}, "\x45"},
		{api.Ins{Op: 138}, "\x8a"},
		{api.Ins{Op: 196}, "\xc4"},
	}
	for _, r := range rows {
		if text, err := ins.Write(r.x); text != r.text || err != api.OK {
			t.Errorf("Write of %v: %x, %d, not %x", r.x, text, err, r.text)
		}
		for _, behind := range []string{"", "\x00", "\xff", "\x0b\x0b"} {
			x, size, err := ins.Read(r.text + behind)
			if !sameIns(x, r.x) || size != len(r.text) || err != api.OK {
				t.Errorf("Read of %x: %v, %d, %d, not %v", r.text+behind, x, size, err, r.x)
			}
		}
	}
}

// unsigned writes a number by hand, in so many bytes at the least.
func unsigned(n int64, least int) string {
	var out []byte
	for n > 127 || len(out)+1 < least {
		out = append(out, byte(n%128)+128)
		n /= 128
	}
	return string(append(out, byte(n)))
}

// signed writes a number of w bits by hand, in five or ten bytes, which is as long as it may be.
func signed(n int64, w int) string {
	var out []byte
	last := (w+6)/7 - 1
	for range last {
		out = append(out, byte(n&127)|128)
		n >>= 7
	}
	return string(append(out, byte(n&127)))
}

// pieces writes an instruction by its row, with numbers as long as they may be: one piece for each thing that is read.
func pieces(r row, x api.Ins) []string {
	out := []string{string([]byte{x.Op})}
	for _, c := range r.beside {
		switch c {
		case 'k':
			out = append(out, string([]byte{byte(x.A)}))
		case 'a':
			out = append(out, unsigned(x.A, 5))
		case 'b':
			out = append(out, unsigned(x.B, 5))
		case 't':
			out = append(out, unsigned(int64(len(x.To)), 5))
			for _, far := range x.To {
				out = append(out, unsigned(far, 5))
			}
		case 'z':
			out = append(out, "\x00")
		case 'i':
			out = append(out, signed(x.A, 32))
		case 'l':
			out = append(out, signed(x.A, 64))
		}
	}
	return out
}

// P10, P11: Write answers what Check does; what it writes is read as it was, and no piece of it is enough.
func TestWrittenAndRead(t *testing.T) {
	each(func(r row, is bool, x api.Ins) {
		text, err := ins.Write(x)
		if want := ins.Check(x); err != want || (err != api.OK && text != "") {
			t.Errorf("Write of %v: %x, %d, not %d", x, text, err, want)
		}
		if err == api.OK {
			whole(t, x, text)
		}
	})
}

// P11: numbers may have more bytes than they need.
func TestReadLong(t *testing.T) {
	each(func(r row, is bool, x api.Ins) {
		if is && ins.Check(x) == api.OK {
			whole(t, x, strings.Join(pieces(r, x), ""))
		}
	})
}

// whole asks that text is x, alone and with something behind it, and that all its beginnings are too short.
func whole(t *testing.T, x api.Ins, text string) {
	t.Helper()
	for _, behind := range []string{"", "\x80"} {
		if got, size, err := ins.Read(text + behind); !sameIns(got, x) || size != len(text) || err != api.OK {
			t.Errorf("Read of %x: %v, %d, %d, not %v", text+behind, got, size, err, x)
		}
	}
	for i := range len(text) {
		refused(t, text[:i], api.ErrShort)
	}
}

func refused(t *testing.T, text string, want api.Errno) {
	t.Helper()
	x, size, err := ins.Read(text)
	if err != want || size != 0 || !sameIns(x, api.Ins{}) {
		t.Errorf("Read of %x: %v, %d, %d, not %d", text, x, size, err, want)
	}
}

// P11: the first byte alone tells ErrUnsup, whatever follows.
func TestReadFirstByte(t *testing.T) {
	refused(t, "", api.ErrShort)
	every(func(op byte, r row, is bool) {
		first := string([]byte{op})
		switch {
		case !is:
			refused(t, first, api.ErrUnsup)
			refused(t, first+"\x00\x00", api.ErrUnsup)
		case r.beside != "":
			refused(t, first, api.ErrShort)
		}
	})
}

// P11: the byte of a block is one of three; one that must be 0 is.
func TestReadSecondByte(t *testing.T) {
	for b := range 256 {
		second := string([]byte{byte(b)})
		for _, op := range []string{"\x02", "\x03", "\x04"} {
			if b != 64 && b != 126 && b != 127 {
				refused(t, op+second, api.ErrUnsup)
				refused(t, op+second+"\x40", api.ErrUnsup)
			}
		}
		for _, front := range []string{"\x3f", "\x40", "\x11\x03", "\x11\x80\x80\x80\x80\x00"} {
			if b != 0 {
				refused(t, front+second, api.ErrForm)
				refused(t, front+second+"\x00", api.ErrForm)
			}
		}
	}
}

// P11: more than 16 elements of To are refused ahead of what follows.
func TestReadLarge(t *testing.T) {
	for _, n := range []int64{17, 18, 127, 128, 1 << 31, 1<<32 - 1} {
		for _, least := range []int{1, 5} {
			for _, behind := range []string{"", "\x00", "\xff\xff\xff\xff\xff", strings.Repeat("\x00", 40)} {
				refused(t, "\x0e"+unsigned(n, least)+behind, api.ErrLarge)
			}
		}
	}
}

// spoilt are numbers of so many bits that leb refuses as ErrForm: a bit without a place, and one byte too many.
func spoilt(letter rune) []string {
	four := strings.Repeat("\x80", 4)
	nine := strings.Repeat("\xff", 9)
	switch letter {
	case 'i':
		return []string{four + "\x08", four + "\x70", four + "\x40", "\xff\xff\xff\xff\x0f", four + "\x80", four + "\x80\x00"}
	case 'l':
		return []string{nine + "\x01", nine + "\x7e", nine + "\x40", nine + "\x80", nine + "\xff\x7f"}
	}
	return []string{four + "\x10", four + "\x40", "\xff\xff\xff\xff\x1f", four + "\x80", four + "\x80\x00"}
}

// P11: what ReadU and ReadS say of a number, at every place where one stands.
func TestReadSpoiltNumbers(t *testing.T) {
	every(func(op byte, r row, is bool) {
		x := right(op, r)
		if strings.Contains(r.beside, "t") {
			x.To = []int64{1, 2, 3}
		}
		list := pieces(r, x)
		for i, piece := range list {
			front := strings.Join(list[:i], "")
			behind := strings.Join(list[i+1:], "")
			if len(piece) < 5 {
				continue
			}
			for _, bad := range spoilt(rune(r.beside[0])) {
				refused(t, front+bad, api.ErrForm)
				refused(t, front+bad+behind, api.ErrForm)
			}
		}
	})
}

// P11: as one reads, what is come to first is told.
func TestReadFirstError(t *testing.T) {
	rows := []struct {
		text string
		want api.Errno
	}{
		{"\x11\x80", api.ErrShort},
		{"\x11\x80\x80\x80\x80\x10\x01", api.ErrForm},
		{"\x28\xff\xff\xff\xff\x10", api.ErrForm},
		{"\x28\x80\x80\x80\x80\x10", api.ErrForm},
		{"\x28\x00\x80\x80\x80\x80", api.ErrShort},
		{"\x0e\x02\x80\x80\x80\x80\x10", api.ErrForm},
		{"\x0e\x02\x00\x80", api.ErrShort},
		{"\x0e\x10" + strings.Repeat("\x00", 16), api.ErrShort},
		{"\x0e\x80\x80\x80\x80\x10", api.ErrForm},
		{"\x0e\x91", api.ErrShort},
		{"\x41\x80\x80\x80\x80", api.ErrShort},
		{"\x42\x80\x80\x80\x80\x80\x80\x80\x80\x80", api.ErrShort},
	}
	for _, r := range rows {
		refused(t, r.text, r.want)
	}
}

// P1, P11: of any text, what is read has nothing wrong about it, and is written as something that is read the same.
func TestReadAnything(t *testing.T) {
	n := uint64(88172645463325252)
	for range 200000 {
		text := make([]byte, 24)
		for i := range text {
			n ^= n << 13
			n ^= n >> 7
			n ^= n << 17
			text[i] = byte(n >> 20)
		}
		text[0] %= 70
		text[1] %= 32
		x, size, err := ins.Read(string(text))
		if err != api.OK {
			refused(t, string(text), err)
			continue
		}
		if got := ins.Check(x); got != api.OK || size < 1 || size > len(text) {
			t.Fatalf("Read of %x: %v, %d", text, x, size)
		}
		short, _ := ins.Write(x)
		whole(t, x, short)
	}
}

// P2: what is handed in stays as it is, the room behind it too; what is read is new.
func TestTextKeepsNothing(t *testing.T) {
	room := []int64{1, 2, 3, 4, 5}
	x := api.Ins{Op: 14, A: 9, To: room[:3]}
	text, _ := ins.Write(x)
	ins.Check(x)
	if !slices.Equal(room, []int64{1, 2, 3, 4, 5}) {
		t.Errorf("Write or Check changed To: %v", room)
	}
	for range 2 {
		got, _, _ := ins.Read(text)
		if !sameIns(got, x) {
			t.Fatalf("Read: %v", got)
		}
		spoil(got.To)
	}
}
