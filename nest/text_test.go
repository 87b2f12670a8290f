package nest_test

import (
	"slices"
	"strings"
	"testing"

	"troupe/api"
	"troupe/ins"
	"troupe/nest"
)

// text is the instructions one behind the other, right as a body or not.
func text(t *testing.T, l []api.Ins) string {
	t.Helper()
	var out string
	for _, x := range l {
		piece, err := ins.Write(x)
		if err != api.OK {
			t.Fatalf("the test writes %v", x)
		}
		out += piece
	}
	return out
}

func readAs(t *testing.T, s string, want []api.Ins, bytes int) {
	t.Helper()
	l, size, err := nest.Read(s)
	if !sameList(l, want) || size != bytes || err != api.OK {
		t.Fatalf("Read of %x: %v, %d, %d, not %v, %d", s, l, size, err, want, bytes)
	}
}

func refused(t *testing.T, s string, want api.Errno) {
	t.Helper()
	l, size, err := nest.Read(s)
	if l != nil || size != 0 || err != want {
		t.Fatalf("Read of %x: %v, %d, %d, not %d", s, l, size, err, want)
	}
}

// P13: what is written, byte by byte; it is read as it was, whatever follows.
func TestTextByHand(t *testing.T) {
	rows := []struct {
		l    []api.Ins
		text string
	}{
		{list(11), "\x0b"},
		{list(2, 11, 11), "\x02\x40\x0b\x0b"},
		{[]api.Ins{{Op: 65, A: 1}, {Op: 4, A: 127}, {Op: 5}, {Op: 11}, {Op: 11}}, "\x41\x01\x04\x7f\x05\x0b\x0b"},
		{[]api.Ins{{Op: 3, A: 126}, {Op: 14, A: 2, To: []int64{0, 300}}, {Op: 11}, {Op: 11}}, "\x03\x7e\x0e\x02\x00\xac\x02\x02\x0b\x0b"},
		{join(times(199, 1), list(11)), strings.Repeat("\x01", 199) + "\x0b"},
	}
	for _, r := range rows {
		if got, err := nest.Write(r.l); got != r.text || err != api.OK {
			t.Errorf("Write of %v: %x, %d, not %x", r.l, got, err, r.text)
		}
		for _, behind := range []string{"", "\x0b", "\x05", "\x06", "\x01\x01", "\xff", "\x80"} {
			readAs(t, r.text+behind, r.l, len(r.text))
		}
	}
}

// P13: numbers may have more bytes than they need, which count.
func TestReadLongNumbers(t *testing.T) {
	readAs(t, "\x41\x81\x80\x00\x0c\x80\x00\x0b\x0b", []api.Ins{{Op: 65, A: 1}, {Op: 12}, {Op: 11}}, 8)
}

// P13: bodies are written and read as they were; no piece of them is enough.
func TestWrittenAndRead(t *testing.T) {
	d := dice(362436069362436069)
	for n := range 3000 {
		l := d.body(d.below(180))
		if nest.Check(l) != api.OK {
			continue
		}
		s, err := nest.Write(l)
		if want := text(t, l); s != want || err != api.OK {
			t.Fatalf("Write of %v: %x, %d", l, s, err)
		}
		readAs(t, s, l, len(s))
		readAs(t, s+"\x06", l, len(s))
		if n >= 100 {
			continue
		}
		for i := range len(s) {
			refused(t, s[:i], api.ErrShort)
		}
	}
}

// firstWrong reckons what Read answers of instructions that can be told, if nothing stands behind them: what is wrong with the shortest beginning that has something wrong about it, or the body that is a beginning.
func firstWrong(l []api.Ins) (int, api.Errno) {
	for n := range min(len(l), 200) {
		if err := tell(l[:n+1]).err; err != api.ErrShort {
			return n + 1, err
		}
	}
	if len(l) > 200 {
		return 0, api.ErrLarge
	}
	return 0, api.ErrShort
}

// P13: as one reads, whatever the instructions are; a body ends at its own end.
func TestReadAnyInstructions(t *testing.T) {
	d := dice(521288629521288629)
	seen := make(map[api.Errno]int)
	for range 6000 {
		l := d.steps(d.below(230), 1+d.below(200))
		s := text(t, l)
		n, err := firstWrong(l)
		seen[err]++
		if err != api.OK {
			refused(t, s, err)
			continue
		}
		readAs(t, s, l[:n], len(text(t, l[:n])))
	}
	for _, err := range []api.Errno{api.OK, api.ErrShort, api.ErrForm, api.ErrDeep, api.ErrLarge} {
		if seen[err] < 50 {
			t.Errorf("the test saw %d only %d times", err, seen[err])
		}
	}
}

// P13: as one reads, what is come to first is told.
func TestReadFirstError(t *testing.T) {
	nops := func(n int) string { return strings.Repeat("\x01", n) }
	blocks := strings.Repeat("\x02\x40", 12)
	full := nops(188) + blocks // 200
	rows := []struct {
		name, text string
		want       api.Errno
	}{
		{"nothing", "", api.ErrShort},
		{"no end", "\x01", api.ErrShort},
		{"a piece of an instruction", "\x41\x80", api.ErrShort},
		{"a block that is open", "\x02\x40\x0b", api.ErrShort},
		{"no instruction", "\x01\x06\x0b", api.ErrUnsup},
		{"a block of no kind", "\x02\x7d\x0b\x0b", api.ErrUnsup},
		{"a byte that must be 0", "\x3f\x01\x0b", api.ErrForm},
		{"a number that is too long", "\x0c\x80\x80\x80\x80\x80\x00\x0b", api.ErrForm},
		{"too many ways", "\x0e\x11", api.ErrLarge},
		{"an else alone", "\x05\x0b", api.ErrForm},
		{"an else alone, then no instruction", "\x05\x06", api.ErrForm},
		{"no instruction, then an else alone", "\x06\x05", api.ErrUnsup},
		{"two elses", "\x04\x40\x05\x05", api.ErrForm},
		{"an else in a block in an if", "\x04\x40\x02\x40\x05", api.ErrForm},
		{"13 deep", blocks + "\x03\x40", api.ErrDeep},
		{"13 deep, of no kind", blocks + "\x03\x41", api.ErrUnsup},
		{"13 deep, a piece", blocks + "\x03", api.ErrShort},
		{"13 deep, then no instruction", blocks + "\x04\x40\x06", api.ErrDeep},
		{"199 without an end", nops(199), api.ErrShort},
		{"199, then no instruction", nops(199) + "\x06", api.ErrUnsup},
		{"199, then an else", nops(199) + "\x05", api.ErrForm},
		{"199, then 13 deep", nops(187) + blocks + "\x02\x40", api.ErrDeep},
		{"200 without an end", nops(200), api.ErrShort},
		{"200, then one more", nops(201), api.ErrLarge},
		{"200, then an end", nops(200) + "\x0b", api.ErrLarge},
		{"200, then an else", nops(200) + "\x05", api.ErrLarge},
		{"200, then an else and an end", nops(200) + "\x05\x0b", api.ErrLarge},
		{"200, then no instruction", nops(200) + "\x06", api.ErrUnsup},
		{"200, then a byte 255", nops(200) + "\xff", api.ErrUnsup},
		{"200, then a piece", nops(200) + "\x41", api.ErrShort},
		{"200, then a byte that must be 0", nops(200) + "\x3f\x01", api.ErrForm},
		{"200, then a number that is too long", nops(200) + "\x0c\x80\x80\x80\x80\x80\x00", api.ErrForm},
		{"200, then one more and no instruction", nops(201) + "\x06", api.ErrLarge},
		{"200, the last one an end of a block", nops(198) + "\x02\x40\x0b", api.ErrShort},
		{"200, the last one an end of a block, then an end", nops(198) + "\x02\x40\x0b\x0b", api.ErrLarge},
		{"200, 12 deep", full, api.ErrShort},
		{"200, then 13 deep", full + "\x02\x40", api.ErrLarge},
		{"200, then 13 deep, of no kind", full + "\x02\x41", api.ErrUnsup},
		{"200, then 13 deep, a piece", full + "\x02", api.ErrShort},
		{"200, then all ends", full + strings.Repeat("\x0b", 13), api.ErrLarge},
		{"an else alone, then many", "\x05" + nops(300), api.ErrForm},
		{"very many", nops(100000), api.ErrLarge},
	}
	for _, r := range rows {
		t.Run(r.name, func(t *testing.T) { refused(t, r.text, r.want) })
	}
}

// P13: behind 200 that go on there is what ins.Read says, and else ErrLarge, whatever the 200 are; behind 200 that have ended there is nothing.
func TestReadBehindTwoHundred(t *testing.T) {
	open := []string{
		strings.Repeat("\x01", 200),
		strings.Repeat("\x01", 188) + strings.Repeat("\x02\x40", 12),
		strings.Repeat("\x01", 198) + "\x04\x40\x05",
		strings.Repeat("\x03\x40\x0b", 100),
	}
	ended := strings.Repeat("\x01", 199) + "\x0b"
	body := join(times(199, 1), list(11))
	behind := func(tail string) {
		_, _, want := ins.Read(tail)
		if want == api.OK {
			want = api.ErrLarge
		}
		for _, front := range open {
			refused(t, front+tail, want)
		}
		readAs(t, ended+tail, body, 200)
	}
	behind("")
	for a := range 256 {
		behind(string([]byte{byte(a)}))
		for _, b := range []byte{0, 1, 5, 11, 16, 17, 64, 65, 126, 127, 128, 255} {
			behind(string([]byte{byte(a), b}))
		}
	}
}

// P1, P13: of any text, what is read is a body, and is written as something that is read the same.
func TestReadAnything(t *testing.T) {
	d := dice(88172645463325252)
	read := 0
	for range 200000 {
		bytes := make([]byte, d.below(24))
		for i := range bytes {
			bytes[i] = []byte{1, 2, 3, 4, 5, 11, 64, 126, 127, 12, 14, 0, byte(d.below(256))}[d.below(13)]
		}
		s := string(bytes)
		l, size, err := nest.Read(s)
		if err != api.OK {
			refused(t, s, err)
			continue
		}
		read++
		if got := nest.Check(l); got != api.OK || size < 1 || size > len(s) {
			t.Fatalf("Read of %x: %v, %d", s, l, size)
		}
		short, _ := nest.Write(l)
		readAs(t, short, l, len(short))
	}
	if read < 10000 {
		t.Errorf("the test read only %d bodies", read)
	}
}

// P2: what is read is new each time, To and spare room too.
func TestReadIsNew(t *testing.T) {
	s := "\x0e\x02\x01\x02\x03\x0e\x01\x04\x05\x0b"
	want := []api.Ins{{Op: 14, A: 3, To: []int64{1, 2}}, {Op: 14, A: 5, To: []int64{4}}, {Op: 11}}
	for range 2 {
		l, _, err := nest.Read(s)
		if !sameList(l, want) || err != api.OK {
			t.Fatalf("Read: %v, %d", l, err)
		}
		fill(l[0].To, 99)
		if !slices.Equal(l[1].To, []int64{4}) {
			t.Fatalf("two lists To are one: %v", l)
		}
		fill(l[1].To, 99)
		fill(l, api.Ins{Op: 99})
	}
}
