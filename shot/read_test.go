package shot_test

import (
	"slices"
	"strings"
	"testing"

	"troupe/api"
)

// P36: what ends too early.
func TestShort(t *testing.T) {
	_, _, long := most()
	for size := range len(fullText()) {
		unread(t, fullText()[:size], api.ErrShort)
	}
	for size := 0; size < len(long); size += 1 + size/500 {
		unread(t, long[:size], api.ErrShort)
	}
	unread(t, long[:len(long)-1], api.ErrShort)
}

// P36: something is left.
func TestLeft(t *testing.T) {
	_, _, long := most()
	for _, rest := range []string{"\x00", "x", "\x80", "\xff", "\x00\x00\x00\x00\x00", fullText()} {
		unread(t, "\x00\x00\x00\x00\x00"+rest, api.ErrForm)
		unread(t, fullText()+rest, api.ErrForm)
		unread(t, long+rest, api.ErrForm)
	}
}

// isSigned tells of each part of fullText whether it is a number with a sign.
func isSigned(part int) bool {
	return slices.Contains([]int{3, 4, 6, 7, 13, 14, 16, 17, 22}, part)
}

// lengthened is the same number in one byte more.
func lengthened(number string, signed bool) string {
	last := number[len(number)-1]
	more := "\x00"
	if signed && last&64 != 0 {
		more = "\x7f"
	}
	return number[:len(number)-1] + string([]byte{last | 128}) + more
}

// P36: a number that has more bytes than it needs, wherever it stands, is told at the end.
func TestLonger(t *testing.T) {
	for at := range fullParts() {
		if at == memPart {
			continue
		}
		parts := fullParts()
		parts[at] = lengthened(parts[at], isSigned(at))
		unread(t, strings.Join(parts, ""), api.ErrForm)
		unread(t, strings.Join(parts, "")+"x", api.ErrForm)
		for end := range parts {
			unread(t, strings.Join(parts[:end], ""), api.ErrShort)
		}
		parts[at] = lengthened(parts[at], isSigned(at))
		unread(t, strings.Join(parts, ""), api.ErrForm)
	}
}

// P36: behind a number that has more bytes than it needs another error is told.
func TestLongerAhead(t *testing.T) {
	unread(t, "\x80\x00\x11", api.ErrLarge)
	unread(t, "\x81\x00m\x00\x09", api.ErrLarge)
	unread(t, "\x82\x00m", api.ErrShort)
	unread(t, "\x00\x81\x00\xff\x7f\x09", api.ErrLarge)
	unread(t, "\x00\x00\x00\x80\x00\x29", api.ErrLarge)
	unread(t, "\x81\x10"+strings.Repeat("m", 2049), api.ErrLarge)
}

// counts are the six counts with their limits: each stands between what is ahead of it and what is behind as many elements.
func counts() []struct{ ahead, number, over, one, behind string } {
	return []struct{ ahead, number, over, one, behind string }{
		{"", "\x80\x10", "\x81\x10", "m", "\x00\x00\x00\x00"},
		{"\x00", "\x10", "\x11", "\x01", "\x00\x00\x00"},
		{"\x00\x00", "\x08", "\x09", "\x01", "\x00\x00"},
		{"\x00\x00\x00\x00", "\x28", "\x29", "\x01\x01\x00\x00", ""},
		{"\x00\x00\x00\x00\x01\x00\x00", "\x14", "\x15", "\x01", "\x00"},
		{"\x00\x00\x00\x00\x01\x00\x00\x00", "\xc8\x01", "\xc9\x01", "\x01", ""},
	}
}

// P36: counts at their limits, and above.
func TestLimits(t *testing.T) {
	for at, size := range []int{2048, 16, 8, 40, 20, 200} {
		c := counts()[at]
		x, s, err := readBack(c.ahead + c.number + strings.Repeat(c.one, size) + c.behind)
		if err != api.OK {
			t.Errorf("%d elements: %v, %v, %d", size, x, s, err)
		}
		unread(t, c.ahead+c.number+strings.Repeat(c.one, size-1), api.ErrShort)
		unread(t, c.ahead+c.over+strings.Repeat(c.one, size+1)+c.behind, api.ErrLarge)
		unread(t, c.ahead+c.over, api.ErrLarge)
		unread(t, c.ahead+c.over+"\xff\xff\xff\xff\xff\xff\xff\xff\xff\xff\xff", api.ErrLarge)
		unread(t, c.ahead+lengthened(c.over, false), api.ErrLarge)
		unread(t, c.ahead+"\xff\xff\xff\xff\x07", api.ErrLarge)
		unread(t, c.ahead+"\xff\xff\xff\xff\x0f", api.ErrLarge)
		unread(t, c.ahead+"\xff\xff\xff\xff\x1f", api.ErrForm)
		unread(t, c.ahead+"\xff\xff\xff\xff\x80", api.ErrForm)
		unread(t, c.ahead+"\x80\x80\x80\x80\x80", api.ErrForm)
		unread(t, c.ahead+"\xff\xff\xff\xff", api.ErrShort)
	}
}

// P36: Host, Func and At have no limit but 32 bits, and no sign.
func TestNumbers(t *testing.T) {
	for _, s := range []struct{ ahead, behind string }{
		{"\x00\x00\x00", "\x00"},
		{"\x00\x00\x00\x00\x01", "\x00\x00\x00"},
		{"\x00\x00\x00\x00\x01\x00", "\x00\x00"},
	} {
		for _, n := range []string{"\x00", "\x7f", "\x80\x01", "\xff\xff\xff\xff\x0f"} {
			if x, v, err := readBack(s.ahead + n + s.behind); err != api.OK {
				t.Errorf("%x: %v, %v, %d", n, x, v, err)
			}
		}
		unread(t, s.ahead+"\xff\xff\xff\xff\x1f"+s.behind, api.ErrForm)
		unread(t, s.ahead+"\x80\x80\x80\x80\x10", api.ErrForm)
		unread(t, s.ahead+"\x80\x80\x80\x80\x80", api.ErrForm)
		unread(t, s.ahead+"\xff\x00"+s.behind, api.ErrForm)
		unread(t, s.ahead+"\xff", api.ErrShort)
	}
}

// P36: places have 32 bits, values 64.
func TestBits(t *testing.T) {
	unread(t, "\x00\x01\x80\x80\x80\x80\x08\x00\x00\x00", api.ErrForm)
	unread(t, "\x00\x01\xff\xff\xff\xff\x77", api.ErrForm)
	unread(t, "\x00\x01\x80\x80\x80\x80\x80", api.ErrForm)
	unread(t, "\x00\x02\x7f\x80\x80\x80\x80\x40", api.ErrForm)
	for _, ahead := range []string{"\x00\x00\x01", "\x00\x00\x00\x00\x01\x00\x00\x01", "\x00\x00\x00\x00\x01\x00\x00\x00\x01"} {
		unread(t, ahead+"\x80\x80\x80\x80\x80\x80\x80\x80\x80\x01", api.ErrForm)
		unread(t, ahead+"\xff\xff\xff\xff\xff\xff\xff\xff\xff\x7e", api.ErrForm)
		unread(t, ahead+"\x80\x80\x80\x80\x80\x80\x80\x80\x80\x80", api.ErrForm)
		unread(t, ahead+"\x80\x80\x80\x80\x80\x80\x80\x80\x80", api.ErrShort)
	}
}

// P36: of several errors the first one that is come to is told.
func TestFirstError(t *testing.T) {
	unread(t, "\x81\x10", api.ErrLarge)
	unread(t, "\x05abc", api.ErrShort)
	unread(t, "\x05\xff\xff\xff\xff", api.ErrShort)
	unread(t, "\x00\x11\xff\xff\xff\xff\xff", api.ErrLarge)
	unread(t, "\x00\x02\xff\xff\xff\xff\xff\x09", api.ErrForm)
	unread(t, "\x00\x00\x09\xff\xff\xff\xff\xff", api.ErrLarge)
	unread(t, "\x00\x00\x00\xff\xff\xff\xff\xff\x29", api.ErrForm)
	unread(t, "\x00\x00\x00\x00\x29\xff\xff\xff\xff\xff", api.ErrLarge)
	unread(t, "\x00\x00\x00\x00\x02\x00\x00\x15\x00", api.ErrLarge)
	unread(t, "\x00\x00\x00\x00\x02\x00\x00\x00\x00\x00\xff\xff\xff\xff\xff\x15", api.ErrForm)
	unread(t, "\x00\x00\x00\x00\x02\x00\x00\x00\xc9\x01\xff\xff\xff\xff\xff", api.ErrLarge)
	unread(t, "", api.ErrShort)
}
