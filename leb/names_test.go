package leb_test

import (
	"strings"
	"testing"
	"unsafe"

	"troupe/api"
	"troupe/leb"
)

// encode writes a sign in so many bytes, whether or not UTF-8 allows it.
func encode(sign, size int) string {
	if size == 1 {
		return string([]byte{byte(sign)})
	}
	out := make([]byte, size)
	for i := size - 1; i > 0; i-- {
		out[i] = byte(128 | sign&63)
		sign >>= 6
	}
	first := []int{2: 192, 3: 224, 4: 240}
	out[0] = byte(first[size] | sign)
	return string(out)
}

// fewest is how many bytes a sign needs.
func fewest(sign int) int {
	switch {
	case sign < 1<<7:
		return 1
	case sign < 1<<11:
		return 2
	case sign < 1<<16:
		return 3
	}
	return 4
}

// checkName holds Name of s, and ReadName of its bytes, against what is wanted of a text of at most 16 bytes.
func checkName(t *testing.T, s string, want api.Errno) {
	t.Helper()
	bytes := string([]byte{byte(len(s))}) + s
	written, read, size := bytes, s, len(bytes)
	if want != api.OK {
		written, read, size = "", "", 0
	}
	if got, e := leb.Name(s); got != written || e != want {
		t.Errorf("Name(%x) is %x, %d, not %x, %d", s, got, e, written, want)
	}
	for _, behind := range []string{"", "a", "\x80", "\xff\xff"} {
		if got, k, e := leb.ReadName(bytes + behind); got != read || k != size || e != want {
			t.Errorf("ReadName(%x) is %x, %d, %d, not %x, %d, %d", bytes+behind, got, k, e, read, size, want)
		}
	}
}

// P5.
func TestNames(t *testing.T) {
	for _, s := range []string{
		"",
		"a",
		"\x00",
		"\x7f",
		"take",
		"\xc2\x80",
		"h\xc3\xa9",
		"\xe2\x82\xac",
		"\xf0\x9f\x98\x80",
		"\xef\xbb\xbf",
		"\xef\xbf\xbd",
		"sixteen bytes...",
		strings.Repeat("\xc3\xa9", 8),
		strings.Repeat("\xf4\x8f\xbf\xbf", 4),
	} {
		checkName(t, s, api.OK)
	}
}

// P5.
func TestNamesThatAreNotUTF8(t *testing.T) {
	for _, s := range []string{
		"\x80",
		"\xbf",
		"\xc3",
		"a\xc3",
		"\xc3a",
		"\xc3\xa9\xa9",
		"\xe2\x82",
		"\xe2\x82a",
		"\xe2a\xac",
		"\xf0\x9f\x98",
		"\xf0\x9f\x98a",
		"\xc0\x80",
		"\xc1\xbf",
		"\xe0\x9f\xbf",
		"\xf0\x8f\xbf\xbf",
		"\xed\xa0\x80",
		"\xed\xbf\xbf",
		"\xf4\x90\x80\x80",
		"\xf5\x80\x80\x80",
		"\xf8\x88\x80\x80\x80",
		"\xfc\x84\x80\x80\x80\x80",
		"\xfe",
		"\xff",
		"fifteen bytes..\xff",
		"fifteen bytes..\xc3",
	} {
		checkName(t, s, api.ErrForm)
	}
}

// P5: every sign, in as few bytes as it can be and in more, with those that are none.
func TestNamesOfEverySign(t *testing.T) {
	for sign := range 1 << 21 {
		want := api.OK
		if sign > 1114111 || sign >= 55296 && sign <= 57343 {
			want = api.ErrForm
		}
		least := fewest(sign)
		checkName(t, encode(sign, least), want)
		for size := least + 1; size <= 4; size++ {
			checkName(t, encode(sign, size), api.ErrForm)
		}
	}
}

// P5: too many bytes come ahead of bytes that aren't UTF-8.
func TestNameTooLarge(t *testing.T) {
	for _, s := range []string{
		"seventeen bytes..",
		strings.Repeat("\xff", 17),
		"sixteen bytes...\xff",
		"fifteen bytes..\xc3\xa9",
		strings.Repeat("a", 127),
		strings.Repeat("a", 128),
		strings.Repeat("a", 272),
		strings.Repeat("\x80", 5000),
	} {
		if got, e := leb.Name(s); got != "" || e != api.ErrLarge {
			t.Errorf("Name(%x) is %x, %d", s, got, e)
		}
	}
}

// P5.
func TestReadName(t *testing.T) {
	for _, c := range []struct {
		s    string
		name string
		k    int
		e    api.Errno
	}{
		{"\x01ab", "a", 2, api.OK},
		{"\x00", "", 1, api.OK},
		{"\x00\xff", "", 1, api.OK},
		{"\x82\x00\xc3\xa9x", "\xc3\xa9", 4, api.OK},
		{"\x81\x80\x80\x80\x00a", "a", 6, api.OK},
		{"\x80\x80\x80\x80\x00", "", 5, api.OK},
		{"\x10sixteen bytes...", "sixteen bytes...", 17, api.OK},
		{"\x90\x80\x80\x80\x00sixteen bytes...x", "sixteen bytes...", 21, api.OK},
		{"\x01\xc3\xa9", "", 0, api.ErrForm},
		{"\x02\xed\xa0\x80", "", 0, api.ErrForm},
		{"", "", 0, api.ErrShort},
		{"\x80", "", 0, api.ErrShort},
		{"\x81\x80\x80\x80", "", 0, api.ErrShort},
		{"\x81\x80\x80\x80\x80\x00a", "", 0, api.ErrForm},
		{"\x81\x80\x80\x80\x10a", "", 0, api.ErrForm},
		{"\x81\x80\x80\x80\x80", "", 0, api.ErrForm},
		{"\x11seventeen bytes..", "", 0, api.ErrLarge},
		{"\x11", "", 0, api.ErrLarge},
		{"\x11\xff", "", 0, api.ErrLarge},
		{"\x90\x01", "", 0, api.ErrLarge},
		{"\xff\xff\xff\xff\x07", "", 0, api.ErrLarge},
		{"\x80\x80\x80\x80\x08", "", 0, api.ErrLarge},
		{"\xff\xff\xff\xff\x0f", "", 0, api.ErrLarge},
		{"\x01", "", 0, api.ErrShort},
		{"\x02a", "", 0, api.ErrShort},
		{"\x02\xff", "", 0, api.ErrShort},
		{"\x10fifteen bytes..", "", 0, api.ErrShort},
		{"\x81\x80\x80\x80\x00", "", 0, api.ErrShort},
	} {
		if name, k, e := leb.ReadName(c.s); name != c.name || k != c.k || e != c.e {
			t.Errorf("ReadName(%x) is %x, %d, %d, not %x, %d, %d", c.s, name, k, e, c.name, c.k, c.e)
		}
	}
}

// P5: a number of each size, and each count of bytes behind it.
func TestReadNameOfEveryLength(t *testing.T) {
	for n := range 40 {
		for have := range 40 {
			s := string([]byte{byte(n)}) + strings.Repeat("a", have)
			name, k, e := strings.Repeat("a", n), n+1, api.OK
			if n > 16 {
				name, k, e = "", 0, api.ErrLarge
			} else if have < n {
				name, k, e = "", 0, api.ErrShort
			}
			if gotName, gotK, gotE := leb.ReadName(s); gotName != name || gotK != k || gotE != e {
				t.Errorf("ReadName of number %d and %d bytes is %q, %d, %d, not %q, %d, %d", n, have, gotName, gotK, gotE, name, k, e)
			}
		}
	}
}

// P2: what is answered is no piece of what was handed in.
func TestNamesAreNewMemory(t *testing.T) {
	in := string([]byte{16}) + strings.Repeat("a", 16)
	name, _, _ := leb.ReadName(in)
	if shares(name, in) {
		t.Error("ReadName answers a piece of what it was handed")
	}
	plain := strings.Repeat("b", 16)
	if written, _ := leb.Name(plain); shares(written, plain) {
		t.Error("Name answers what it was handed")
	}
}

func shares(a, b string) bool {
	first, second := uintptr(unsafe.Pointer(unsafe.StringData(a))), uintptr(unsafe.Pointer(unsafe.StringData(b)))
	return first < second+uintptr(len(b)) && second < first+uintptr(len(a))
}
