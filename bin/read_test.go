package bin_test

import (
	"math"
	"strings"
	"testing"
	"unsafe"

	"troupe/api"
	"troupe/bin"
	"troupe/leb"
)

func readAs(t *testing.T, s string, want api.Module) {
	t.Helper()
	if m, err := bin.Read(s); !same(m, want) || err != api.OK {
		t.Errorf("Read of %x is\n%v, %d, not\n%v", s, m, err, want)
	}
}

func refused(t *testing.T, s string, want api.Errno) {
	t.Helper()
	if m, err := bin.Read(s); !isNothing(m) || err != want {
		t.Errorf("Read of %x is %v, %d, not %d", s, m, err, want)
	}
}

// row is the content of a section, and what Read says of it.
type row struct {
	content string
	want    api.Errno
}

// inSection holds Read of a section alone against each row; a section 10 has its section 3.
func inSection(t *testing.T, number byte, rows []row) {
	t.Helper()
	for _, r := range rows {
		ahead := ""
		if number == 10 && r.want == api.OK {
			count := int(r.content[0])
			ahead = sec(3, string([]byte{byte(count)})+strings.Repeat("\x00", count))
		}
		s := mod(ahead, sec(number, r.content))
		if got := judge(s); got != r.want {
			t.Errorf("the test itself says %d of %x, not %d", got, s, r.want)
		}
		if r.want != api.OK {
			refused(t, s, r.want)
		} else if _, err := bin.Read(s); err != api.OK {
			t.Errorf("Read of %x is %d", s, err)
		}
	}
}

// P17: the first eight bytes, as one reads.
func TestReadHead(t *testing.T) {
	readAs(t, head, api.Module{})
	for at := range len(head) {
		refused(t, head[:at], api.ErrShort)
		for b := range 256 {
			wrong := []byte(head)
			wrong[at] = byte(b)
			if wrong[at] == head[at] {
				continue
			}
			refused(t, string(wrong), api.ErrForm)
			refused(t, string(wrong[:at+1]), api.ErrForm)
		}
	}
}

// P17: numbers, order and lengths of sections.
func TestReadSections(t *testing.T) {
	for b := range 256 {
		if b < 1 || b > 11 {
			refused(t, head+string([]byte{byte(b)}), api.ErrUnsup)
			refused(t, head+string([]byte{byte(b), 0}), api.ErrUnsup)
			refused(t, mod("\x08\x01\x00", string([]byte{byte(b), 0})), api.ErrUnsup)
			continue
		}
		refused(t, head+string([]byte{byte(b)}), api.ErrShort)
		refused(t, head+string([]byte{byte(b), 0}), api.ErrShort)
		refused(t, head+string([]byte{byte(b), 1}), api.ErrShort)
		refused(t, head+string([]byte{byte(b), 128}), api.ErrShort)
	}
	none := []string{1: "\x01\x01\x00", 2: "\x02\x01\x00", 3: "\x03\x01\x00", 4: "\x04\x01\x00", 5: "\x05\x01\x00", 6: "\x06\x01\x00", 7: "\x07\x01\x00", 8: "\x08\x01\x00", 9: "\x09\x01\x00", 10: "\x0a\x01\x00", 11: "\x0b\x01\x00"}
	for a := 1; a < 12; a++ {
		for b := 1; b < 12; b++ {
			if a < b {
				if _, err := bin.Read(head + none[a] + none[b]); err != api.OK {
					t.Errorf("sections %d, %d: %d", a, b, err)
				}
				continue
			}
			refused(t, head+none[a]+none[b], api.ErrForm)
			refused(t, head+none[a]+none[b][:1], api.ErrForm)
		}
	}
	for _, c := range []struct {
		s    string
		want api.Errno
	}{
		{"\x01\x81\x00\x00", api.OK},
		{"\x01\x81\x80\x80\x80\x00\x00", api.OK},
		{"\x01\x81\x80\x80\x80\x80\x00\x00", api.ErrForm},
		{"\x01\xff\xff\xff\xff\x0f", api.ErrShort},
		{"\x01\xff\xff\xff\xff\x10", api.ErrForm},
		{"\x01\x02\x11", api.ErrShort},
		{"\x01\x01\x11", api.ErrLarge},
		{"\x01\x01\x00\x00", api.ErrUnsup},
		{"\x01\x01\x00\x01", api.ErrForm},
		{"\x01\x01\x00\x02", api.ErrShort},
		{"\x01\x01\x00\x03\x01\x00\x02\x01\x00", api.ErrForm},
	} {
		if c.want == api.OK {
			readAs(t, head+c.s, api.Module{})
			continue
		}
		refused(t, head+c.s, c.want)
	}
}

// P17: of the content of section 1.
func TestReadTypes(t *testing.T) {
	inSection(t, 1, []row{
		{"", api.ErrShort},
		{"\x00", api.OK},
		{"\x80\x80\x00", api.OK},
		{"\x80", api.ErrShort},
		{"\x80\x80\x80\x80\x80", api.ErrForm},
		{"\x00\x00", api.ErrForm},
		{"\x01", api.ErrShort},
		{"\x11", api.ErrLarge},
		{"\x11\x61", api.ErrLarge},
		{"\x10" + strings.Repeat("\x60\x00\x00", 16), api.OK},
		{"\x10" + strings.Repeat("\x60\x00\x00", 15), api.ErrShort},
		{"\x10" + strings.Repeat("\x60\x00\x00", 17), api.ErrForm},
		{"\x01\x61", api.ErrForm},
		{"\x01\x00\x05", api.ErrForm},
		{"\x01\x60\x04\x7f\x7e\x7f\x7e\x01\x7f", api.OK},
		{"\x01\x60\x05", api.ErrLarge},
		{"\x01\x60\x05\x00\x00", api.ErrLarge},
		{"\x01\x60\x01\x7d\x09", api.ErrUnsup},
		{"\x01\x60\x01\x40", api.ErrUnsup},
		{"\x01\x60\x02\x7f", api.ErrShort},
		{"\x01\x60\x00\x02", api.ErrLarge},
		{"\x01\x60\x00\x02\x7f\x7f", api.ErrLarge},
		{"\x01\x60\x00\x01\x40", api.ErrUnsup},
		{"\x01\x60\x00\x01", api.ErrShort},
		{"\x01\x60\x00\x01\x7f\x00", api.ErrForm},
		{"\x01\x60\x80\x00\x81\x00\x7f", api.OK},
	})
}

// P17: of the content of sections 2, 3 and 7.
func TestReadImportsFunctionsExports(t *testing.T) {
	long := strings.Repeat("a", 16)
	inSection(t, 2, []row{
		{"\x00", api.OK},
		{"\x11", api.ErrLarge},
		{"\x10" + strings.Repeat("\x04host\x00\x00\x00", 16), api.OK},
		{"\x01\x04host\x00\x00\x05", api.OK},
		{"\x01\x84\x80\x00host\x80\x00\x00\x85\x00", api.OK},
		{"\x01\x04Host\x00\x00\x05", api.ErrUnsup},
		{"\x01\x04hos", api.ErrShort},
		{"\x01\x03hos", api.ErrUnsup},
		{"\x01\x05hosts", api.ErrUnsup},
		{"\x01\x05host\x00\x00\x00\x00", api.ErrUnsup},
		{"\x01\x00", api.ErrUnsup},
		{"\x01\x10" + long, api.ErrUnsup},
		{"\x01\x11", api.ErrLarge},
		{"\x01\x04\xff\xff\xff\xff", api.ErrForm},
		{"\x01\x04host", api.ErrShort},
		{"\x01\x04host\x10" + long + "\x00\x00", api.OK},
		{"\x01\x04host\x11" + long, api.ErrLarge},
		{"\x01\x04host\x01\x80\x00\x00", api.ErrForm},
		{"\x01\x04host\x00\x01\x00", api.ErrUnsup},
		{"\x01\x04host\x00\x80\x00\x00", api.ErrUnsup},
		{"\x01\x04host\x00\x03", api.ErrUnsup},
		{"\x01\x04host\x00\x00", api.ErrShort},
		{"\x01\x04host\x00\x00\xff\xff\xff\xff\x0f", api.OK},
		{"\x01\x04host\x00\x00\xff\xff\xff\xff\x1f", api.ErrForm},
		{"\x01\x04host\x00\x00\x05\x00", api.ErrForm},
	})
	inSection(t, 3, []row{
		{"", api.ErrShort},
		{"\x11", api.ErrLarge},
		{"\x01", api.ErrShort},
		{"\x01\x80", api.ErrShort},
		{"\x01\xff\xff\xff\xff\x10", api.ErrForm},
		{"\x01\x00", api.ErrForm},
		{"\x00\x00", api.ErrForm},
	})
	inSection(t, 7, []row{
		{"\x09", api.ErrLarge},
		{"\x08" + strings.Repeat("\x01a\x00\x80\x01", 8), api.OK},
		{"\x01\x00\x00\x00", api.OK},
		{"\x01\x10" + long + "\x00\x00", api.OK},
		{"\x01\x11" + long + "\x00\x00", api.ErrLarge},
		{"\x01\x01\xc3\x00\x00", api.ErrForm},
		{"\x01\x01a", api.ErrShort},
		{"\x01\x01a\x01\x00", api.ErrUnsup},
		{"\x01\x01a\x02", api.ErrUnsup},
		{"\x01\x01a\x00", api.ErrShort},
		{"\x01\x01a\x00\xff\xff\xff\xff\x0f", api.OK},
		{"\x01\x01a\x00\xff\xff\xff\xff\xff", api.ErrForm},
	})
}

// P17: of the content of sections 4, 5 and 8.
func TestReadTableMemoryStart(t *testing.T) {
	inSection(t, 4, []row{
		{"", api.ErrShort},
		{"\x00", api.OK},
		{"\x00\x70", api.ErrForm},
		{"\x02", api.ErrLarge},
		{"\x02\x70\x00\x01\x70\x00\x01", api.ErrLarge},
		{"\x01\x70\x00\x00", api.OK},
		{"\x81\x00\x70\x00\x90\x80\x00", api.OK},
		{"\x01\x70\x00\x11", api.ErrLarge},
		{"\x01\x70\x00\xff\xff\xff\xff\x0f", api.ErrLarge},
		{"\x01\x6f\x00\x01", api.ErrUnsup},
		{"\x01\x70\x01\x01\x01", api.ErrUnsup},
		{"\x01\x70\x80\x00\x01", api.ErrUnsup},
		{"\x01\x70\x00", api.ErrShort},
		{"\x01\x70\x00\x01\x00", api.ErrForm},
	})
	inSection(t, 5, []row{
		{"", api.ErrShort},
		{"\x00", api.OK},
		{"\x02", api.ErrLarge},
		{"\x02\x01\x00\x01\x01\x00\x01", api.ErrLarge},
		{"\x01\x01\x00\x00", api.OK},
		{"\x01\x01\x88\x00\x88\x00", api.OK},
		{"\x01\x00\x01", api.ErrUnsup},
		{"\x01\x02\x01\x01", api.ErrUnsup},
		{"\x01\x01\x00", api.ErrShort},
		{"\x01\x01\x09", api.ErrShort},
		{"\x01\x01\x09\x80", api.ErrShort},
		{"\x01\x01\x09\x08", api.ErrForm},
		{"\x01\x01\x08\x09", api.ErrLarge},
		{"\x01\x01\x0a\x09", api.ErrLarge},
		{"\x01\x01\x01\x00", api.ErrForm},
		{"\x01\x01\xff\xff\xff\xff\x0f\x08", api.ErrForm},
		{"\x01\x01\x01\x01\x00", api.ErrForm},
	})
	inSection(t, 8, []row{
		{"", api.ErrShort},
		{"\x00", api.OK},
		{"\x80\x00", api.OK},
		{"\xfe\xff\xff\xff\x0f", api.OK},
		{"\xff\xff\xff\xff\x0f", api.ErrForm},
		{"\xff\xff\xff\xff\x10", api.ErrForm},
		{"\xff\xff\xff\xff", api.ErrShort},
		{"\x00\x00", api.ErrForm},
	})
}

// P17: of the content of section 6.
func TestReadGlobals(t *testing.T) {
	inSection(t, 6, []row{
		{"\x00", api.OK},
		{"\x09", api.ErrLarge},
		{"\x08" + strings.Repeat("\x7f\x01\x41\x00\x0b", 8), api.OK},
		{"\x01\x7d\x02", api.ErrUnsup},
		{"\x01\x40\x00\x41\x00\x0b", api.ErrUnsup},
		{"\x01\x7f", api.ErrShort},
		{"\x01\x7f\x02", api.ErrForm},
		{"\x01\x7f\x80\x00\x41\x00\x0b", api.ErrForm},
		{"\x01\x7f\x01", api.ErrShort},
		{"\x01\x7f\x01\x42\x00\x0b", api.ErrForm},
		{"\x01\x7e\x01\x41\x00\x0b", api.ErrForm},
		{"\x01\x7f\x01\x43\x00\x0b", api.ErrUnsup},
		{"\x01\x7e\x01\x40\x00\x0b", api.ErrUnsup},
		{"\x01\x7e\x01\x23\x00\x0b", api.ErrUnsup},
		{"\x01\x7f\x00\x0b", api.ErrUnsup},
		{"\x01\x7f\x00\x41\x80\x80\x80\x80\x78\x0b", api.OK},
		{"\x01\x7f\x00\x41\x80\x80\x80\x80\x70\x0b", api.ErrForm},
		{"\x01\x7f\x00\x41\x80\x80\x80\x80\x80\x7f\x0b", api.ErrForm},
		{"\x01\x7e\x00\x42\x80\x80\x80\x80\x80\x7f\x0b", api.OK},
		{"\x01\x7e\x00\x42\xff\xff\xff\xff\xff\xff\xff\xff\xff\x01\x0b", api.ErrForm},
		{"\x01\x7f\x00\x41\x80", api.ErrShort},
		{"\x01\x7f\x00\x41\x00", api.ErrShort},
		{"\x01\x7f\x00\x41\x00\x0a", api.ErrForm},
		{"\x01\x7f\x00\x41\x00\x0b\x0b", api.ErrForm},
	})
}

// P17: of the content of sections 9 and 11.
func TestReadElemsAndData(t *testing.T) {
	for _, number := range []byte{9, 11} {
		inSection(t, number, []row{
			{"", api.ErrShort},
			{"\x05", api.ErrLarge},
			{"\x04" + strings.Repeat("\x00\x41\x7f\x0b\x00", 4), api.OK},
			{"\x01\x01\x41\x00\x0b\x00", api.ErrUnsup},
			{"\x01\x80\x00\x41\x00\x0b\x00", api.ErrUnsup},
			{"\x01\x00\x42\x00\x0b\x00", api.ErrUnsup},
			{"\x01\x00\x23\x00\x0b\x00", api.ErrUnsup},
			{"\x01\x00", api.ErrShort},
			{"\x01\x00\x41", api.ErrShort},
			{"\x01\x00\x41\x80\x80\x80\x80\x78\x0b\x00", api.OK},
			{"\x01\x00\x41\x80\x80\x80\x80\x08\x0b\x00", api.ErrForm},
			{"\x01\x00\x41\x00\x0c\x00", api.ErrForm},
			{"\x01\x00\x41\x00", api.ErrShort},
			{"\x01\x00\x41\x00\x0b", api.ErrShort},
			{"\x01\x00\x41\x00\x0b\x02\x00", api.ErrShort},
			{"\x01\x00\x41\x00\x0b\x01\x00\x00", api.ErrForm},
		})
	}
	inSection(t, 9, []row{
		{"\x01\x00\x41\x00\x0b\x10" + strings.Repeat("\x05", 16), api.OK},
		{"\x01\x00\x41\x00\x0b\x11" + strings.Repeat("\x05", 17), api.ErrLarge},
		{"\x01\x00\x41\x00\x0b\x11", api.ErrLarge},
		{"\x01\x00\x41\x00\x0b\x01\xff\xff\xff\xff\x0f", api.OK},
		{"\x01\x00\x41\x00\x0b\x01\xff\xff\xff\xff\x1f", api.ErrForm},
	})
	inSection(t, 11, []row{
		{"\x01\x00\x41\x00\x0b\x40" + strings.Repeat("\xff", 64), api.OK},
		{"\x01\x00\x41\x00\x0b\x40" + strings.Repeat("\xff", 63), api.ErrShort},
		{"\x01\x00\x41\x00\x0b\x41" + strings.Repeat("\xff", 65), api.ErrLarge},
		{"\x01\x00\x41\x00\x0b\x41", api.ErrLarge},
		{"\x01\x00\x41\x00\x0b\xff\xff\xff\xff\x0f", api.ErrLarge},
	})
}

// P17: of the content of section 10.
func TestReadCode(t *testing.T) {
	of := func(bytes string) string { return "\x01" + leb.U(uint64(len(bytes))) + bytes }
	nops := strings.Repeat("\x01", 199)
	inSection(t, 10, []row{
		{"", api.ErrShort},
		{"\x00", api.OK},
		{"\x11", api.ErrLarge},
		{"\x10" + strings.Repeat("\x02\x00\x0b", 16), api.OK},
		{"\x01", api.ErrShort},
		{"\x01\x00", api.ErrShort},
		{"\x01\x03\x00\x0b", api.ErrShort},
		{"\x01\xff\xff\xff\xff\x0f\x00\x0b", api.ErrShort},
		{"\x01\xff\xff\xff\xff\x1f\x00\x0b", api.ErrForm},
		{"\x01\x01\x00\x0b", api.ErrShort},
		{"\x02\x01\x00\x02\x00\x0b", api.ErrShort},
		{"\x01\x03\x00\x0b\x0b", api.ErrForm},
		{"\x01\x02\x00\x0b\x0b", api.ErrForm},
		{"\x01\x82\x00\x00\x0b", api.OK},
		{of("\x80\x00\x0b"), api.OK},
		{of("\x11"), api.ErrLarge},
		{of("\x10" + strings.Repeat("\x01\x7f", 16) + "\x0b"), api.OK},
		{of("\x10" + strings.Repeat("\x00\x7e", 16) + "\x0b"), api.OK},
		{of("\x11" + strings.Repeat("\x00\x7e", 17) + "\x0b"), api.ErrLarge},
		{of("\x01\x10\x7f\x0b"), api.OK},
		{of("\x01\x11\x7f"), api.ErrLarge},
		{of("\x01\x11\x40"), api.ErrUnsup},
		{of("\x01\x11"), api.ErrShort},
		{of("\x02\x0f\x7f\x02\x7e"), api.ErrLarge},
		{of("\x02\x0f\x7f\x01\x7e\x0b"), api.OK},
		{of("\x03\x10\x7f\x00\x7e\x01\x7e"), api.ErrLarge},
		{of("\x03\x10\x7f\x00\x7e\x01\x7d"), api.ErrUnsup},
		{of("\x01\xff\xff\xff\xff\x0f\x7f"), api.ErrLarge},
		{of("\x02\x01\x7f\xff\xff\xff\xff\x0f\x7f"), api.ErrLarge},
		{of("\x01\xff\xff\xff\xff\x1f\x7f"), api.ErrForm},
		{of("\x01\x00\x7d"), api.ErrUnsup},
		{of("\x00"), api.ErrShort},
		{of("\x00\x01"), api.ErrShort},
		{of("\x00\x05\x0b"), api.ErrForm},
		{of("\x00\x06\x0b"), api.ErrUnsup},
		{of("\x00" + nops + "\x0b"), api.OK},
		{of("\x00" + nops + "\x01\x0b"), api.ErrLarge},
		{of("\x00" + nops + "\x01"), api.ErrShort},
		{of("\x00" + strings.Repeat("\x02\x40", 13)), api.ErrDeep},
		{of("\x00\x0b\xff"), api.ErrForm},
	})
}

// P17: as many functions in section 10 as in section 3, at the end alone.
func TestReadAsManyFunctions(t *testing.T) {
	types := []string{"", "\x03\x01\x00", "\x03\x02\x01\x05", "\x03\x03\x02\x05\x06"}
	codes := []string{"", "\x0a\x01\x00", "\x0a\x04\x01\x02\x00\x0b", "\x0a\x07\x02\x02\x00\x0b\x02\x00\x0b"}
	for a, section3 := range types {
		for b, section10 := range codes {
			s := mod(section3, "\x08\x01\x00", section10)
			if max(a-1, 0) != max(b-1, 0) {
				refused(t, s, api.ErrForm)
				refused(t, s+"\x0b\x01\x05", api.ErrLarge)
				refused(t, s+"\x0c", api.ErrUnsup)
				continue
			}
			m := api.Module{Start: 1}
			for i := range max(a-1, 0) {
				m.Funcs = append(m.Funcs, api.Func{Type: 5 + i, Body: body()})
			}
			readAs(t, s, m)
		}
	}
}

// P17: what is read, and is never written so.
func TestReadByHand(t *testing.T) {
	code := func(bytes string) string { return sec(10, "\x01"+leb.U(uint64(len(bytes)))+bytes) }
	with := func(locals ...api.Kind) api.Module {
		return api.Module{Funcs: []api.Func{{Type: 1, Locals: locals, Body: body()}}}
	}
	for _, c := range []struct {
		s    string
		want api.Module
	}{
		{mod("\x04\x01\x00", "\x05\x01\x00"), api.Module{}},
		{mod("\x04\x04\x01\x70\x00\x00", "\x05\x04\x01\x01\x00\x00"), api.Module{}},
		{mod("\x04\x04\x01\x70\x00\x07"), api.Module{Table: 7}},
		{mod("\x05\x04\x01\x01\x00\x08"), api.Module{Most: 8}},
		{mod("\x05\x06\x01\x01\x83\x00\x83\x00"), api.Module{Pages: 3, Most: 3}},
		{mod("\x08\x05\xfe\xff\xff\xff\x0f"), api.Module{Start: math.MaxUint32}},
		{mod("\x08\x85\x00\x80\x80\x80\x80\x00"), api.Module{Start: 1}},
		{mod("\x03\x02\x01\x01", code("\x03\x01\x7f\x01\x7f\x01\x7e\x0b")), with(127, 127, 126)},
		{mod("\x03\x02\x01\x01", code("\x04\x00\x7e\x02\x7f\x00\x7f\x01\x7e\x0b")), with(127, 127, 126)},
		{mod("\x03\x02\x01\x01", code("\x01\x00\x7e\x0b")), with()},
		{mod("\x06\x0a\x01\x7f\x01\x41\xff\xff\xff\xff\x7f\x0b"), api.Module{Globals: []api.Global{{Kind: 127, Mut: true, Start: -1}}}},
		{mod("\x0b\x09\x01\x00\x41\x80\x00\x0b\x81\x00a"), api.Module{Data: []api.Data{{Bytes: "a"}}}},
	} {
		readAs(t, c.s, c.want)
	}
}

// P17: more than 4096 bytes, whatever they are.
func TestReadMostBytes(t *testing.T) {
	for _, size := range []int{4095, 4096, 4097, 4098} {
		s := scribe{}.text(ofSize(t, size))
		if size <= 4096 {
			readAs(t, s, ofSize(t, size))
			continue
		}
		refused(t, s, api.ErrLarge)
	}
	refused(t, strings.Repeat("\xff", 4096), api.ErrForm)
	refused(t, strings.Repeat("\xff", 4097), api.ErrLarge)
	refused(t, strings.Repeat("\x00", 1<<20), api.ErrLarge)
	refused(t, head+strings.Repeat("\x0c", 4089), api.ErrLarge)
}

// P17: what may be read though it isn't written so.
func TestReadLoud(t *testing.T) {
	d := dice(88172645463325252)
	loud := scribe{d: &d, loud: true}
	other := 0
	for range 5000 {
		m := d.module()
		s := loud.text(m)
		if len(s) > 4096 {
			refused(t, s, api.ErrLarge)
			continue
		}
		readAs(t, s, m)
		if s != (scribe{}).text(m) {
			other++
		}
	}
	if other < 2500 {
		t.Errorf("the test wrote only %d modules otherwise", other)
	}
}

// asJudged holds Read of any text against what was reckoned; what is read can be told, and is read again.
func asJudged(t *testing.T, s string) api.Errno {
	t.Helper()
	want := judge(s)
	if want != api.OK {
		refused(t, s, want)
		return want
	}
	m, err := bin.Read(s)
	if err != api.OK || bin.Check(m) != api.OK {
		t.Fatalf("Read of %x is %v, %d", s, m, err)
	}
	short, err := bin.Write(m)
	if err != api.OK || len(short) > len(s) {
		t.Fatalf("Write of what was read of %x is %x, %d", s, short, err)
	}
	readAs(t, short, m)
	return want
}

// P17: every byte at every place, every beginning.
func TestReadEveryByte(t *testing.T) {
	d := dice(362436069362436069)
	for _, w := range []scribe{{}, {d: &d, loud: true}} {
		s := w.text(full())
		for at := range len(s) {
			asJudged(t, s[:at])
			asJudged(t, s[:at]+s[at+1:])
			for b := range 256 {
				asJudged(t, s[:at]+string([]byte{byte(b)})+s[at+1:])
			}
		}
	}
}

// spoil changes a place of a text.
func (d *dice) spoil(s string) string {
	if s == "" {
		return "\x00"
	}
	at := d.below(len(s))
	b := string([]byte{pick(d, 0, 1, 2, 4, 5, 9, 11, 16, 17, 64, 65, 66, 96, 112, 126, 127, 128, 255, byte(d.below(256)))})
	switch d.below(4) {
	case 0:
		return s[:at]
	case 1:
		return s[:at] + s[at+1:]
	case 2:
		return s[:at] + b + s[at:]
	}
	return s[:at] + b + s[at+1:]
}

// P1, P17: modules of which the content of sections is spoilt, their lengths being right.
func TestReadSpoilt(t *testing.T) {
	d := dice(1234567890123456789)
	seen := map[api.Errno]int{}
	for n := range 30000 {
		w := scribe{d: &d, loud: n%2 == 0}
		contents := w.contents(d.module())
		for range 1 + d.below(2) {
			at := 1 + d.below(11)
			contents[at] = d.spoil(contents[at])
		}
		seen[asJudged(t, w.join(contents))]++
		if t.Failed() {
			return
		}
	}
	for _, err := range []api.Errno{api.OK, api.ErrLarge, api.ErrShort, api.ErrForm, api.ErrUnsup} {
		if seen[err] < 300 {
			t.Errorf("the error %d was seen only %d times", err, seen[err])
		}
	}
}

// P1, P17: any bytes behind the first eight.
func TestReadAnything(t *testing.T) {
	d := dice(987654321987654321)
	for range 200000 {
		bytes := make([]byte, d.below(16))
		for i := range bytes {
			bytes[i] = pick(&d, byte(i), 0, 1, 2, 3, 5, 10, 11, 65, 96, 127, 128, byte(d.below(256)))
		}
		asJudged(t, head+string(bytes))
		asJudged(t, string(bytes))
		if t.Failed() {
			return
		}
	}
}

// fill writes over a list and the room behind it.
func fill[T any](list []T, x T) {
	list = list[:cap(list)]
	for i := range list {
		list[i] = x
	}
}

// lists answers what writes over each list of m, one by one, the innermost first.
func lists(m api.Module) []func() {
	var out []func()
	for _, s := range m.Types {
		out = append(out, func() { fill(s.In, 9) }, func() { fill(s.Out, 9) })
	}
	for _, f := range m.Funcs {
		for _, x := range f.Body {
			out = append(out, func() { fill(x.To, 9) })
		}
		out = append(out, func() { fill(f.Locals, 9) }, func() { fill(f.Body, api.Ins{A: 9}) })
	}
	for _, e := range m.Elems {
		out = append(out, func() { fill(e.Funcs, 9) })
	}
	return append(out,
		func() { fill(m.Types, api.Sig{}) }, func() { fill(m.Imports, api.Import{Type: 9}) }, func() { fill(m.Funcs, api.Func{Type: 9}) },
		func() { fill(m.Globals, api.Global{Start: 9}) }, func() { fill(m.Exports, api.Export{Func: 9}) },
		func() { fill(m.Elems, api.Elem{At: 9}) }, func() { fill(m.Data, api.Data{At: 9}) })
}

// P2: no two lists of what is read share memory, spare room included, and none is kept: each is written over in a module that is read anew, where that changes the list itself and nothing else.
func TestReadIsNew(t *testing.T) {
	want := full()
	s, _ := bin.Write(want)
	all := len(lists(want))
	for at := range all {
		m, err := bin.Read(s)
		if err != api.OK || !same(m, want) {
			t.Fatalf("Read is %v, %d", m, err)
		}
		lists(m)[at]()
		expect := full()
		lists(expect)[at]()
		if !same(m, expect) {
			t.Errorf("list %d of what is read shares its memory: %v, not %v", at, m, expect)
		}
	}
}

// P2: names and bytes are no pieces of the text that was handed in.
func TestReadSharesNoText(t *testing.T) {
	s, _ := bin.Write(full())
	m, _ := bin.Read(s)
	from := uintptr(unsafe.Pointer(unsafe.StringData(s)))
	for _, piece := range []string{m.Imports[0].Name, m.Exports[0].Name, m.Exports[1].Name, m.Data[0].Bytes} {
		at := uintptr(unsafe.Pointer(unsafe.StringData(piece)))
		if at >= from && at < from+uintptr(len(s)) {
			t.Errorf("%q is a piece of what was handed in", piece)
		}
	}
}
