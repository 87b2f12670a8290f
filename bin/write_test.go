package bin_test

import (
	"math"
	"slices"
	"strings"
	"testing"

	"troupe/api"
	"troupe/bin"
)

// told holds Write of a module against its bytes, and Read of these against the module.
func told(t *testing.T, m api.Module, want string) {
	t.Helper()
	if s, err := bin.Write(m); s != want || err != api.OK {
		t.Errorf("Write of %v is\n%x, %d, not\n%x", m, s, err, want)
	}
	readAs(t, want, m)
}

// P16: the sections, byte by byte.
func TestWriteByHand(t *testing.T) {
	long := strings.Repeat("\xff", 64)
	for _, c := range []struct {
		m    api.Module
		want string
	}{
		{api.Module{}, "\x00asm\x01\x00\x00\x00"},
		{api.Module{Types: []api.Sig{{}}}, head + "\x01\x04\x01\x60\x00\x00"},
		{api.Module{Types: []api.Sig{{In: []api.Kind{127, 126}}, {Out: []api.Kind{126}}}}, head + "\x01\x0a\x02\x60\x02\x7f\x7e\x00\x60\x00\x01\x7e"},
		{api.Module{Imports: []api.Import{{Name: "log", Type: 300}}}, head + "\x02\x0d\x01\x04host\x03log\x00\xac\x02"},
		{api.Module{Imports: []api.Import{{}}}, head + "\x02\x09\x01\x04host\x00\x00\x00"},
		{api.Module{Funcs: []api.Func{{Type: 128, Body: body()}}}, head + "\x03\x03\x01\x80\x01" + "\x0a\x04\x01\x02\x00\x0b"},
		{api.Module{Funcs: []api.Func{{Type: 1, Body: body(1)}, {Locals: []api.Kind{126}, Body: body()}}}, head + "\x03\x03\x02\x01\x00" + "\x0a\x0a\x02\x03\x00\x01\x0b\x04\x01\x01\x7e\x0b"},
		{api.Module{Table: 1}, head + "\x04\x04\x01\x70\x00\x01"},
		{api.Module{Table: 16}, head + "\x04\x04\x01\x70\x00\x10"},
		{api.Module{Most: 1}, head + "\x05\x04\x01\x01\x00\x01"},
		{api.Module{Pages: 2, Most: 8}, head + "\x05\x04\x01\x01\x02\x08"},
		{api.Module{Globals: []api.Global{{Kind: 127, Start: -65}}}, head + "\x06\x07\x01\x7f\x00\x41\xbf\x7f\x0b"},
		{api.Module{Globals: []api.Global{{Kind: 126, Mut: true, Start: 64}, {Kind: 127}}}, head + "\x06\x0c\x02\x7e\x01\x42\xc0\x00\x0b\x7f\x00\x41\x00\x0b"},
		{api.Module{Globals: []api.Global{{Kind: 126, Start: math.MinInt64}}}, head + "\x06\x0f\x01\x7e\x00\x42\x80\x80\x80\x80\x80\x80\x80\x80\x80\x7f\x0b"},
		{api.Module{Exports: []api.Export{{Name: "h\xc3\xa9", Func: 128}, {}}}, head + "\x07\x0b\x02\x03h\xc3\xa9\x00\x80\x01\x00\x00\x00"},
		{api.Module{Start: 1}, head + "\x08\x01\x00"},
		{api.Module{Start: 129}, head + "\x08\x02\x80\x01"},
		{api.Module{Start: math.MaxUint32}, head + "\x08\x05\xfe\xff\xff\xff\x0f"},
		{api.Module{Elems: []api.Elem{{At: -1, Funcs: []int{3, 200}}, {}}}, head + "\x09\x0e\x02\x00\x41\x7f\x0b\x02\x03\xc8\x01\x00\x41\x00\x0b\x00"},
		{api.Module{Data: []api.Data{{At: 64, Bytes: "a\x00"}, {At: math.MinInt32}}}, head + "\x0b\x12\x02\x00\x41\xc0\x00\x0b\x02a\x00\x00\x41\x80\x80\x80\x80\x78\x0b\x00"},
		{api.Module{Data: []api.Data{{Bytes: long}, {Bytes: long}}}, head + "\x0b\x8b\x01\x02\x00\x41\x00\x0b\x40" + long + "\x00\x41\x00\x0b\x40" + long},
	} {
		told(t, c.m, c.want)
	}
}

// P16: all sections, rising by their numbers.
func TestWriteEverything(t *testing.T) {
	told(t, full(), head+
		"\x01\x10\x03\x60\x04\x7f\x7e\x7f\x7e\x01\x7e\x60\x00\x00\x60\x00\x01\x7f"+
		"\x02\x16\x02\x04host\x04take\x00\x01\x04host\x00\x00\xac\x02"+
		"\x03\x03\x02\x02\x01"+
		"\x04\x04\x01\x70\x00\x0a"+
		"\x05\x04\x01\x01\x01\x08"+
		"\x06\x15\x02\x7f\x01\x41\xbf\x7f\x0b\x7e\x00\x42\x80\x80\x80\x80\x80\x80\x80\x80\x80\x7f\x0b"+
		"\x07\x0d\x02\x02go\x00\x02\x03h\xc3\xa9\x00\xc8\x01"+
		"\x08\x02\x80\x01"+
		"\x09\x0f\x02\x00\x41\x03\x0b\x03\x00\x80\x01\x02\x00\x41\x7f\x0b\x00"+
		"\x0a\x19\x02\x10\x03\x02\x7f\x01\x7e\x01\x7f\x41\x7f\x0e\x02\x00\x80\x01\x01\x0b\x06\x00\x04\x40\x05\x0b\x0b"+
		"\x0b\x14\x02\x00\x41\xff\x01\x0b\x04ab\x00\xff\x00\x41\x80\x80\x80\x80\x78\x0b\x00")
}

// P16: as many of one kind as there are, one behind the other, are a group.
func TestWriteGroups(t *testing.T) {
	mixed := slices.Repeat([]api.Kind{126, 127}, 8)
	for _, c := range []struct {
		locals []api.Kind
		want   string
	}{
		{nil, "\x00"},
		{[]api.Kind{127}, "\x01\x01\x7f"},
		{[]api.Kind{126, 126}, "\x01\x02\x7e"},
		{[]api.Kind{127, 126}, "\x02\x01\x7f\x01\x7e"},
		{[]api.Kind{127, 127, 126, 127}, "\x03\x02\x7f\x01\x7e\x01\x7f"},
		{[]api.Kind{126, 127, 127, 127}, "\x02\x01\x7e\x03\x7f"},
		{kinds(16), "\x01\x10\x7f"},
		{mixed, "\x10" + strings.Repeat("\x01\x7e\x01\x7f", 8)},
	} {
		m := api.Module{Funcs: []api.Func{{Locals: c.locals, Body: body()}}}
		code := c.want + "\x0b"
		told(t, m, mod("\x03\x02\x01\x00", sec(10, "\x01"+string([]byte{byte(len(code))})+code)))
	}
}

// P16: lists that are empty, but not nil, are left out, too.
func TestWriteLeavesOut(t *testing.T) {
	empty := api.Module{Types: []api.Sig{}, Imports: []api.Import{}, Funcs: []api.Func{}, Globals: []api.Global{}, Exports: []api.Export{}, Elems: []api.Elem{}, Data: []api.Data{}}
	told(t, empty, head)
	told(t, api.Module{Types: []api.Sig{{In: []api.Kind{}, Out: []api.Kind{}}}, Funcs: []api.Func{{Locals: []api.Kind{}, Body: body()}}}, mod("\x01\x04\x01\x60\x00\x00", "\x03\x02\x01\x00", "\x0a\x04\x01\x02\x00\x0b"))
}

// P16, P17: modules of all sizes, up to those that are too large.
func TestWriteAnything(t *testing.T) {
	d := dice(362436069362436069)
	large := 0
	for n := range 3000 {
		m := d.module()
		if n%4 == 0 {
			m.Funcs = d.longFuncs()
		}
		want := scribe{}.text(m)
		if len(want) <= 4096 {
			told(t, m, want)
			continue
		}
		large++
		refusedByWrite(t, m, api.ErrLarge)
	}
	if large < 100 {
		t.Errorf("the test made only %d modules that are too large", large)
	}
}

func refusedByWrite(t *testing.T, m api.Module, want api.Errno) {
	t.Helper()
	if s, err := bin.Write(m); s != "" || err != want {
		t.Errorf("Write: %x, %d, not %d", s, err, want)
	}
}

// ofSize is a module that has so many bytes, some 4000.
func ofSize(t *testing.T, size int) api.Module {
	t.Helper()
	m := api.Module{Funcs: funcs(16)}
	for at := range 2 {
		m.Funcs[at].Body = append(slices.Repeat([]api.Ins{{Op: 66, A: math.MinInt64}}, 130), body()...)
	}
	missing := size - len(scribe{}.text(m))
	for at := 2; at < len(m.Funcs); at++ {
		// At most 100, so that how many bytes the function has stays one byte itself.
		n := min(missing, 100)
		m.Funcs[at].Body = body(slices.Repeat([]byte{1}, n)...)
		missing -= n
	}
	if got := len(scribe{}.text(m)); got != size {
		t.Fatalf("the test made %d bytes, not %d", got, size)
	}
	return m
}

// P16: 4096 bytes may be, 4097 not.
func TestWriteMostBytes(t *testing.T) {
	for _, size := range []int{4095, 4096} {
		m := ofSize(t, size)
		told(t, m, scribe{}.text(m))
	}
	for _, size := range []int{4097, 4098} {
		m := ofSize(t, size)
		if err := bin.Check(m); err != api.OK {
			t.Errorf("Check of %d bytes: %d", size, err)
		}
		refusedByWrite(t, m, api.ErrLarge)
	}
	wrong := ofSize(t, 4097)
	wrong.Data = []api.Data{{At: 1 << 31}}
	refusedByWrite(t, wrong, api.ErrArg)
}

// withRoom is list with something behind it.
func withRoom[T any](list []T, behind T) []T {
	return append(slices.Clone(list), behind)[:len(list)]
}

// roomy is full, with something behind each of its lists.
func roomy() api.Module {
	m := full()
	for i := range m.Types {
		m.Types[i].In = withRoom(m.Types[i].In, 99)
		m.Types[i].Out = withRoom(m.Types[i].Out, 98)
	}
	m.Types = withRoom(m.Types, api.Sig{Out: []api.Kind{97}})
	m.Imports = withRoom(m.Imports, api.Import{Type: 96})
	for i, f := range m.Funcs {
		for j, x := range f.Body {
			f.Body[j].To = withRoom(x.To, 95)
		}
		m.Funcs[i].Locals = withRoom(f.Locals, 94)
		m.Funcs[i].Body = withRoom(f.Body, api.Ins{A: 93})
	}
	m.Funcs = withRoom(m.Funcs, api.Func{Type: 92})
	m.Globals = withRoom(m.Globals, api.Global{Start: 91})
	m.Exports = withRoom(m.Exports, api.Export{Func: 90})
	for i := range m.Elems {
		m.Elems[i].Funcs = withRoom(m.Elems[i].Funcs, 89)
	}
	m.Elems = withRoom(m.Elems, api.Elem{At: 88})
	m.Data = withRoom(m.Data, api.Data{At: 87})
	return m
}

// stretched is m with all its lists one longer, as far as there is room.
func stretched(m api.Module) api.Module {
	m.Types = slices.Clone(oneMore(m.Types))
	for i := range m.Types {
		m.Types[i].In, m.Types[i].Out = oneMore(m.Types[i].In), oneMore(m.Types[i].Out)
	}
	m.Imports = oneMore(m.Imports)
	m.Funcs = slices.Clone(oneMore(m.Funcs))
	for i := range m.Funcs {
		f := &m.Funcs[i]
		f.Locals, f.Body = oneMore(f.Locals), slices.Clone(oneMore(f.Body))
		for j := range f.Body {
			f.Body[j].To = oneMore(f.Body[j].To)
		}
	}
	m.Globals, m.Exports = oneMore(m.Globals), oneMore(m.Exports)
	m.Elems = slices.Clone(oneMore(m.Elems))
	for i := range m.Elems {
		m.Elems[i].Funcs = oneMore(m.Elems[i].Funcs)
	}
	m.Data = oneMore(m.Data)
	return m
}

func oneMore[T any](list []T) []T {
	return list[:min(len(list)+1, cap(list))]
}

// P2: what is handed in is as it was, the room behind it included; what is answered hangs on nothing else.
func TestNothingIsChanged(t *testing.T) {
	m := roomy()
	want, _ := bin.Write(full())
	for range 3 {
		if bin.Check(m) != api.OK {
			t.Error("Check answers something else")
		}
		if s, err := bin.Write(m); s != want || err != api.OK {
			t.Errorf("Write answers something else: %x, %d", s, err)
		}
		if !same(stretched(m), stretched(roomy())) {
			t.Fatal("what was handed in is changed")
		}
	}
}
