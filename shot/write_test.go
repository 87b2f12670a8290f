package shot_test

import (
	"math"
	"strings"
	"testing"

	"troupe/api"
)

// P35: the image without anything, and the state without calls.
func TestNothing(t *testing.T) {
	told(t, api.Image{}, api.State{}, "\x00\x00\x00\x00\x00")
	told(t, api.Image{Table: []int{}, Globals: args()}, under([]api.Call{}...), "\x00\x00\x00\x00\x00")
	told(t, api.Image{}, under(api.Call{}), "\x00\x00\x00\x00\x01\x00\x00\x00\x00")
	told(t, api.Image{}, under(api.Call{Locals: args(), Stack: args()}), "\x00\x00\x00\x00\x01\x00\x00\x00\x00")
}

// P35: all parts, one behind the other.
func TestFull(t *testing.T) {
	x, s := full()
	told(t, x, s, fullText())
}

// P35: each part alone has its place.
func TestAlone(t *testing.T) {
	told(t, api.Image{Mem: "\x00\xff\x80"}, api.State{}, "\x03\x00\xff\x80\x00\x00\x00\x00")
	told(t, api.Image{Table: []int{7}}, api.State{}, "\x00\x01\x07\x00\x00\x00")
	told(t, api.Image{Globals: args(7)}, api.State{}, "\x00\x00\x01\x07\x00\x00")
	told(t, api.Image{}, api.State{Host: 7}, "\x00\x00\x00\x07\x00")
	told(t, api.Image{}, under(api.Call{Func: 7}), "\x00\x00\x00\x00\x01\x07\x00\x00\x00")
	told(t, api.Image{}, under(api.Call{At: 7}), "\x00\x00\x00\x00\x01\x00\x07\x00\x00")
	told(t, api.Image{}, under(api.Call{Locals: args(7)}), "\x00\x00\x00\x00\x01\x00\x00\x01\x07\x00")
	told(t, api.Image{}, under(api.Call{Stack: args(7)}), "\x00\x00\x00\x00\x01\x00\x00\x00\x01\x07")
	told(t, api.Image{}, under(api.Call{Func: 1}, api.Call{Func: 2}, api.Call{Func: 3}),
		"\x00\x00\x00\x00\x03\x01\x00\x00\x00\x02\x00\x00\x00\x03\x00\x00\x00")
}

// P35: numbers with a sign; a place has 32 bits, a value 64.
func TestSigned(t *testing.T) {
	for _, n := range []struct {
		n    int64
		text string
	}{
		{0, "\x00"}, {1, "\x01"}, {63, "\x3f"}, {64, "\xc0\x00"}, {127, "\xff\x00"}, {128, "\x80\x01"},
		{-1, "\x7f"}, {-64, "\x40"}, {-65, "\xbf\x7f"}, {-128, "\x80\x7f"},
		{math.MaxInt32, "\xff\xff\xff\xff\x07"}, {math.MinInt32, "\x80\x80\x80\x80\x78"},
	} {
		told(t, api.Image{Table: []int{int(n.n)}}, api.State{}, "\x00\x01"+n.text+"\x00\x00\x00")
		values(t, n.n, n.text)
	}
	values(t, math.MaxInt32+1, "\x80\x80\x80\x80\x08")
	values(t, math.MinInt32-1, "\xff\xff\xff\xff\x77")
	values(t, math.MaxInt64, "\xff\xff\xff\xff\xff\xff\xff\xff\xff\x00")
	values(t, math.MinInt64, "\x80\x80\x80\x80\x80\x80\x80\x80\x80\x7f")
}

// values holds a number in each place of 64 bits against its text.
func values(t *testing.T, n int64, text string) {
	t.Helper()
	told(t, api.Image{Globals: args(n)}, api.State{}, "\x00\x00\x01"+text+"\x00\x00")
	told(t, api.Image{}, under(api.Call{Locals: args(n)}), "\x00\x00\x00\x00\x01\x00\x00\x01"+text+"\x00")
	told(t, api.Image{}, under(api.Call{Stack: args(n)}), "\x00\x00\x00\x00\x01\x00\x00\x00\x01"+text)
}

// P35: numbers without a sign.
func TestUnsigned(t *testing.T) {
	for _, n := range []struct {
		n    int
		text string
	}{
		{0, "\x00"}, {1, "\x01"}, {64, "\x40"}, {127, "\x7f"}, {128, "\x80\x01"}, {300, "\xac\x02"},
		{math.MaxInt32, "\xff\xff\xff\xff\x07"}, {math.MaxInt32 + 1, "\x80\x80\x80\x80\x08"}, {math.MaxUint32, "\xff\xff\xff\xff\x0f"},
	} {
		told(t, api.Image{}, api.State{Host: n.n}, "\x00\x00\x00"+n.text+"\x00")
		told(t, api.Image{}, under(api.Call{Func: n.n}), "\x00\x00\x00\x00\x01"+n.text+"\x00\x00\x00")
		told(t, api.Image{}, under(api.Call{At: n.n}), "\x00\x00\x00\x00\x01\x00"+n.text+"\x00\x00")
	}
}

// P35: as many as there may be.
func TestMost(t *testing.T) {
	told(t, api.Image{Mem: strings.Repeat("m", 127)}, api.State{}, "\x7f"+strings.Repeat("m", 127)+"\x00\x00\x00\x00")
	told(t, api.Image{Mem: strings.Repeat("\x80", 2048)}, api.State{}, "\x80\x10"+strings.Repeat("\x80", 2048)+"\x00\x00\x00\x00")
	told(t, api.Image{Table: repeat(-1, 16)}, api.State{}, "\x00\x10"+strings.Repeat("\x7f", 16)+"\x00\x00\x00")
	told(t, api.Image{Globals: repeat[int64](9, 8)}, api.State{}, "\x00\x00\x08"+strings.Repeat("\x09", 8)+"\x00\x00")
	told(t, api.Image{}, under(repeat(api.Call{Func: 1, At: 2}, 40)...), "\x00\x00\x00\x00\x28"+strings.Repeat("\x01\x02\x00\x00", 40))
	told(t, api.Image{}, under(api.Call{Locals: repeat[int64](9, 20)}), "\x00\x00\x00\x00\x01\x00\x00\x14"+strings.Repeat("\x09", 20)+"\x00")
	told(t, api.Image{}, under(api.Call{Stack: repeat[int64](9, 200)}), "\x00\x00\x00\x00\x01\x00\x00\x00\xc8\x01"+strings.Repeat("\x09", 200))
}

// most is an image and a state that have as many of everything as there may be, and what is told of them.
func most() (api.Image, api.State, string) {
	x := api.Image{Mem: strings.Repeat("m", 2048), Table: repeat(math.MinInt32, 16), Globals: repeat[int64](math.MinInt64, 8)}
	c := api.Call{Func: math.MaxUint32, At: math.MaxUint32, Locals: repeat[int64](math.MinInt64, 20), Stack: repeat[int64](math.MaxInt64, 200)}
	low, high := strings.Repeat("\x80", 9)+"\x7f", strings.Repeat("\xff", 9)+"\x00"
	call := "\xff\xff\xff\xff\x0f\xff\xff\xff\xff\x0f\x14" + strings.Repeat(low, 20) + "\xc8\x01" + strings.Repeat(high, 200)
	text := "\x80\x10" + x.Mem + "\x10" + strings.Repeat("\x80\x80\x80\x80\x78", 16) + "\x08" + strings.Repeat(low, 8) +
		"\xff\xff\xff\xff\x0f\x28" + strings.Repeat(call, 40)
	return x, api.State{Host: math.MaxUint32, Calls: repeat(c, 40)}, text
}

// P35: as many of everything as there may be.
func TestMostOfAll(t *testing.T) {
	x, s, text := most()
	told(t, x, s, text)
}

// fault is something that can't be told.
type fault struct {
	what  string
	err   api.Errno
	spoil func(x *api.Image, s *api.State)
}

// faults stand in the order in which they are told; those of Table need two places, those of calls two calls.
func faults() []fault {
	all := []fault{
		{"2049 bytes", api.ErrLarge, func(x *api.Image, _ *api.State) { x.Mem = strings.Repeat("m", 2049) }},
		{"17 places", api.ErrLarge, func(x *api.Image, _ *api.State) { x.Table = make([]int, 17) }},
		{"9 globals", api.ErrLarge, func(x *api.Image, _ *api.State) { x.Globals = args(1, 2, 3, 4, 5, 6, 7, 8, 9) }},
		{"a place too low", api.ErrArg, func(x *api.Image, _ *api.State) { x.Table[0] = math.MinInt32 - 1 }},
		{"a place too high", api.ErrArg, func(x *api.Image, _ *api.State) { x.Table[0] = math.MaxInt32 + 1 }},
		{"the second place far too low", api.ErrArg, func(x *api.Image, _ *api.State) { x.Table[1] = math.MinInt64 }},
		{"the second place far too high", api.ErrArg, func(x *api.Image, _ *api.State) { x.Table[1] = math.MaxInt64 }},
		{"Host too low", api.ErrArg, func(_ *api.Image, s *api.State) { s.Host = -1 }},
		{"Host too high", api.ErrArg, func(_ *api.Image, s *api.State) { s.Host = math.MaxUint32 + 1 }},
		{"Host far too low", api.ErrArg, func(_ *api.Image, s *api.State) { s.Host = math.MinInt64 }},
		{"Host far too high", api.ErrArg, func(_ *api.Image, s *api.State) { s.Host = math.MaxInt64 }},
		{"41 calls", api.ErrLarge, func(_ *api.Image, s *api.State) { s.Calls = make([]api.Call, 41) }},
	}
	for at := range 2 {
		all = append(all, callFaults(at)...)
	}
	return all
}

// callFaults are those of the call at that place.
func callFaults(at int) []fault {
	of := func(what string, err api.Errno, spoil func(c *api.Call)) fault {
		return fault{what: what, err: err, spoil: func(_ *api.Image, s *api.State) { spoil(&s.Calls[at]) }}
	}
	return []fault{
		of("Func too low", api.ErrArg, func(c *api.Call) { c.Func = -1 }),
		of("Func too high", api.ErrArg, func(c *api.Call) { c.Func = math.MaxUint32 + 1 }),
		of("At too low", api.ErrArg, func(c *api.Call) { c.At = -1 }),
		of("At too high", api.ErrArg, func(c *api.Call) { c.At = math.MaxUint32 + 1 }),
		of("At far too high", api.ErrArg, func(c *api.Call) { c.At = math.MaxInt64 }),
		of("21 locals", api.ErrLarge, func(c *api.Call) { c.Locals = make([]int64, 21) }),
		of("201 on the stack", api.ErrLarge, func(c *api.Call) { c.Stack = make([]int64, 201) }),
	}
}

// P35: what can't be told.
func TestFaults(t *testing.T) {
	for _, f := range faults() {
		x, s := full()
		f.spoil(&x, &s)
		untold(t, f.what, x, s, f.err)
	}
}

// P35: of several faults the one that stands first is told: how much there is of Mem, Table and Globals, then what is in Table, then Host, then the calls, each of them whole.
func TestFirstFault(t *testing.T) {
	all := faults()
	for at, f := range all {
		for _, other := range all[at+1:] {
			x, s := full()
			f.spoil(&x, &s)
			other.spoil(&x, &s)
			untold(t, f.what+" and "+other.what, x, s, f.err)
		}
	}
}

// P35: as many of everything as there may be don't hide what is wrong in one of them; one more of Globals does, and one more of Calls doesn't.
func TestFirstAtLimits(t *testing.T) {
	for _, n := range []int{math.MinInt64, math.MinInt32 - 1, math.MaxInt32 + 1, math.MaxInt64} {
		for _, table := range [][]int{{n}, {0, n}, append(make([]int, 15), n)} {
			most := api.Image{Mem: strings.Repeat("m", 2048), Table: table, Globals: make([]int64, 8)}
			untold(t, "8 globals", most, api.State{}, api.ErrArg)
			untold(t, "8 globals, 41 calls", most, under(make([]api.Call, 41)...), api.ErrArg)
			over := api.Image{Table: table, Globals: make([]int64, 9)}
			untold(t, "9 globals", over, api.State{}, api.ErrLarge)
			untold(t, "9 globals, Host too low", over, api.State{Host: -1}, api.ErrLarge)
		}
	}
}

// P35: far more than there may be.
func TestFarTooMany(t *testing.T) {
	for _, count := range []int{2049, 5000, 1 << 20} {
		untold(t, "bytes", api.Image{Mem: strings.Repeat("m", count)}, api.State{}, api.ErrLarge)
		untold(t, "places", api.Image{Table: make([]int, count)}, api.State{}, api.ErrLarge)
		untold(t, "globals", api.Image{Globals: make([]int64, count)}, api.State{}, api.ErrLarge)
		untold(t, "calls", api.Image{}, api.State{Calls: make([]api.Call, count)}, api.ErrLarge)
		untold(t, "locals", api.Image{}, under(api.Call{Locals: make([]int64, count)}), api.ErrLarge)
		untold(t, "the stack", api.Image{}, under(api.Call{Stack: make([]int64, count)}), api.ErrLarge)
	}
}

// P35: whether a machine can be so is not asked.
func TestNoMachine(t *testing.T) {
	told(t, api.Image{Mem: "no page"}, api.State{Host: 99}, "\x07no page\x00\x00\x63\x00")
	told(t, api.Image{Table: []int{-2, 1 << 20}}, under(api.Call{Func: 1 << 20}), "\x00\x02\x7e\x80\x80\xc0\x00\x00\x00\x01\x80\x80\x40\x00\x00\x00")
}
