package shot_test

import (
	"math"
	"slices"
	"strings"
	"testing"

	"troupe/api"
	"troupe/leb"
	"troupe/probe"
	"troupe/shot"
)

// readBack is Read, but for an error that isn't told if Write doesn't tell the same text.
func readBack(text string) (api.Image, api.State, api.Errno) {
	x, s, err := shot.Read(text)
	if again, wrong := shot.Write(x, s); err == api.OK && (again != text || wrong != api.OK) {
		return x, s, -1
	}
	return x, s, err
}

// part is a number in a text, and what stands behind it, if it is a count.
type part struct {
	bits   int // below 0: with a sign
	counts bool
	most   int
	each   []part // as often as a count says; none: bytes
}

// A number without a sign of 32 bits, and those with one.
var (
	number = part{bits: 32}
	place  = part{bits: -32}
	value  = part{bits: -64}
)

// many is a count with its limit, and what stands behind it as often.
func many(most int, each ...part) part {
	return part{bits: 32, counts: true, most: most, each: each}
}

// whole is what a text has, by the words of P35.
func whole() []part {
	call := []part{number, number, many(20, value), many(200, value)}
	return []part{many(2048), many(16, place), many(8, value), number, many(40, call...)}
}

// scan goes over a text by its parts.
type scan struct {
	text   string
	told   []int64 // all numbers
	wasted bool    // one of them has more bytes than it needs
}

func (c *scan) number(bits int) (int64, api.Errno) {
	n, size, err := int64(0), 0, api.OK
	var least string
	if bits < 0 {
		n, size, err = leb.ReadS(c.text, -bits)
		least = leb.S(n)
	} else {
		var u uint64
		u, size, err = leb.ReadU(c.text, bits)
		n, least = int64(u), leb.U(u)
	}
	c.wasted = c.wasted || err == api.OK && len(least) < size
	c.text = c.text[size:]
	c.told = append(c.told, n)
	return n, err
}

func (c *scan) parts(parts []part) api.Errno {
	for _, p := range parts {
		n, err := c.number(p.bits)
		switch {
		case err != api.OK:
			return err
		case !p.counts:
			continue
		case n > int64(p.most):
			return api.ErrLarge
		case p.each == nil && n > int64(len(c.text)):
			return api.ErrShort
		case p.each == nil:
			c.text = c.text[n:]
			continue
		}
		for range n {
			if err := c.parts(p.each); err != api.OK {
				return err
			}
		}
	}
	return api.OK
}

// scanned is what Read must say of a text, by the words of P36, and the numbers in it.
func scanned(text string) ([]int64, api.Errno) {
	c := scan{text: text}
	if err := c.parts(whole()); err != api.OK {
		return nil, err
	}
	if c.text != "" || c.wasted {
		return nil, api.ErrForm
	}
	return c.told, api.OK
}

// numbers are all that an image and a state have, one behind the other.
func numbers(x api.Image, s api.State) []int64 {
	all := args(int64(len(x.Mem)), int64(len(x.Table)))
	for _, n := range x.Table {
		all = append(all, int64(n))
	}
	all = slices.Concat(all, args(int64(len(x.Globals))), x.Globals, args(int64(s.Host), int64(len(s.Calls))))
	for _, c := range s.Calls {
		all = append(all, int64(c.Func), int64(c.At), int64(len(c.Locals)))
		all = slices.Concat(all, c.Locals, args(int64(len(c.Stack))), c.Stack)
	}
	return all
}

// reads holds Read of a text against scanned; it counts what comes of it.
func reads(t *testing.T, text string, count map[api.Errno]int) {
	t.Helper()
	want, wrong := scanned(text)
	count[wrong]++
	if wrong != api.OK {
		unread(t, text, wrong)
		return
	}
	x, s, err := readBack(text)
	size := len(leb.U(uint64(len(x.Mem))))
	if err != api.OK || !slices.Equal(numbers(x, s), want) || x.Mem != text[size:size+len(x.Mem)] {
		t.Fatalf("Read of %x is %v, %v, %d, not %v", text, x, s, err, want)
	}
}

func enough(t *testing.T, count map[api.Errno]int, least int, errs ...api.Errno) {
	t.Helper()
	for _, err := range errs {
		if count[err] < least {
			t.Errorf("%d: only %d", err, count[err])
		}
	}
}

// P36: every text of up to nine bytes out of few.
func TestAllShortTexts(t *testing.T) {
	count := map[api.Errno]int{}
	var longer func(text string, more int, from string)
	longer = func(text string, more int, from string) {
		reads(t, text, count)
		if more > 0 && !t.Failed() {
			for at := range from {
				longer(text+from[at:at+1], more-1, from)
			}
		}
	}
	longer("", 9, "\x00\x01\x80")
	longer("", 6, "\x00\x01\x02\x7f\x80\xff")
	longer("\x00\x00\x00\x00\x01", 6, "\x00\x01\x02\x15\x80\xff")
	enough(t, count, 50, api.OK, api.ErrShort, api.ErrForm, api.ErrLarge)
}

// length is how many some list has that may have so many, or, now and then, more.
func length(d *probe.Dice, most, beyond int) int {
	if beyond > 0 && d.Below(beyond) == 0 {
		return most + 1 + d.Below(3)
	}
	return d.Below(1 + probe.Pick(d, 1, 3, most))
}

// plain is a number from low to high, or, now and then, one that isn't.
func plain(d *probe.Dice, low, high, beyond int) int {
	if beyond > 0 && d.Below(beyond) == 0 {
		return probe.Pick(d, low-1, high+1, math.MinInt64, math.MaxInt64)
	}
	return probe.Pick(d, low, high, max(low, 0), max(low, 0)+d.Below(300))
}

// picture is any image and state; one of so many parts is beyond what can be told (0: none is).
func picture(d *probe.Dice, beyond int) (api.Image, api.State) {
	x := api.Image{Mem: strings.Repeat("\x81m", 1100)[:length(d, 2048, beyond)], Globals: d.Longs(length(d, 8, beyond))}
	for range length(d, 16, beyond) {
		x.Table = append(x.Table, plain(d, math.MinInt32, math.MaxInt32, 6*beyond))
	}
	s := api.State{Host: plain(d, 0, math.MaxUint32, beyond)}
	for range length(d, 40, beyond) {
		s.Calls = append(s.Calls, api.Call{
			Func:   plain(d, 0, math.MaxUint32, 6*beyond),
			At:     plain(d, 0, math.MaxUint32, 6*beyond),
			Locals: d.Longs(length(d, 20, 6*beyond)),
			Stack:  d.Longs(length(d, 200, 6*beyond)),
		})
	}
	return x, s
}

// errorOf is what Write must say of anything, by the words of P35.
func errorOf(x api.Image, s api.State) api.Errno {
	large := func(n, most int) api.Errno {
		if n > most {
			return api.ErrLarge
		}
		return api.OK
	}
	outside := func(n, low, high int) api.Errno {
		if n < low || n > high {
			return api.ErrArg
		}
		return api.OK
	}
	all := []api.Errno{large(len(x.Mem), 2048), large(len(x.Table), 16), large(len(x.Globals), 8)}
	for _, n := range x.Table {
		all = append(all, outside(n, -2147483648, 2147483647))
	}
	all = append(all, outside(s.Host, 0, 4294967295), large(len(s.Calls), 40))
	for _, c := range s.Calls {
		all = append(all, outside(c.Func, 0, 4294967295), outside(c.At, 0, 4294967295), large(len(c.Locals), 20), large(len(c.Stack), 200))
	}
	for _, err := range all {
		if err != api.OK {
			return err
		}
	}
	return api.OK
}

// writes holds Write, and Read of what it tells, against the words of P35; it counts what comes of it.
func writes(t *testing.T, x api.Image, s api.State, count map[api.Errno]int) string {
	t.Helper()
	want := errorOf(x, s)
	count[want]++
	if want != api.OK {
		untold(t, "any", x, s, want)
		return ""
	}
	text, err := shot.Write(x, s)
	told, wrong := scanned(text)
	if err != api.OK || wrong != api.OK || !slices.Equal(told, numbers(x, s)) {
		t.Fatalf("Write of %v, %v is %x, %d, which tells %v, %d", x, s, text, err, told, wrong)
	}
	y, v, err := shot.Read(text)
	if err != api.OK || !probe.SameImage(x, y) || !probe.SameState(s, v) {
		t.Fatalf("%v, %v come back as %v, %v, %d", x, s, y, v, err)
	}
	return text
}

// P1, P35, P36: any images and states, such as can be told and others.
func TestAnyPictures(t *testing.T) {
	d := probe.Dice(88172645463325252)
	count := map[api.Errno]int{}
	for range 4000 {
		x, s := picture(&d, probe.Pick(&d, 0, 3, 10, 40))
		writes(t, x, s, count)
		writes(t, d.WildImage(), d.WildState(), count)
		writes(t, x, d.WildState(), count)
		writes(t, d.WildImage(), s, count)
	}
	enough(t, count, 1000, api.OK, api.ErrLarge, api.ErrArg)
}

// altered is a text in which some bytes have gone, or are other ones, or have come in.
func altered(d *probe.Dice, text string) string {
	for range 1 + d.Below(3) {
		if text == "" {
			return text
		}
		at := d.Below(min(len(text), probe.Pick(d, 12, 60, len(text))))
		rest := text[at:]
		if d.Below(2) == 0 {
			rest = text[at+1:]
		}
		text = text[:at] + probe.Pick(d, "", "\x00", "\x01", "\x7f", "\x80", "\xff", "\x09", "\x15", string([]byte{byte(d.Below(256))})) + rest
	}
	return text
}

// P1, P36: any texts, such as Write tells and others.
func TestAnyTexts(t *testing.T) {
	d := probe.Dice(2463534242987654321)
	count := map[api.Errno]int{}
	for range 4000 {
		x, s := picture(&d, 0)
		text := writes(t, x, s, count)
		for range 4 {
			reads(t, altered(&d, text), count)
		}
		reads(t, text[:d.Below(len(text))], count)
		reads(t, text+"\x00", count)
	}
	enough(t, count, 1000, api.OK, api.ErrLarge, api.ErrForm, api.ErrShort)
}
