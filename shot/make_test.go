package shot_test

import (
	"strings"
	"testing"

	"troupe/api"
	"troupe/probe"
	"troupe/shot"
)

var args = probe.Args

// full is an image and a state that have something of everything.
func full() (api.Image, api.State) {
	x := api.Image{Mem: "ab", Table: []int{-1, 3}, Globals: args(300, -65)}
	s := api.State{Host: 2, Calls: []api.Call{
		{Func: 1, At: 199, Locals: args(-1, 128), Stack: args(5, 6)},
		{Func: 0, At: 3, Stack: args(1 << 40)},
	}}
	return x, s
}

// fullParts is what is told of full, number by number; the bytes of Mem are a part, too.
func fullParts() []string {
	return []string{
		"\x02", "ab",
		"\x02", "\x7f", "\x03",
		"\x02", "\xac\x02", "\xbf\x7f",
		"\x02",
		"\x02",
		"\x01", "\xc7\x01", "\x02", "\x7f", "\x80\x01", "\x02", "\x05", "\x06",
		"\x00", "\x03", "\x00", "\x01", "\x80\x80\x80\x80\x80\x20",
	}
}

// memPart is the place of the one part that is no number.
const memPart = 1

func fullText() string {
	return strings.Join(fullParts(), "")
}

// told holds Write of an image and a state against a text, and Read of that text against these.
func told(t *testing.T, x api.Image, s api.State, text string) {
	t.Helper()
	if got, err := shot.Write(x, s); got != text || err != api.OK {
		t.Errorf("Write of %v, %v is %x, %d, not %x", x, s, got, err, text)
	}
	if y, v, err := shot.Read(text); !probe.SameImage(x, y) || !probe.SameState(s, v) || err != api.OK {
		t.Errorf("Read of %x is %v, %v, %d, not %v, %v", text, y, v, err, x, s)
	}
}

// untold holds Write against an error.
func untold(t *testing.T, what string, x api.Image, s api.State, want api.Errno) {
	t.Helper()
	if got, err := shot.Write(x, s); got != "" || err != want {
		t.Errorf("%s: Write is %d bytes, %d, not %d", what, len(got), err, want)
	}
}

// unread holds Read of a text against an error.
func unread(t *testing.T, text string, want api.Errno) {
	t.Helper()
	x, s, err := shot.Read(text)
	if err != want || !probe.SameImage(x, api.Image{}) || !probe.SameState(s, api.State{}) {
		t.Errorf("Read of %x is %v, %v, %d, not %d", text, x, s, err, want)
	}
}

// under is a state with these calls, in which no answer is waited for.
func under(calls ...api.Call) api.State {
	return api.State{Calls: calls}
}

// repeat answers a list of so many x.
func repeat[T any](x T, count int) []T {
	list := make([]T, count)
	for at := range list {
		list[at] = x
	}
	return list
}
