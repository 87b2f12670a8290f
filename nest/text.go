package nest

import (
	"strings"

	"troupe/api"
	"troupe/ins"
)

// Write answers a body as bytes.
func Write(l []api.Ins) (string, api.Errno) {
	if err := Check(l); err != api.OK {
		return "", err
	}
	var out strings.Builder
	for _, x := range l {
		text, err := ins.Write(x)
		if err != api.OK {
			return "", err
		}
		out.WriteString(text)
	}
	return out.String(), api.OK
}

// Read answers the body with which s begins, and how many bytes it has.
func Read(s string) ([]api.Ins, int, api.Errno) {
	var list []api.Ins
	var n nesting
	at := 0
	for !n.ended {
		x, size, err := ins.Read(s[at:])
		if err != api.OK {
			return nil, 0, err
		}
		// Between the two: what can't be read is told ahead of a body that is too large, what is out of place behind it.
		if len(list) == api.MaxBody {
			return nil, 0, api.ErrLarge
		}
		if err := n.step(x); err != api.OK {
			return nil, 0, err
		}
		list = append(list, x)
		at += size
	}
	return list, at, api.OK
}
