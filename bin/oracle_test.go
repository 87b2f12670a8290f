package bin_test

import (
	"strings"

	"troupe/api"
	"troupe/leb"
	"troupe/nest"
)

// cursor goes over a text up to its end, which is moved in while a part is read as if nothing stood behind it.
type cursor struct {
	text    string
	at, end int
	counts  [12]int // of sections, how many there are
}

// rule is what must stand next.
type rule func(c *cursor) api.Errno

func (c *cursor) rest() string {
	return c.text[c.at:c.end]
}

func oneOf(err api.Errno, bytes string) rule {
	return func(c *cursor) api.Errno {
		if c.at == c.end {
			return api.ErrShort
		}
		c.at++
		if strings.IndexByte(bytes, c.text[c.at-1]) < 0 {
			return err
		}
		return api.OK
	}
}

func inOrder(rules ...rule) rule {
	return func(c *cursor) api.Errno {
		for _, r := range rules {
			if err := r(c); err != api.OK {
				return err
			}
		}
		return api.OK
	}
}

// number is one of which then is asked.
func number(then func(c *cursor, n int) api.Errno) rule {
	return func(c *cursor) api.Errno {
		n, size, err := leb.ReadU(c.rest(), 32)
		if err != api.OK {
			return err
		}
		c.at += size
		return then(c, int(n))
	}
}

func anything(*cursor, int) api.Errno { return api.OK }

func upTo(most int, err api.Errno) rule {
	return number(func(_ *cursor, n int) api.Errno {
		if n > most {
			return err
		}
		return api.OK
	})
}

func signed(bits int) rule {
	return func(c *cursor) api.Errno {
		_, size, err := leb.ReadS(c.rest(), bits)
		c.at += size
		return err
	}
}

func times(most int, each rule) rule {
	return number(func(c *cursor, n int) api.Errno {
		if n > most {
			return api.ErrLarge
		}
		for range n {
			if err := each(c); err != api.OK {
				return err
			}
		}
		return api.OK
	})
}

func name(c *cursor) api.Errno {
	_, size, err := leb.ReadName(c.rest())
	c.at += size
	return err
}

func host(c *cursor) api.Errno {
	from := c.at
	if err := name(c); err != api.OK {
		return err
	}
	if c.at-from < 5 || c.text[c.at-4:c.at] != "host" || c.text[from]&127 != 4 {
		return api.ErrUnsup
	}
	return api.OK
}

// sized is so many bytes, which what must take all of.
func sized(what rule) rule {
	return number(func(c *cursor, n int) api.Errno {
		if c.end-c.at < n {
			return api.ErrShort
		}
		outer := c.end
		c.end = c.at + n
		if err := what(c); err != api.OK {
			return err
		}
		if c.at != c.end {
			return api.ErrForm
		}
		c.end = outer
		return api.OK
	})
}

func memory(c *cursor) api.Errno {
	var pages int
	first := number(func(_ *cursor, n int) api.Errno { pages = n; return api.OK })
	then := number(func(_ *cursor, most int) api.Errno {
		switch {
		case most > 8:
			return api.ErrLarge
		case pages > most:
			return api.ErrForm
		}
		return api.OK
	})
	return inOrder(oneOf(api.ErrUnsup, "\x01"), first, then)(c)
}

func global(c *cursor) api.Errno {
	from := c.at
	if err := inOrder(oneOf(api.ErrUnsup, "\x7e\x7f"), oneOf(api.ErrForm, "\x00\x01"), oneOf(api.ErrUnsup, "\x41\x42"))(c); err != api.OK {
		return err
	}
	bits := 32
	switch c.text[from:from+1] + c.text[from+2:from+3] {
	case "\x7e\x41", "\x7f\x42":
		return api.ErrForm
	case "\x7e\x42":
		bits = 64
	}
	return inOrder(signed(bits), oneOf(api.ErrForm, "\x0b"))(c)
}

func code(c *cursor) api.Errno {
	all, size := 0, 0
	first := number(func(_ *cursor, n int) api.Errno { size = n; return api.OK })
	then := func(*cursor) api.Errno {
		if all += size; all > 16 {
			return api.ErrLarge
		}
		return api.OK
	}
	inner := func(c *cursor) api.Errno {
		_, size, err := nest.Read(c.rest())
		c.at += size
		return err
	}
	return inOrder(times(16, inOrder(first, oneOf(api.ErrUnsup, "\x7e\x7f"), then)), inner)(c)
}

// content is what must stand in a section.
func content(section int) rule {
	kind, some := oneOf(api.ErrUnsup, "\x7e\x7f"), number(anything)
	zero := oneOf(api.ErrUnsup, "\x00")
	place := inOrder(zero, oneOf(api.ErrUnsup, "\x41"), signed(32), oneOf(api.ErrForm, "\x0b"))
	chunk := number(func(c *cursor, n int) api.Errno {
		if n > 64 {
			return api.ErrLarge
		}
		for range n {
			if c.at++; c.at > c.end {
				return api.ErrShort
			}
		}
		return api.OK
	})
	return [12]rule{
		1:  times(16, inOrder(oneOf(api.ErrForm, "\x60"), times(4, kind), times(1, kind))),
		2:  times(16, inOrder(host, name, zero, some)),
		3:  times(16, some),
		4:  times(1, inOrder(oneOf(api.ErrUnsup, "\x70"), zero, upTo(16, api.ErrLarge))),
		5:  times(1, memory),
		6:  times(8, global),
		7:  times(8, inOrder(name, zero, some)),
		8:  upTo(4294967294, api.ErrForm),
		9:  times(4, inOrder(place, times(16, some))),
		10: times(16, sized(code)),
		11: times(4, inOrder(place, chunk)),
	}[section]
}

// judge reckons what Read says of a text.
func judge(s string) api.Errno {
	if len(s) > 4096 {
		return api.ErrLarge
	}
	c := &cursor{text: s, end: len(s)}
	for _, b := range []byte(head) {
		if err := oneOf(api.ErrForm, string([]byte{b}))(c); err != api.OK {
			return err
		}
	}
	ahead := 0
	for c.at < c.end {
		section := int(s[c.at])
		c.at++
		if section < 1 || section > 11 {
			return api.ErrUnsup
		}
		if section <= ahead {
			return api.ErrForm
		}
		ahead = section
		what := content(section)
		counted := func(c *cursor) api.Errno {
			n, _, _ := leb.ReadU(c.rest(), 32)
			c.counts[section] = int(n)
			return what(c)
		}
		if err := sized(counted)(c); err != api.OK {
			return err
		}
	}
	if c.counts[3] != c.counts[10] {
		return api.ErrForm
	}
	return api.OK
}
