package mem

import (
	"math"

	"troupe/api"
	"troupe/ins"
)

// Loads that leave the sign out: load64Of2U makes an I64 of 2 bytes.
const (
	load32Of1U byte = 45
	load32Of2U byte = 47
	load64Of1U byte = 49
	load64Of2U byte = 51
	load64Of4U byte = 53
)

// firstStore stands behind all loads, and ahead of all other stores.
const firstStore byte = 54

// widest is how many bytes a load or a store moves at most.
const widest = 8

// Load answers the number that the bytes are which the load op moves.
func (m *Mem) Load(op byte, base, off int64) (int64, api.Errno) {
	width := ins.Width(op)
	if width == 0 || op >= firstStore {
		return 0, api.ErrUnsup
	}
	at, err := m.place(base, off, width)
	if err != api.OK {
		return 0, err
	}
	var raw [widest]byte
	m.read(at, raw[:width])
	n := numberOf(raw)
	if hasSign(op) {
		return withSign(n, width), api.OK
	}
	return int64(n), api.OK
}

// Store puts the lowest bytes of v where the store op moves them.
func (m *Mem) Store(op byte, base, off, v int64) api.Errno {
	width := ins.Width(op)
	if width == 0 || op < firstStore {
		return api.ErrUnsup
	}
	at, err := m.place(base, off, width)
	if err != api.OK {
		return err
	}
	raw := bytesOf(uint64(v))
	m.write(at, raw[:width])
	return api.OK
}

// place answers where the bytes lie that a load or a store moves.
func (m *Mem) place(base, off int64, width int) (int, api.Errno) {
	if off < 0 || off > math.MaxUint32 {
		return 0, api.ErrArg
	}
	at := int64(uint32(base)) + off
	if !m.has(at, int64(width)) {
		return 0, api.ErrBounds
	}
	return int(at), api.OK
}

func hasSign(op byte) bool {
	switch op {
	case load32Of1U, load32Of2U, load64Of1U, load64Of2U, load64Of4U:
		return false
	}
	return true
}

// withSign answers n, a number of so many bytes, with all higher bits like its highest one.
func withSign(n uint64, width int) int64 {
	above := 8 * (widest - width)
	return int64(n<<above) >> above
}

func numberOf(raw [widest]byte) uint64 {
	var n uint64
	for i, b := range raw {
		n |= uint64(b) << (8 * i)
	}
	return n
}

func bytesOf(n uint64) [widest]byte {
	var raw [widest]byte
	for i := range raw {
		raw[i] = byte(n >> (8 * i))
	}
	return raw
}
