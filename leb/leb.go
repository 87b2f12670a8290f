// Package leb: numbers and names as bytes: see doc/01-leb.md.
package leb

import (
	"strings"
	"unicode/utf8"

	"troupe/api"
)

const (
	perByte = 7   // bits of the number in one byte
	more    = 128 // is added to a byte if one more follows
	low     = more - 1
	sign    = 64 // the highest of the seven bits
)

// U answers n, without a sign, in as few bytes as there may be.
func U(n uint64) string {
	return write(n, func(rest uint64) bool { return rest < more })
}

// S answers n, with its sign, in as few bytes as there may be.
func S(n int64) string {
	return write(n, func(rest int64) bool { return -sign <= rest && rest < sign })
}

// write is told by fits whether the rest has its place in one last byte: that alone differs with and without a sign, since >> keeps the sign of a number that has one.
func write[N int64 | uint64](n N, fits func(rest N) bool) string {
	var out []byte
	for !fits(n) {
		out = append(out, byte(n&low)|more)
		n >>= perByte
	}
	return string(append(out, byte(n&low)))
}

// ReadU answers the number without a sign with which s begins, and how many bytes it has.
func ReadU(s string, bits int) (uint64, int, api.Errno) {
	return read(s, bits, func(last byte, room int) bool { return last>>room == 0 })
}

// ReadS answers the number with a sign with which s begins, and how many bytes it has.
func ReadS(s string, bits int) (int64, int, api.Errno) {
	n, size, err := read(s, bits, signFits)
	if err != api.OK {
		return 0, 0, err
	}
	if s[size-1]&sign != 0 {
		n |= ^uint64(0) << (perByte * size)
	}
	return int64(n), size, api.OK
}

// signFits holds the number's highest bit together with those of the last byte that have no place: they must be all alike.
func signFits(last byte, room int) bool {
	top := last >> (room - 1)
	return top == 0 || top == low>>(room-1)
}

// read leaves to fits what only the longest form can get wrong: whether its last byte, of which so many bits have room, has a bit without a place.
func read(s string, bits int, fits func(last byte, room int) bool) (uint64, int, api.Errno) {
	if bits != 32 && bits != 64 {
		return 0, 0, api.ErrArg
	}
	var n uint64
	for i := range len(s) {
		b := s[i]
		room := bits - perByte*i
		if room <= perByte && (b >= more || !fits(b, room)) {
			return 0, 0, api.ErrForm
		}
		n |= uint64(b&low) << (perByte * i)
		if b < more {
			return n, i + 1, api.OK
		}
	}
	return 0, 0, api.ErrShort
}

// Name answers how many bytes s has, and these.
func Name(s string) (string, api.Errno) {
	if len(s) > api.MaxName {
		return "", api.ErrLarge
	}
	if !utf8.ValidString(s) {
		return "", api.ErrForm
	}
	return U(uint64(len(s))) + s, api.OK
}

// ReadName answers the name with which s begins, and how many bytes it has, its number included.
func ReadName(s string) (string, int, api.Errno) {
	n, start, err := ReadU(s, 32)
	if err != api.OK {
		return "", 0, err
	}
	if n > api.MaxName {
		return "", 0, api.ErrLarge
	}
	end := start + int(n)
	if len(s) < end {
		return "", 0, api.ErrShort
	}
	// A copy, since a piece of s would share its memory.
	name := strings.Clone(s[start:end])
	if !utf8.ValidString(name) {
		return "", 0, api.ErrForm
	}
	return name, end, api.OK
}
