// Package wire encodes integers and strings as bytes, decodes them, and computes checksums.
// It is layer 1. See shared/doc/01-wire.md.
package wire

import (
	"strings"

	"yardstick/api"
)

const (
	groupBits = 7
	// more is added to the byte of each group but the last one.
	more = 1 << groupBits
	// maxGroups is enough for every integer: z of -MaxInt and of MaxInt has fewer than 64 bits.
	maxGroups = 9
)

// PutInt returns the encoding of n.
func PutInt(n int) (string, api.Errno) {
	if n < -api.MaxInt || n > api.MaxInt {
		return "", api.ErrWire
	}
	return encode(n), api.OK
}

// Int returns the integer whose encoding begins at offset at of s, and the offset after it.
func Int(s string, at int) (int, int, api.Errno) {
	if at < 0 || at > len(s) {
		return 0, 0, api.ErrArg
	}
	z, size := join(s[at:])
	if size == 0 {
		return 0, 0, api.ErrWire
	}
	n := unfold(z)
	if n < -api.MaxInt || n > api.MaxInt {
		return 0, 0, api.ErrWire
	}
	return n, at + size, api.OK
}

// PutString returns the encoding of s.
func PutString(s string) (string, api.Errno) {
	if len(s) > api.MaxString {
		return "", api.ErrWire
	}
	return encode(len(s)) + s, api.OK
}

// String returns the string whose encoding begins at offset at of s, and the offset after it.
func String(s string, at int) (string, int, api.Errno) {
	size, begin, err := Int(s, at)
	if err != api.OK {
		return "", 0, err
	}
	if size < 0 || size > api.MaxString || size > len(s)-begin {
		return "", 0, api.ErrWire
	}
	end := begin + size
	// A part of s would share its memory, and so keep all of it.
	return strings.Clone(s[begin:end]), end, api.OK
}

// encode returns the encoding of n, which is from -MaxInt to MaxInt.
func encode(n int) string {
	var code [maxGroups]byte
	size := 0
	for b := range groups(fold(n)) {
		code[size] = b
		size++
	}
	return string(code[:size])
}

// fold maps an integer to the number whose groups are encoded: small integers of both signs to small numbers.
func fold(n int) uint64 {
	if n < 0 {
		return 2*uint64(-n) - 1
	}
	return 2 * uint64(n)
}

// unfold is the inverse of fold, for numbers of at most 63 bits.
func unfold(z uint64) int {
	half := int(z / 2)
	if z%2 == 1 {
		return -half - 1
	}
	return half
}

// groups returns a function that yields the bytes of the groups of z, the least significant group first.
func groups(z uint64) func(yield func(byte) bool) {
	return func(yield func(byte) bool) {
		rest := z
		for rest >= more {
			if !yield(byte(rest%more) + more) {
				return
			}
			rest /= more
		}
		yield(byte(rest))
	}
}

// join returns the number whose groups s begins with and how many they are, or twice 0 if s does not begin with
// at most maxGroups groups of which the last one is not superfluous.
func join(s string) (uint64, int) {
	z := uint64(0)
	for i := 0; i < len(s) && i < maxGroups; i++ {
		b := s[i]
		z += uint64(b%more) << (groupBits * i)
		if b >= more {
			continue
		}
		if b == 0 && i > 0 {
			return 0, 0
		}
		return z, i + 1
	}
	return 0, 0
}
