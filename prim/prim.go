// Package prim: numbers and texts as bytes: see doc/01-prim.md.
package prim

import (
	"strings"
	"unicode/utf8"

	"bracken/api"
)

// maxGroups is the number of seven-bit groups that 64 bits need.
const maxGroups = 10

// polynomial is the reflected polynomial of the CRC-32.
const polynomial = 0xedb88320

// Number returns n as a base-128 varint, the lowest group first.
func Number(n uint64) string {
	var groups []byte
	for n >= 128 {
		groups = append(groups, byte(n)|128)
		n >>= 7
	}
	return string(append(groups, byte(n)))
}

// ReadNumber decodes the varint at the beginning of s and returns its value and its length in bytes.
func ReadNumber(s string) (uint64, int, api.Errno) {
	var n uint64
	for i := range maxGroups {
		if i == len(s) {
			return 0, 0, api.ErrShort
		}
		group := s[i] & 127
		// Nine groups hold 63 bits, which leave a single one to the tenth.
		if i == maxGroups-1 && group > 1 {
			return 0, 0, api.ErrForm
		}
		n |= uint64(group) << (7 * i)
		if s[i] < 128 {
			if group == 0 && i > 0 {
				return 0, 0, api.ErrForm
			}
			return n, i + 1, api.OK
		}
	}
	// The tenth byte announces another one: no further byte can make this a number, so it is not ErrShort even at the end of s.
	return 0, 0, api.ErrForm
}

// Zig maps a signed number to an unsigned one; small absolute values yield small results.
func Zig(n int64) uint64 {
	if n < 0 {
		// The complement of 2n is -2n - 1, without -2n, which 64 bits cannot hold for the smallest n.
		return ^(uint64(n) << 1)
	}
	return uint64(n) << 1
}

// Zag is the inverse of Zig.
func Zag(n uint64) int64 {
	half := int64(n >> 1)
	if n&1 == 1 {
		return ^half
	}
	return half
}

// Text returns the length of s as a Number, followed by s.
func Text(s string) (string, api.Errno) {
	if len(s) > api.MaxText {
		return "", api.ErrLarge
	}
	if !utf8.ValidString(s) {
		return "", api.ErrForm
	}
	return Number(uint64(len(s))) + s, api.OK
}

// ReadText decodes the text at the beginning of s and returns it together with the number of bytes read.
func ReadText(s string) (string, int, api.Errno) {
	length, start, e := ReadNumber(s)
	if e != api.OK {
		return "", 0, e
	}
	// Compared before it becomes an int, which cannot hold every length.
	if length > api.MaxText {
		return "", 0, api.ErrLarge
	}
	end := start + int(length)
	if end > len(s) {
		return "", 0, api.ErrShort
	}
	text := s[start:end]
	if !utf8.ValidString(text) {
		return "", 0, api.ErrForm
	}
	// A part of s would keep all of s in memory.
	return strings.Clone(text), end, api.OK
}

// Sum returns the CRC-32 of s.
func Sum(s string) uint32 {
	sums := byteSums()
	register := ^uint32(0)
	for i := range len(s) {
		register = sums[byte(register)^s[i]] ^ register>>8
	}
	return ^register
}

// byteSums returns, for every byte value, the register that its eight shifts leave.
// It is computed by each Sum because the package keeps nothing between calls.
func byteSums() [256]uint32 {
	var sums [256]uint32
	for i := range sums {
		sums[i] = shiftByte(uint32(i))
	}
	return sums
}

// shiftByte shifts the register right by one byte, bit by bit.
func shiftByte(register uint32) uint32 {
	for range 8 {
		out := register & 1
		register >>= 1
		if out == 1 {
			register ^= polynomial
		}
	}
	return register
}
