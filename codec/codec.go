// Package codec is layer 1: see shared/doc/01-codec.md.
package codec

import "constraint/api"

const (
	groupBits = 7              // bits of the integer in each byte
	more      = 1 << groupBits // added to a byte if another one follows
	maxBytes  = 10             // the least number of groups that hold 64 bits
	maxTenth  = 1              // nine groups hold 63 bits, so one bit is left for the tenth
)

// PutInt appends the encoding of an integer.
func PutInt(b []byte, n int) []byte {
	return appendInt(copyWithRoom(b, maxBytes), n)
}

// PutText appends the encoding of a string.
func PutText(b []byte, s string) []byte {
	out := appendInt(copyWithRoom(b, maxBytes+len(s)), len(s))
	return append(out, s...)
}

// PutBool appends the encoding of a boolean.
func PutBool(b []byte, x bool) []byte {
	out := copyWithRoom(b, 1)
	if x {
		return append(out, 1)
	}
	return append(out, 0)
}

// Int reads an integer from low to high at an offset, and returns the offset after it.
func Int(b []byte, at, low, high int) (n, next int, e api.Errno) {
	if !isOffset(b, at) || low > high {
		return 0, 0, api.ErrArg
	}
	u, size, e := readGroups(b[at:])
	if e != api.OK {
		return 0, 0, e
	}
	// Compared with 64 bits, so that an integer that does not fit into an int is out of range and not cut off.
	wide := signed(u)
	if wide < int64(low) || wide > int64(high) {
		return 0, 0, api.ErrRange
	}
	return int(wide), at + size, api.OK
}

// Text reads a string of at most most bytes.
func Text(b []byte, at, most int) (s string, next int, e api.Errno) {
	// A negative most is refused by Int, because it is below the lower bound.
	length, start, e := Int(b, at, 0, most)
	if e != api.OK {
		return "", 0, e
	}
	// start + length could exceed the range of an int.
	if length > len(b)-start {
		return "", 0, api.ErrShort
	}
	end := start + length
	return string(b[start:end]), end, api.OK
}

// Bool reads a boolean.
func Bool(b []byte, at int) (x bool, next int, e api.Errno) {
	if !isOffset(b, at) {
		return false, 0, api.ErrArg
	}
	if at == len(b) {
		return false, 0, api.ErrShort
	}
	if b[at] > 1 {
		return false, 0, api.ErrForm
	}
	return b[at] == 1, at + 1, api.OK
}

func isOffset(b []byte, at int) bool {
	return at >= 0 && at <= len(b)
}

// copyWithRoom copies b, because appending to b itself could overwrite bytes behind its end that belong to the caller.
func copyWithRoom(b []byte, room int) []byte {
	return append(make([]byte, 0, len(b)+room), b...)
}

func appendInt(b []byte, n int) []byte {
	u := unsigned(n)
	for u >= more {
		b = append(b, byte(u%more)+more)
		u >>= groupBits
	}
	return append(b, byte(u))
}

// unsigned interleaves the integers of both signs, so that those near 0 are encoded in few bytes.
func unsigned(n int) uint64 {
	if n >= 0 {
		return 2 * uint64(n)
	}
	// The sum comes first, because the least int has no negation.
	return 2*uint64(-(n+1)) + 1
}

// signed is the inverse of unsigned.
func signed(u uint64) int64 {
	half := int64(u / 2)
	if u%2 == 0 {
		return half
	}
	return -half - 1
}

// readGroups reads the groups at the beginning of b, up to the first byte that no other one follows.
func readGroups(b []byte) (u uint64, size int, e api.Errno) {
	for i, x := range b {
		if i == maxBytes-1 && x > maxTenth {
			return 0, 0, api.ErrForm
		}
		u += uint64(x%more) << (groupBits * i)
		if x < more {
			if i > 0 && x == 0 {
				return 0, 0, api.ErrForm
			}
			return u, i + 1, api.OK
		}
	}
	return 0, 0, api.ErrShort
}
