// Package wire is layer 1: numbers, texts and lists in bytes: see shared/doc/01-wire.md.
package wire

import (
	"strconv"

	"gleaner/api"
)

// Whole is a whole number of one, two, four or eight bytes.
type Whole interface {
	~int8 | ~int16 | ~int32 | ~int64 | ~uint8 | ~uint16 | ~uint32 | ~uint64
}

// maxVar is how many bytes the greatest number takes at seven bits a byte.
const maxVar = 10

// Fault is where some bytes are wrong, and how. It is an error that wraps its Code.
type Fault struct {
	At   int
	Code api.Errno
}

// Error is the fault as a text (P1.1).
func (f Fault) Error() string { return "at " + strconv.Itoa(f.At) + ": " + f.Code.Error() }

// Unwrap is its Code, OK too (P1.1).
func (f Fault) Unwrap() error { return f.Code }

// width is how many bytes a number of type N has. It is found by doubling 1
// until the bit falls out, because the size of a type may not be asked for.
func width[N Whole]() int {
	bits := 0
	for v := N(1); v != 0; v += v {
		bits++
	}
	return bits / 8
}

// bound is what a greatest length or count means: one below 0 is as 0.
func bound(most int) uint64 { return uint64(max(most, 0)) }
