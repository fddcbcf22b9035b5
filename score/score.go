// Package score is layer 2: see shared/doc/02-score.md.
package score

import (
	"cmp"
	"math"
)

// Kinds of numbers, as they stand in the row.
const (
	NaN     = 0
	NegInf  = 1
	Below   = 2
	NegZero = 3
	Zero    = 4
	Above   = 5
	Inf     = 6
)

const (
	width    = 16                 // digits of a text
	digits   = "0123456789abcdef" // what they may be
	noneBits = 0x7ff8000000000001 // what stands in the text of all that is no number
	signBit  = uint64(1) << 63    // where a number differs from the one with the other sign
)

// Parse: the number whose bits are sixteen digits of base 16.
func Parse(s string) (float64, bool) {
	if len(s) != width {
		return 0, false
	}
	var bits uint64
	for i := 0; i < len(s); i++ {
		d, ok := digit(s[i])
		if !ok {
			return 0, false
		}
		bits = bits<<4 | d
	}
	return math.Float64frombits(bits), true
}

// digit: what a digit of base 16 is worth.
func digit(c byte) (uint64, bool) {
	switch {
	case '0' <= c && c <= '9':
		return uint64(c - '0'), true
	case 'a' <= c && c <= 'f':
		return uint64(c-'a') + 10, true
	}
	return 0, false
}

// Text: a number's bits.
func Text(x float64) string {
	bits := math.Float64bits(x)
	if Kind(x) == NaN {
		bits = noneBits
	}
	var text [width]byte
	for i := width - 1; i >= 0; i-- {
		text[i] = digits[bits&15]
		bits >>= 4
	}
	return string(text[:])
}

// Kind: what a number is.
func Kind(x float64) int {
	switch {
	case math.IsNaN(x):
		return NaN
	case math.IsInf(x, -1):
		return NegInf
	case math.IsInf(x, 1):
		return Inf
	case x < 0:
		return Below
	case x > 0:
		return Above
	case math.Signbit(x):
		return NegZero
	}
	return Zero
}

// Compare: -1, 0, 1: a is less than b, the same, greater. All numbers stand in one row: what is none, then by worth, -0 ahead of 0.
func Compare(a, b float64) int {
	// The kinds tell the noughts apart, which are equal by worth.
	if c := cmp.Compare(Kind(a), Kind(b)); c != 0 {
		return c
	}
	return cmp.Compare(a, b)
}

// Best: the first of the greatest; -1: there is none.
func Best(l ...float64) int {
	best := -1
	for i, x := range l {
		if best < 0 || Compare(x, l[best]) > 0 {
			best = i
		}
	}
	return best
}

// Min: the lesser of two.
func Min(a, b float64) float64 {
	if Compare(a, b) <= 0 {
		return a
	}
	return b
}

// Max: the greater of two.
func Max(a, b float64) float64 {
	if Compare(a, b) >= 0 {
		return a
	}
	return b
}

// Clamp: a number, brought between two.
func Clamp(x, low, high float64) float64 { return Min(Max(x, low), high) }

// Neg: a number with the other sign.
func Neg(x float64) float64 {
	// By its bit: 0 - x would make 0 of 0.
	return math.Float64frombits(math.Float64bits(x) ^ signBit)
}

// Sum: numbers added, from the first on.
func Sum(l ...float64) float64 {
	if len(l) == 0 {
		return 0
	}
	// Begun with the first one, not with 0, which would make 0 of -0.
	sum := l[0]
	for _, x := range l[1:] {
		sum += x
	}
	return sum
}

// Mean: the sum, divided by how many.
func Mean(l ...float64) float64 {
	// Of none it is 0 / 0: no number.
	return Sum(l...) / float64(len(l))
}
