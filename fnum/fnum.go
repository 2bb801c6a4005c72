// Package fnum is layer 1: float64 numbers with their edges (NaN, the infinities, both noughts) in one order, as keys, sums and texts. See shared/doc/01-fnum.md.
package fnum

import (
	"math"
	"slices"
	"strconv"
)

// The classes.
const (
	Zero      = 0
	Subnormal = 1
	Normal    = 2
	Infinite  = 3
	NaN       = 4
)

const (
	signBit      = 1 << 63
	fractionBits = 52
	fractionMask = 1<<fractionBits - 1
	exponentMask = 0x7ff
	nanBits      = 0x7ff8000000000001 // those that stand for every NaN
	keyBytes     = 8
	hexDigits    = 16
	maxWhole     = 1 << 53 // from here on float64 numbers leave out whole numbers
)

// Bits answers the number's bits, of every NaN the same ones.
func Bits(x float64) uint64 {
	if math.IsNaN(x) {
		return nanBits
	}
	return math.Float64bits(x)
}

// Class tells whether the sign is set, and what kind of number it is.
func Class(x float64) (bool, int) {
	b := Bits(x)
	return b&signBit != 0, kind(b)
}

func kind(b uint64) int {
	exponent := b >> fractionBits & exponentMask
	fraction := b & fractionMask
	switch {
	case exponent == exponentMask && fraction != 0:
		return NaN
	case exponent == exponentMask:
		return Infinite
	case exponent != 0:
		return Normal
	case fraction != 0:
		return Subnormal
	}
	return Zero
}

// rank numbers the float64 numbers in their order. The bits of the negative ones rise as the numbers fall, so they are all turned.
func rank(x float64) uint64 {
	b := Bits(x)
	if b&signBit != 0 {
		return ^b
	}
	return b | signBit
}

// unrank answers the number of a rank; false: no number has it.
func unrank(r uint64) (float64, bool) {
	b := ^r
	if r&signBit != 0 {
		b = r ^ signBit
	}
	x := math.Float64frombits(b)
	if rank(x) != r { // a NaN, but not with the bits that stand for all of them
		return 0, false
	}
	return x, true
}

// Cmp answers -1, 0, 1 in the order of all float64 numbers.
func Cmp(a, b float64) int {
	x, y := rank(a), rank(b)
	switch {
	case x < y:
		return -1
	case x > y:
		return 1
	}
	return 0
}

// Key answers eight bytes that are in order as the numbers are.
func Key(x float64) []byte {
	r := rank(x)
	k := make([]byte, keyBytes)
	for i := range k {
		k[i] = byte(r >> (8 * (keyBytes - 1 - i)))
	}
	return k
}

// Unkey answers the number of eight bytes; false: they are no number's key.
func Unkey(b []byte) (float64, bool) {
	if len(b) != keyBytes {
		return 0, false
	}
	var r uint64
	for _, c := range b {
		r = r<<8 | uint64(c)
	}
	return unrank(r)
}

// Sort answers the numbers in their order.
func Sort(l []float64) []float64 {
	s := make([]float64, len(l))
	copy(s, l)
	slices.SortFunc(s, Cmp)
	return s
}

// Ends answers the first and the last one in the order; false: there is none.
func Ends(l []float64) (float64, float64, bool) {
	if len(l) == 0 {
		return 0, 0, false
	}
	first, last := l[0], l[0]
	for _, x := range l[1:] {
		if Cmp(x, first) < 0 {
			first = x
		}
		if Cmp(x, last) > 0 {
			last = x
		}
	}
	return first, last, true
}

// Clamp answers x, but lo if it is ahead of lo, and then hi if that is behind hi.
func Clamp(x, lo, hi float64) float64 {
	if Cmp(x, lo) < 0 {
		x = lo
	}
	if Cmp(x, hi) > 0 {
		x = hi
	}
	return x
}

// Total answers the sum, added up in their order so that it doesn't hang on the list's.
func Total(l []float64) float64 {
	sum := 0.0
	for _, x := range Sort(l) {
		sum += x
	}
	return sum
}

// Ratio answers n / d in floats, by 0 too.
func Ratio(n, d int) float64 {
	return float64(n) / float64(d)
}

// Whole answers the whole number that it is, within 2^53; false: it is none.
func Whole(x float64) (int, bool) {
	if math.IsNaN(x) || x < -maxWhole || x > maxWhole {
		return 0, false
	}
	n := int(x)
	if float64(n) != x {
		return 0, false
	}
	return n, true
}

// Show answers the number as a text.
func Show(x float64) string {
	switch negative, class := Class(x); {
	case class == NaN:
		return "nan"
	case class == Infinite && negative:
		return "-inf"
	case class == Infinite:
		return "inf"
	case class == Zero && negative:
		return "-0"
	}
	if n, ok := Whole(x); ok {
		return strconv.Itoa(n)
	}
	return "~" + hex(Bits(x))
}

func hex(b uint64) string {
	const digits = "0123456789abcdef"
	t := make([]byte, hexDigits)
	for i := range t {
		t[i] = digits[b>>(4*(hexDigits-1-i))&15]
	}
	return string(t)
}

// Read answers the number of a text that Show answers; false: it is none.
func Read(s string) (float64, bool) {
	x, ok := guess(s)
	if !ok || Show(x) != s { // strconv takes more texts than Show answers
		return 0, false
	}
	return x, true
}

// guess answers the only number that can have the text, if one has it.
func guess(s string) (float64, bool) {
	switch s {
	case "nan":
		return math.NaN(), true
	case "inf":
		return math.Inf(1), true
	case "-inf":
		return math.Inf(-1), true
	case "-0":
		return math.Copysign(0, -1), true
	}
	if len(s) > 0 && s[0] == '~' {
		b, err := strconv.ParseUint(s[1:], 16, 64)
		return math.Float64frombits(b), err == nil
	}
	n, err := strconv.Atoi(s)
	return float64(n), err == nil
}
