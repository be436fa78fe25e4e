// Package total puts all numbers of the type float64 in one order: see shared/doc/02-total.md.
package total

import "math"

const (
	sign = 1 << 63            // the greatest bit of a number
	nan  = 0x7FF8000000000001 // the bits of the one NaN that a sum may be
)

// The kinds of numbers.
const (
	kindNaN = iota
	kindInfinity
	kindNought
	kindOther
)

// Key is a number's key.
func Key(f float64) uint64 {
	bits := math.Float64bits(f)
	if bits&sign == 0 {
		return bits | sign
	}
	return ^bits
}

// Of is the number with a key.
func Of(key uint64) float64 {
	if key&sign == 0 {
		return math.Float64frombits(^key)
	}
	return math.Float64frombits(key &^ sign)
}

// Less tells whether a number is less than another one.
func Less(a, b float64) bool { return Key(a) < Key(b) }

// Same tells whether numbers have the same bits.
func Same(a, b float64) bool { return math.Float64bits(a) == math.Float64bits(b) }

// Join is the greater one of two numbers.
func Join(a, b float64) float64 {
	if Less(a, b) {
		return b
	}
	return a
}

// Kind is a number's kind.
func Kind(f float64) int {
	switch {
	case math.IsNaN(f):
		return kindNaN
	case math.IsInf(f, 0):
		return kindInfinity
	case f == 0:
		return kindNought
	}
	return kindOther
}

// Sum is the sum of numbers.
func Sum(l []float64) float64 {
	sum := 0.0
	each(l, func(f float64) { sum += f })
	return plain(sum)
}

// each hands numbers to a function, in order.
func each(l []float64, do func(f float64)) {
	for _, f := range l {
		do(f)
	}
}

// plain is a number, or the one NaN: which bits an addition leaves in a NaN hangs on the machine.
func plain(f float64) float64 {
	if Kind(f) == kindNaN {
		return math.Float64frombits(nan)
	}
	return f
}
