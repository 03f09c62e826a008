// Package sat is layer 1, saturating arithmetic on numbers and times: see shared/doc/01-sat.md.
package sat

import (
	"math/bits"

	"sounder/api"
)

// Is tells whether something is a number; Num is as what it counts.
func Is(n int) bool { return n == clamp(n) }
func Num(n int) int { return clamp(n) }

// Add, Sub and Mul do not wrap.
func Add(a, b int) int { return sum(a, b) }
func Sub(a, b int) int { return clamp(clamp(a) - clamp(b)) }
func Mul(a, b int) int { return MulDiv(a, b, 1) }

// MulDiv is a b / c, downwards.
func MulDiv(a, b, c int) int {
	q, _ := MulRest(a, b, c)
	return q
}

// MulUp is a b / c, upwards.
func MulUp(a, b, c int) int {
	q, rest := MulRest(a, b, c)
	if rest > 0 {
		return sum(q, 1)
	}
	return q
}

// MulRest is a b / c, downwards, and what is left.
func MulRest(a, b, c int) (q, rest int) {
	high, low := bits.Mul64(uint64(clamp(a)), uint64(clamp(b)))
	divisor := uint64(clamp(c))
	// Div64 panics for a divisor of 0 and for a quotient of more than 64 bits;
	// this is true for both, and both count as MaxTime.
	if high >= divisor {
		return api.MaxTime, 0
	}
	exact, left := bits.Div64(high, low, divisor)
	kept := clamp(exact)
	// A quotient of just MaxTime is not reduced and keeps its remainder.
	if kept < exact {
		left = 0
	}
	return int(kept), int(left)
}

// IsTime tells whether something is a time.
func IsTime(t int) bool { return t == api.Never || Is(t) }

// Earlier chooses the earlier one of two times.
func Earlier(a, b int) int {
	a, b = moment(a), moment(b)
	if before(b, a) {
		return b
	}
	return a
}

// Later chooses the later one of two times.
func Later(a, b int) int {
	a, b = moment(a), moment(b)
	if before(b, a) {
		return a
	}
	return b
}

// Ends is a time and some more.
func Ends(t, d int) int {
	// t is a time: one that is too great counts as Never, not as MaxTime.
	if moment(t) == api.Never {
		return api.Never
	}
	return sum(t, d)
}

// clamp serves arguments, which may be negative, and exact quotients, which may
// be greater than any int.
func clamp[N int | uint64](n N) N { return min(max(n, 0), api.MaxTime) }

// sum clamps at each step, so that no intermediate result can overflow.
func sum(numbers ...int) int {
	total := 0
	for _, n := range numbers {
		total = clamp(total + clamp(n))
	}
	return total
}

// moment is the time as which an argument counts.
func moment(t int) int {
	if !IsTime(t) {
		return api.Never
	}
	return t
}

// before tells whether the time a is earlier than the time b.
func before(a, b int) bool {
	return a != api.Never && (b == api.Never || a < b)
}
