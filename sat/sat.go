// Package sat is layer 1: arithmetic of int64 whose results are held, that is the nearest int64 where the exact one is none, and products over divisors by 128 bits.
package sat

import (
	"math"
	"math/bits"
)

// Add is a plus b, held.
func Add(a, b int64) int64 {
	if b > 0 && a > math.MaxInt64-b {
		return math.MaxInt64
	}
	if b < 0 && a < math.MinInt64-b {
		return math.MinInt64
	}
	return a + b
}

// Sub is a less b, held. It is not Add of -b: the least int64 has no other sign.
func Sub(a, b int64) int64 {
	if b < 0 && a > math.MaxInt64+b {
		return math.MaxInt64
	}
	if b > 0 && a < math.MinInt64+b {
		return math.MinInt64
	}
	return a - b
}

// Mul is a times b, held.
func Mul(a, b int64) int64 { return Down(a, b, 1) }

// Neg is a with the other sign, held.
func Neg(a int64) int64 { return Sub(0, a) }

// Abs is a without a sign, held.
func Abs(a int64) int64 {
	if a < 0 {
		return Neg(a)
	}
	return a
}

// Down is a times b over d, rounded down, held; 0, if d is not above 0.
func Down(a, b, d int64) int64 {
	if d <= 0 {
		return 0
	}
	high, low := product(a, b)
	return over(high, low, uint64(d))
}

// Up is a times b over d, rounded up, held; 0, if d is not above 0.
func Up(a, b, d int64) int64 {
	if d <= 0 {
		return 0
	}
	high, low := product(a, b)
	// Rounded down, d - 1 more is the same as rounded up. The sum fits: a product is at most 2^126.
	low, carry := bits.Add64(low, uint64(d)-1, 0)
	return over(high+int64(carry), low, uint64(d))
}

// Left is a times 2 to the power n, held.
func Left(a int64, n uint) int64 {
	switch {
	case n < 63:
		return Mul(a, 1<<n)
	case a > 0:
		return math.MaxInt64
	case a < 0:
		return math.MinInt64
	}
	return 0
}

// Right is a over 2 to the power n, rounded down.
func Right(a int64, n uint) int64 { return a >> n }

// Clamp is least, if a is below it; else most, if a is above that; else a. The order counts where least is above most.
func Clamp(a, least, most int64) int64 {
	if a < least {
		return least
	}
	if a > most {
		return most
	}
	return a
}

// product is a times b, exact, as the two halves of a number of 128 bits; the upper half has the sign.
func product(a, b int64) (int64, uint64) {
	unsigned, low := bits.Mul64(uint64(a), uint64(b))
	// Without its sign a factor below 0 is 2^64 too great, and the upper half too great by the other factor.
	high := func() int64 {
		h := int64(unsigned)
		if a < 0 {
			h -= b
		}
		if b < 0 {
			h -= a
		}
		return h
	}
	return high(), low
}

// over is the number of the two halves over d, rounded down, held; d is above 0.
func over(high int64, low, d uint64) int64 {
	if high < 0 {
		// All bits turned, x is -x - 1, which is not below 0; and turned back, what was rounded down still is, what was held still is.
		return ^overUnsigned(uint64(^high), ^low, d)
	}
	return overUnsigned(uint64(high), low, d)
}

// overUnsigned is over of a number that is not below 0.
func overUnsigned(high, low, d uint64) int64 {
	// bits.Div64 panics where its answer does not fit 64 bits; such a one is held anyway.
	if high >= d {
		return math.MaxInt64
	}
	q, _ := bits.Div64(high, low, d)
	return int64(min(q, math.MaxInt64))
}
