package dyad

import (
	"slices"

	"wallgauge/api"
)

// build returns magnitude 2^exponent, or the negative of this. The number has limbs of its own.
func build(negative bool, magnitude limbs, exponent int) Num {
	if len(magnitude) == 0 {
		return Num{}
	}
	n := magnitude.trailing()
	return Num{negative: negative, magnitude: magnitude.right(n), exponent: exponent + n}
}

// clampBits returns the number of bits that k counts as.
func clampBits(k int) int { return min(max(k, 0), api.MaxBits) }

// Int returns n.
func Int(n int64) Num {
	if n < 0 {
		return build(true, natural(-uint64(n)), 0)
	}
	return build(false, natural(uint64(n)), 0)
}

// New returns m/2^e.
func New(m int64, e int) (Num, api.Errno) {
	if e < 0 || e > api.MaxBits {
		return Num{}, api.ErrArg
	}
	x := Int(m)
	return build(x.negative, x.magnitude, x.exponent-e), api.OK
}

// Add returns x + y.
func (x Num) Add(y Num) Num {
	// The exponent 0 of the number 0 says nothing about its size, so it must not decide how far the other one is moved.
	if x.Zero() {
		return build(y.negative, y.magnitude, y.exponent)
	}
	if y.Zero() {
		return build(x.negative, x.magnitude, x.exponent)
	}
	exponent := min(x.exponent, y.exponent)
	a := x.magnitude.left(x.exponent - exponent)
	b := y.magnitude.left(y.exponent - exponent)
	if x.negative == y.negative {
		return build(x.negative, a.plus(b), exponent)
	}
	if a.compare(b) < 0 {
		return build(y.negative, b.minus(a), exponent)
	}
	return build(x.negative, a.minus(b), exponent)
}

// Sub returns x - y.
func (x Num) Sub(y Num) Num { return difference(x, y) }

// Mul returns x y.
func (x Num) Mul(y Num) Num {
	return build(x.negative != y.negative, x.magnitude.times(y.magnitude), x.exponent+y.exponent)
}

// Neg returns -x.
func (x Num) Neg() Num { return build(!x.negative, x.magnitude, x.exponent) }

// Abs returns the absolute value of x.
func (x Num) Abs() Num { return build(false, x.magnitude, x.exponent) }

// Shift returns x 2^n.
func (x Num) Shift(n int) (Num, api.Errno) {
	if n < -api.MaxBits || n > api.MaxBits {
		return Num{}, api.ErrArg
	}
	return build(x.negative, x.magnitude, x.exponent+n), api.OK
}

// Over returns x/y, if it is dyadic.
func (x Num) Over(y Num) (Num, api.Errno) {
	if y.Zero() {
		return Num{}, api.ErrZero
	}
	// A magnitude is odd, so no power of two helps one that does not divide the other.
	quotient, rest := x.magnitude.over(y.magnitude)
	if len(rest) > 0 {
		return Num{}, api.ErrInexact
	}
	return build(x.negative != y.negative, quotient, x.exponent-y.exponent), api.OK
}

// Zero reports whether x is 0.
func (x Num) Zero() bool { return len(x.magnitude) == 0 }

// Same reports whether x and y are equal.
func (x Num) Same(y Num) bool {
	return x.negative == y.negative && x.exponent == y.exponent && slices.Equal(x.magnitude, y.magnitude)
}

// Sign returns the sign of x.
func (x Num) Sign() int {
	switch {
	case x.Zero():
		return 0
	case x.negative:
		return -1
	}
	return 1
}

// Cmp returns the sign of x - y.
func (x Num) Cmp(y Num) int { return x.Sub(y).Sign() }

// Bits returns how many bits behind the point x has.
func (x Num) Bits() int { return max(-x.exponent, 0) }

// Down returns the greatest multiple of 2^-k that is not above x.
func (x Num) Down(k int) Num {
	k = clampBits(k)
	cut := x.Bits() - k
	if cut <= 0 {
		return build(x.negative, x.magnitude, x.exponent)
	}
	magnitude := x.magnitude.right(cut)
	if x.negative {
		// The magnitude is odd, so something other than 0 was cut off.
		magnitude = magnitude.plus(natural(1))
	}
	return build(x.negative, magnitude, -k)
}

// Up returns the least multiple of 2^-k that is not below x.
func (x Num) Up(k int) Num { return x.Neg().Down(k).Neg() }

// Whole returns x as an int64, if it is one.
func (x Num) Whole() (int64, bool) {
	if x.exponent < 0 || x.magnitude.length()+x.exponent > limbBits {
		return 0, false
	}
	n := x.magnitude.left(x.exponent).word()
	if x.negative && n <= 1<<63 {
		return int64(-n), true
	}
	if !x.negative && n < 1<<63 {
		return int64(n), true
	}
	return 0, false
}
