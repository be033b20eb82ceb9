package dyad

import "wallgauge/api"

// rounded returns the span between the multiples of 2^-k around a number: its absolute value is so many of them, rounded down, and exact says whether nothing was cut off.
func rounded(negative bool, magnitude limbs, exact bool, k int) Span {
	near := build(negative, magnitude, -k)
	if exact {
		return Only(near)
	}
	return hull(near, build(negative, magnitude.plus(natural(1)), -k))
}

// hull returns the least span that has all of the numbers.
func hull(first Num, others ...Num) Span {
	s := Only(first)
	for _, x := range others {
		if x.Cmp(s.lo) < 0 {
			s.lo = x
		}
		if x.Cmp(s.hi) > 0 {
			s.hi = x
		}
	}
	return s
}

// Make returns the span from lo to hi.
func Make(lo, hi Num) (Span, api.Errno) {
	if lo.Cmp(hi) > 0 {
		return Span{}, api.ErrOrder
	}
	return Span{lo, hi}, api.OK
}

// Only returns the span of x alone.
func Only(x Num) Span { return Span{x, x} }

// Quo returns x/y, enclosed.
func Quo(x, y Num, k int) (Span, api.Errno) {
	if y.Zero() {
		return Span{}, api.ErrZero
	}
	k = clampBits(k)
	up := x.exponent - y.exponent + k
	quotient, rest := x.magnitude.left(max(up, 0)).over(y.magnitude.left(max(-up, 0)))
	return rounded(x.negative != y.negative, quotient, len(rest) == 0, k), api.OK
}

// Root returns the root of x, enclosed.
func Root(x Num, k int) (Span, api.Errno) {
	if x.negative {
		return Span{}, api.ErrArg
	}
	k = clampBits(k)
	up := x.exponent + 2*k
	square := x.magnitude.left(max(up, 0)).right(max(-up, 0))
	root := square.root()
	// If bits were cut off, the last one of the odd magnitude was, and the root has more than k bits.
	exact := up >= 0 && root.times(root).compare(square) == 0
	return rounded(false, root, exact, k), api.OK
}

// Lo returns the lower end.
func (x Span) Lo() Num { return x.lo }

// Hi returns the upper end.
func (x Span) Hi() Num { return x.hi }

// Width returns the difference of the ends.
func (x Span) Width() Num { return x.hi.Sub(x.lo) }

// Add returns the span of all sums.
func (x Span) Add(y Span) Span { return Span{x.lo.Add(y.lo), x.hi.Add(y.hi)} }

// Sub returns the span of all differences.
func (x Span) Sub(y Span) Span { return difference(x, y) }

// Mul returns the span of all products.
func (x Span) Mul(y Span) Span {
	return hull(x.lo.Mul(y.lo), x.lo.Mul(y.hi), x.hi.Mul(y.lo), x.hi.Mul(y.hi))
}

// Neg returns the span of all negatives.
func (x Span) Neg() Span { return Span{x.hi.Neg(), x.lo.Neg()} }

// Square returns the span of all squares.
func (x Span) Square() Span {
	squares := hull(x.lo.Mul(x.lo), x.hi.Mul(x.hi))
	if x.Has(Num{}) {
		squares.lo = Num{}
	}
	return squares
}

// Div returns a span of all quotients.
func (x Span) Div(y Span, k int) (Span, api.Errno) {
	if y.Has(Num{}) {
		return Span{}, api.ErrZero
	}
	// Rounding keeps the order, so the rounded quotients of the ends have the least and the greatest one among them.
	first, _ := Quo(x.lo, y.lo, k)
	for _, ends := range [3][2]Num{{x.lo, y.hi}, {x.hi, y.lo}, {x.hi, y.hi}} {
		next, _ := Quo(ends[0], ends[1], k)
		first = first.Hull(next)
	}
	return first, api.OK
}

// Root returns a span of all roots.
func (x Span) Root(k int) (Span, api.Errno) {
	lo, e := Root(x.lo, k)
	if e != api.OK {
		return Span{}, e
	}
	hi, _ := Root(x.hi, k)
	return Span{lo.lo, hi.hi}, api.OK
}

// Round returns the span with its ends rounded outward.
func (x Span) Round(k int) Span { return Span{x.lo.Down(k), x.hi.Up(k)} }

// Has reports whether a number is in the span.
func (x Span) Has(y Num) bool { return x.lo.Cmp(y) <= 0 && y.Cmp(x.hi) <= 0 }

// In reports whether a span is in another one.
func (x Span) In(y Span) bool { return y.Has(x.lo) && y.Has(x.hi) }

// Before reports whether all numbers of x are less than those of y.
func (x Span) Before(y Span) bool { return x.hi.Cmp(y.lo) < 0 }

// Hull returns the least span that has two.
func (x Span) Hull(y Span) Span { return hull(x.lo, x.hi, y.lo, y.hi) }

// Meet returns what two spans have in common.
func (x Span) Meet(y Span) (Span, api.Errno) {
	lo := hull(x.lo, y.lo).hi
	hi := hull(x.hi, y.hi).lo
	if lo.Cmp(hi) > 0 {
		return Span{}, api.ErrNone
	}
	return Span{lo, hi}, api.OK
}
