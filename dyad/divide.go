package dyad

import (
	"math/bits"
	"slices"
)

// over returns a/b, rounded down, and the rest; b is not 0.
func (a limbs) over(b limbs) (quotient, rest limbs) {
	if a.compare(b) < 0 {
		return nil, slices.Clone(a)
	}
	if len(b) == 1 {
		quotient = slices.Clone(a)
		r := divideBy(quotient, b[0])
		return quotient.trimmed(), natural(r)
	}
	return a.longOver(b)
}

// divideBy divides the limbs x by d in place, and returns the rest; d is not 0.
func divideBy(x limbs, d uint64) uint64 {
	var rest uint64
	for i := range x {
		k := len(x) - 1 - i
		x[k], rest = bits.Div64(rest, x[k], d)
	}
	return rest
}

// longOver is over for a b of at least two limbs, and an a that is not less: Knuth's algorithm D.
func (a limbs) longOver(b limbs) (quotient, rest limbs) {
	// A guess from the highest limbs is nearly right only if the highest bit of the divisor is set.
	shift := bits.LeadingZeros64(b[len(b)-1])
	divisor := b.left(shift)
	n := len(divisor)
	work := make(limbs, len(a)+1)
	copy(work, a.left(shift))
	quotient = make(limbs, len(a)-n+1)
	for i := range quotient {
		k := len(quotient) - 1 - i
		part := work[k : k+n+1]
		digit := guess(part, divisor)
		if subProduct(part, divisor, digit) != 0 {
			digit--
			addTo(part, divisor)
		}
		quotient[k] = digit
	}
	return quotient.trimmed(), work.trimmed().right(shift)
}

// guess returns a digit that is part/divisor, rounded down, or one more. The part has one limb more than the divisor, and is less than 2^64 times as great; the highest bit of the divisor is set.
func guess(part, divisor limbs) uint64 {
	n := len(divisor)
	high, next := divisor[n-1], divisor[n-2]
	if part[n] >= high {
		// Then the quotient of the highest limbs would not fit a digit; that of all limbs is above 2^64 - 2, since high is at least 2^63.
		return ^uint64(0)
	}
	digit, rest := bits.Div64(part[n], part[n-1], high)
	for {
		a, b := bits.Mul64(digit, next)
		if a < rest || a == rest && b <= part[n-2] {
			return digit
		}
		var over uint64
		digit--
		rest, over = bits.Add64(rest, high, 0)
		if over != 0 {
			return digit
		}
	}
}

// subProduct takes divisor digit from the part, which has one limb more, in place; it returns 1 if this was more than the part, which then is too great by 2^64 to the number of its limbs.
func subProduct(part, divisor limbs, digit uint64) uint64 {
	var carry, borrow uint64
	for i := range divisor {
		high, low := bits.Mul64(divisor[i], digit)
		low, over := bits.Add64(low, carry, 0)
		carry = high + over
		part[i], borrow = bits.Sub64(part[i], low, borrow)
	}
	last := len(divisor)
	part[last], borrow = bits.Sub64(part[last], carry, borrow)
	return borrow
}

// root returns the root of a, rounded down.
func (a limbs) root() limbs {
	if len(a) == 0 {
		return nil
	}
	// Newton's steps fall from a start that is above the root, and stop falling just at it.
	x := natural(1).left((a.length() + 1) / 2)
	for {
		quotient, _ := a.over(x)
		next := x.plus(quotient).right(1)
		if next.compare(x) >= 0 {
			return x
		}
		x = next
	}
}
