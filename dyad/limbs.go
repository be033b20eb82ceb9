package dyad

import (
	"math/bits"
	"slices"
)

// limbBits is the number of bits of a limb.
const limbBits = 64

// limbs is a natural number: its digits to the base 2^64, the least one first. The last one is not 0; the number 0 has none.
//
// No function changes the limbs that it is given, and no result shares memory with them.
type limbs []uint64

// natural returns n as limbs.
func natural(n uint64) limbs { return limbs{n}.trimmed() }

// trimmed returns the limbs without the zeros at their end. It shares memory with a, so it is only for limbs that are not yet given out.
func (a limbs) trimmed() limbs {
	n := len(a)
	for n > 0 && a[n-1] == 0 {
		n--
	}
	if n == 0 {
		return nil
	}
	return a[:n]
}

// length returns the number of bits of a without leading zeros.
func (a limbs) length() int {
	if len(a) == 0 {
		return 0
	}
	return len(a)*limbBits - bits.LeadingZeros64(a[len(a)-1])
}

// trailing returns how often 2 divides a, which is not 0.
func (a limbs) trailing() int {
	i := 0
	for a[i] == 0 {
		i++
	}
	return i*limbBits + bits.TrailingZeros64(a[i])
}

// bit returns the bit of a with the value 2^n.
func (a limbs) bit(n int) uint64 {
	if n/limbBits >= len(a) {
		return 0
	}
	return a[n/limbBits] >> (n % limbBits) & 1
}

// word returns a, which is less than 2^64, as a word.
func (a limbs) word() uint64 {
	if len(a) == 0 {
		return 0
	}
	return a[0]
}

// compare returns the sign of a - b.
func (a limbs) compare(b limbs) int {
	if len(a) != len(b) {
		if len(a) < len(b) {
			return -1
		}
		return 1
	}
	for i := range a {
		k := len(a) - 1 - i
		if a[k] < b[k] {
			return -1
		}
		if a[k] > b[k] {
			return 1
		}
	}
	return 0
}

// plus returns a + b.
func (a limbs) plus(b limbs) limbs {
	if len(a) < len(b) {
		a, b = b, a
	}
	out := make(limbs, len(a)+1)
	copy(out, a)
	addTo(out, b)
	return out.trimmed()
}

// addTo adds b to the limbs x in place; what does not fit into them is lost.
func addTo(x, b limbs) {
	var carry uint64
	for i := range x {
		var digit uint64
		if i < len(b) {
			digit = b[i]
		}
		x[i], carry = bits.Add64(x[i], digit, carry)
	}
}

// minus returns a - b; b is not above a.
func (a limbs) minus(b limbs) limbs {
	out := slices.Clone(a)
	var borrow uint64
	for i := range out {
		var digit uint64
		if i < len(b) {
			digit = b[i]
		}
		out[i], borrow = bits.Sub64(out[i], digit, borrow)
	}
	return out.trimmed()
}

// times returns a b.
func (a limbs) times(b limbs) limbs {
	out := make(limbs, len(a)+len(b))
	for i, digit := range a {
		out[i+len(b)] = addProduct(out[i:i+len(b)], b, digit)
	}
	return out.trimmed()
}

// addProduct adds b digit to the limbs x, as many as b has, in place, and returns what does not fit into them.
func addProduct(x, b limbs, digit uint64) uint64 {
	var carry uint64
	for i := range b {
		high, low := bits.Mul64(b[i], digit)
		low, over := bits.Add64(low, carry, 0)
		carry = high + over
		x[i], over = bits.Add64(x[i], low, 0)
		carry += over
	}
	return carry
}

// left returns a 2^n; n is not below 0.
func (a limbs) left(n int) limbs {
	if len(a) == 0 {
		return nil
	}
	skip, shift := n/limbBits, n%limbBits
	out := make(limbs, len(a)+skip+1)
	for i, digit := range a {
		out[i+skip] |= digit << shift
		out[i+skip+1] = digit >> (limbBits - shift)
	}
	return out.trimmed()
}

// right returns a/2^n, rounded down; n is not below 0.
func (a limbs) right(n int) limbs {
	skip, shift := n/limbBits, n%limbBits
	if skip >= len(a) {
		return nil
	}
	out := slices.Clone(a[skip:])
	for i := range out {
		out[i] >>= shift
		if i+1 < len(out) {
			out[i] |= a[skip+i+1] << (limbBits - shift)
		}
	}
	return out.trimmed()
}
