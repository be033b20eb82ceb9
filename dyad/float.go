package dyad

import (
	"math"

	"wallgauge/api"
)

// A float has, from its highest bit on, a sign, an exponent and a fraction. The bias is what its exponent is greater by than that of the power of two that is not above its absolute value; the greatest exponent is twice the bias, and one more says that it is infinite or not a number.
const (
	fraction64 = 52
	bias64     = 1023
	sign64     = 1 << 63
	fraction32 = 23
	bias32     = 127
	sign32     = 1 << 31
)

// Float returns the exact value of a float.
func Float(f float64) (Num, api.Errno) {
	word := math.Float64bits(f)
	fraction := word & (1<<fraction64 - 1)
	exponent := int(word &^ sign64 >> fraction64)
	if exponent > 2*bias64 {
		return Num{}, api.ErrArg
	}
	if exponent == 0 {
		// A subnormal number has no hidden bit, and the exponent of the least normal ones.
		exponent = 1
	} else {
		fraction |= 1 << fraction64
	}
	return build(word&sign64 != 0, natural(fraction), exponent-bias64-fraction64), api.OK
}

// Near returns the float64 nearest to x.
func (x Num) Near() float64 {
	word := x.nearest(fraction64, bias64)
	if x.negative && word != 0 {
		word |= sign64
	}
	return math.Float64frombits(word)
}

// Near32 returns the float32 nearest to x.
func (x Num) Near32() float32 {
	word := uint32(x.nearest(fraction32, bias32))
	if x.negative && word != 0 {
		word |= sign32
	}
	return math.Float32frombits(word)
}

// nearest returns the bits of the float nearest to the absolute value of x, among floats with so many bits of fraction and this bias.
func (x Num) nearest(fraction, bias int) uint64 {
	if x.Zero() {
		return 0
	}
	top := x.magnitude.length() + x.exponent - 1
	if top > bias {
		return uint64(2*bias+1) << fraction
	}
	field := max(top+bias, 1)
	digits := x.inUnits(field - bias - fraction)
	// The hidden bit adds 1 to the exponent, and so does a carry, which also leads from subnormal numbers to normal ones and from the greatest one to infinity.
	return uint64(field-1)<<fraction + digits
}

// inUnits returns the integer nearest to the absolute value of x/2^unit, which is less than 2^63; of two equally near ones the even one.
func (x Num) inUnits(unit int) uint64 {
	cut := unit - x.exponent
	if cut <= 0 {
		return x.magnitude.left(-cut).word()
	}
	whole := x.magnitude.right(cut).word()
	// The magnitude is odd, so the highest bit that is cut off stands alone only if it is the lowest one.
	half := x.magnitude.bit(cut-1) == 1
	if half && (cut > 1 || whole%2 == 1) {
		whole++
	}
	return whole
}
