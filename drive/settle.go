package drive

import (
	"wallgauge/api"
	"wallgauge/dyad"
)

// maxSpeed is the greatest absolute value of the ends between which a balance is looked for.
const maxSpeed = 1 << 20

// Settle returns where a falling polynomial becomes 0.
func Settle(p []dyad.Num, lo, hi dyad.Num, k int) (dyad.Span, api.Errno) {
	k = clampBits(k, api.MaxBits)
	if e := checkBalance(p, lo, hi, k); e != api.OK {
		return dyad.Span{}, e
	}
	driven := func(speed dyad.Num) bool { return sign(p, speed) >= 0 }
	return lastStep(lo, hi, k, driven), api.OK
}

// checkBalance returns the error of Settle; k is from 0 to MaxBits.
func checkBalance(p []dyad.Num, lo, hi dyad.Num, k int) api.Errno {
	slope, e := dyad.Derive(p)
	if e != api.OK {
		return e
	}
	if lo.Cmp(hi) >= 0 {
		return api.ErrOrder
	}
	for _, x := range [...]dyad.Num{lo, hi} {
		if x.Bits() > k || x.Abs().Cmp(dyad.Int(maxSpeed)) > 0 {
			return api.ErrArg
		}
	}
	if sign(slope, lo) >= 0 {
		return api.ErrArg
	}
	// The slope is not the polynomial 0, since it is below 0 at lo.
	if turns, _ := dyad.Zeros(slope, lo, hi); turns > 0 {
		return api.ErrArg
	}
	if sign(p, lo) < 0 || sign(p, hi) > 0 {
		return api.ErrNone
	}
	return api.OK
}

// sign returns the sign of the value of p, which has no error, at x.
func sign(p []dyad.Num, x dyad.Num) int {
	value, _ := dyad.At(p, x)
	return value.Sign()
}

// Settled returns where all polynomials of a box become 0.
func Settled(box []dyad.Span, lo, hi dyad.Num, k int) (dyad.Span, api.Errno) {
	if len(box) < 1 || len(box) > api.MaxDegree+1 {
		return dyad.Span{}, api.ErrSize
	}
	if lo.Sign() < 0 {
		return dyad.Span{}, api.ErrArg
	}
	least, e := Settle(ends(box, dyad.Span.Lo), lo, hi, k)
	if e != api.OK {
		return dyad.Span{}, e
	}
	greatest, e := Settle(ends(box, dyad.Span.Hi), lo, hi, k)
	if e != api.OK {
		return dyad.Span{}, e
	}
	return least.Hull(greatest), api.OK
}

// ends returns one end of each span of a box.
func ends(box []dyad.Span, end func(s dyad.Span) dyad.Num) []dyad.Num {
	var out []dyad.Num
	for _, s := range box {
		out = append(out, end(s))
	}
	return out
}
