package echo

import (
	"wallgauge/api"
	"wallgauge/dyad"
)

// Classify tells what two angle beams and a straight one have seen.
func Classify(left, right Beam, straight dyad.Num, r Rules) (int, api.Errno) {
	if r.Least.Sign() <= 0 || r.Straight.Sign() <= 0 || r.Apart < 0 {
		return 0, api.ErrArg
	}
	if !isBeam(left) || !isBeam(right) || straight.Sign() < 0 {
		return 0, api.ErrArg
	}
	counts := atLeast(r.Least)
	sees := func(b Beam) bool { return counts(b.Size) }
	near := max(left.At, right.At)-min(left.At, right.At) <= r.Apart
	switch {
	case sees(left) && sees(right) && near:
		return Crack, api.OK
	case sees(left) || sees(right):
		return Unclear, api.OK
	case straight.Cmp(r.Straight) >= 0:
		return Lamination, api.OK
	}
	return Nothing, api.OK
}

// isBeam tells whether a beam can have seen this.
func isBeam(b Beam) bool { return b.Size.Sign() >= 0 && isSample(b.At) }
