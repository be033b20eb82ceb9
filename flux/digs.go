package flux

import (
	"sort"

	"wallgauge/api"
	"wallgauge/dyad"
)

// Inside returns how many digs lie within what was told.
func Inside(l []Dig) (int, api.Errno) {
	if len(l) > api.MaxDigs {
		return 0, api.ErrSize
	}
	inside := 0
	for _, dig := range l {
		if dig.Told.Has(dig.Measured) {
			inside++
		}
	}
	return inside, api.OK
}

// Chance returns the chance that at most so many of n digs are within, if each one is with a chance.
func Chance(n, within int, each dyad.Num) (dyad.Num, api.Errno) {
	if !isCount(n, api.MaxDigs) || !isCount(within, n) || !isPart(each) {
		return dyad.Num{}, api.ErrArg
	}
	return chance(n, within, each), api.OK
}

// chance is Chance without errors.
func chance(n, within int, each dyad.Num) dyad.Num {
	outside := dyad.Int(1).Sub(each)
	ways, power := dyad.Int(1), dyad.Int(1)
	var sum dyad.Num
	for i := range within + 1 {
		sum = sum.Mul(outside).Add(ways.Mul(power))
		power = power.Mul(each)
		// These are integers, but for n = 64 the product does not fit an int.
		ways, _ = ways.Mul(dyad.Int(int64(n - i))).Over(dyad.Int(int64(i + 1)))
	}
	for range n - within {
		sum = sum.Mul(outside)
	}
	return sum
}

// Refused reports whether digs refuse a claim.
func Refused(n, within int, claim, level dyad.Num) (bool, api.Errno) {
	c, e := Chance(n, within, claim)
	if e != api.OK {
		return false, e
	}
	if !isPart(level) {
		return false, api.ErrArg
	}
	return c.Cmp(level) <= 0, api.OK
}

// Least returns the least number of digs within that does not refuse a claim.
func Least(n int, claim, level dyad.Num) (int, api.Errno) {
	if !isCount(n, api.MaxDigs) || !isPart(claim) || !isPart(level) {
		return 0, api.ErrArg
	}
	// The chance does not fall where the number rises, so it can be searched for by halving.
	least := sort.Search(n+1, func(within int) bool { return chance(n, within, claim).Cmp(level) > 0 })
	if least > n {
		return 0, api.ErrNone
	}
	return least, api.OK
}

// isCount tells whether x is from 0 to most.
func isCount(x, most int) bool { return 0 <= x && x <= most }

// isPart tells whether x is from 0 to 1.
func isPart(x dyad.Num) bool { return x.Sign() >= 0 && x.Cmp(dyad.Int(1)) <= 0 }
