package strength

import (
	"slices"

	"wallgauge/api"
	"wallgauge/dyad"
)

// Safe returns the pressure that a class permits.
func Safe(failure dyad.Span, class, k int) (dyad.Span, api.Errno) {
	if !isWithin(class, 1, len(factors)) || failure.Lo().Sign() < 0 {
		return dyad.Span{}, api.ErrArg
	}
	return divided(failure.Mul(only(factors[class-1])), only(100), bits(k)), api.OK
}

// Judge decides on a safe pressure.
func Judge(safe dyad.Span, wanted, least int) (Verdict, api.Errno) {
	if !isWithin(least, 1, maxPressure) || !isWithin(wanted, least, maxPressure) {
		return Verdict{}, api.ErrArg
	}
	if safe.Lo().Cmp(number(wanted)) >= 0 {
		return Verdict{Fit, wanted}, api.OK
	}
	// A number that is too far below 0 for Whole gives 0, which is below least, too.
	pressure, _ := safe.Lo().Down(0).Whole()
	if pressure >= int64(least) {
		return Verdict{Reduce, int(pressure)}, api.OK
	}
	return Verdict{Repair, 0}, api.OK
}

// Rank returns an order of failure pressures, the least one first.
func Rank(l []dyad.Span) ([]int, api.Errno) {
	if len(l) > api.MaxFindings {
		return nil, api.ErrSize
	}
	return ordered(len(l), func(a, b int) int { return l[a].Lo().Cmp(l[b].Lo()) }), api.OK
}

// ordered returns the indices of a list of n elements in an order, equal ones ascending.
func ordered(n int, compare func(a, b int) int) []int {
	indices := make([]int, n)
	for i := range indices {
		indices[i] = i
	}
	slices.SortStableFunc(indices, compare)
	return indices
}
