package growth

import (
	"slices"

	"wallgauge/api"
	"wallgauge/dyad"
)

// Rate returns the growth in a year.
func Rate(a, b api.Finding, days, k int) (dyad.Span, api.Errno) {
	if e := checkBoth(a, b); e != api.OK {
		return dyad.Span{}, e
	}
	if !isWithin(days, 1, api.MaxDays) {
		return dyad.Span{}, api.ErrArg
	}
	return yearly(a.Depth, b.Depth, days, k), api.OK
}

// yearly returns the growth in a year of a depth that is another one so many days later.
func yearly(was, is api.Range, days, k int) dyad.Span {
	least, greatest := max(is.Lo-was.Hi, 0), max(is.Hi-was.Lo, 0)
	return scaled(only(least).Hull(only(greatest)), year, days, k)
}

// scaled returns a span multiplied by a number and divided by another one, which is above 0.
func scaled(x dyad.Span, by, over, k int) dyad.Span {
	x, _ = x.Mul(only(by)).Div(only(over), k)
	return x
}

// Rates returns the growth of all pairs in a year.
func Rates(a, b []api.Finding, pairs [][2]int, days, k int) ([]dyad.Span, api.Errno) {
	if e := checkRuns(a, b); e != api.OK {
		return nil, e
	}
	if len(pairs) > api.MaxFindings {
		return nil, api.ErrSize
	}
	for _, pair := range pairs {
		if !isIndex(pair[0], len(a)) || !isIndex(pair[1], len(b)) {
			return nil, api.ErrArg
		}
	}
	if !isWithin(days, 1, api.MaxDays) {
		return nil, api.ErrArg
	}
	rates := make([]dyad.Span, len(pairs))
	for n, pair := range pairs {
		rates[n] = yearly(a[pair[0]].Depth, b[pair[1]].Depth, days, k)
	}
	return rates, api.OK
}

// Quantile returns the growth that a share of findings does not pass.
func Quantile(rates []dyad.Span, part, of int) (dyad.Span, api.Errno) {
	if len(rates) < 1 || len(rates) > api.MaxFindings {
		return dyad.Span{}, api.ErrSize
	}
	if !isPart(part, of) {
		return dyad.Span{}, api.ErrArg
	}
	rank := max((len(rates)*part+of-1)/of, 1)
	lo := ranked(rates, rank, func(a, b dyad.Span) int { return a.Lo().Cmp(b.Lo()) }).Lo()
	hi := ranked(rates, rank, func(a, b dyad.Span) int { return a.Hi().Cmp(b.Hi()) }).Hi()
	return dyad.Make(lo, hi)
}

// ranked returns the element of a list that has a rank in an order, from the rank 1 of the least one on.
func ranked[T any](l []T, rank int, compare func(a, b T) int) T {
	return slices.SortedFunc(slices.Values(l), compare)[rank-1]
}

// Bins returns how many rates lie surely, and at most, in each class.
func Bins(rates []dyad.Span, edges []dyad.Num) ([][2]int, api.Errno) {
	if len(rates) > api.MaxFindings || len(edges) < 1 || len(edges) > api.MaxTable {
		return nil, api.ErrSize
	}
	for i := 1; i < len(edges); i++ {
		if edges[i].Cmp(edges[i-1]) <= 0 {
			return nil, api.ErrOrder
		}
	}
	bins := make([][2]int, len(edges)+1)
	for _, rate := range rates {
		first, last := class(edges, rate.Lo()), class(edges, rate.Hi())
		if first == last {
			bins[first][0]++
		}
		// The classes leave no gap, so the numbers of a span lie in each class between those of its ends.
		for i := first; i <= last; i++ {
			bins[i][1]++
		}
	}
	return bins, api.OK
}

// class returns the class of a number: it is that of the edges that are not above it.
func class(edges []dyad.Num, x dyad.Num) int {
	n := 0
	for n < len(edges) && edges[n].Cmp(x) <= 0 {
		n++
	}
	return n
}
