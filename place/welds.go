package place

import (
	"iter"
	"slices"

	"wallgauge/api"
)

const (
	maxCost  = 1 << 20 // of a weld or a call without a pair, and of a distance
	maxPrice = 1 << 40 // of an element of a table of prices
)

// step is how an alignment ends: behind one of the first welds and the first calls, so many of each, it goes on with a pair, a weld or a call that costs so much.
type step struct{ welds, calls, cost int }

// Align returns the pairs of a cheapest alignment of welds and calls, and its cost.
func Align(welds, calls []int, c Costs) ([][2]int, int, api.Errno) {
	if e := checkProblem(welds, calls, c); e != api.OK {
		return nil, 0, e
	}
	ends, table := endings(welds, calls, c), priceTable(welds, calls, c)
	var pairs [][2]int
	for i, k := len(welds), len(calls); i > 0 && k > 0; {
		s := cheapest(table, ends(i, k))
		if s.welds < i && s.calls < k {
			pairs = append(pairs, [2]int{s.welds, s.calls})
		}
		i, k = s.welds, s.calls
	}
	slices.Reverse(pairs)
	return pairs, table[len(welds)][len(calls)], api.OK
}

// Cost returns what an alignment costs.
func Cost(welds, calls []int, c Costs, pairs [][2]int) (int, api.Errno) {
	if e := checkProblem(welds, calls, c); e != api.OK {
		return 0, e
	}
	distance := distances(welds, calls)
	cost := (len(welds)-len(pairs))*c.Lost + (len(calls)-len(pairs))*c.False
	for at, p := range pairs {
		if e := checkPair(len(welds), len(calls), pairs, at); e != api.OK {
			return 0, e
		}
		apart := distance(p[0], p[1])
		if apart > c.Most {
			return 0, api.ErrNone
		}
		cost += apart
	}
	return cost, api.OK
}

// Prices returns the least costs of the first welds and the first calls, for all numbers of them.
func Prices(welds, calls []int, c Costs) ([][]int, api.Errno) {
	if e := checkProblem(welds, calls, c); e != api.OK {
		return nil, e
	}
	return priceTable(welds, calls, c), api.OK
}

// Floor returns the cost that prices prove for each alignment.
func Floor(welds, calls []int, c Costs, prices [][]int) (int, api.Errno) {
	if e := checkProblem(welds, calls, c); e != api.OK {
		return 0, e
	}
	if len(prices) != len(welds)+1 {
		return 0, api.ErrSize
	}
	for _, row := range prices {
		if len(row) != len(calls)+1 {
			return 0, api.ErrSize
		}
	}
	ends := endings(welds, calls, c)
	for i, row := range prices {
		for k, price := range row {
			if price < -maxPrice || price > maxPrice {
				return 0, api.ErrArg
			}
			for s := range ends(i, k) {
				if price > prices[s.welds][s.calls]+s.cost {
					return 0, api.ErrOrder
				}
			}
		}
	}
	return prices[len(welds)][len(calls)] - prices[0][0], api.OK
}

// priceTable returns the table of Prices.
func priceTable(welds, calls []int, c Costs) [][]int {
	ends := endings(welds, calls, c)
	table := make([][]int, len(welds)+1)
	for i := range table {
		table[i] = make([]int, len(calls)+1)
		for k := range table[i] {
			if i > 0 || k > 0 {
				s := cheapest(table, ends(i, k))
				table[i][k] = table[s.welds][s.calls] + s.cost
			}
		}
	}
	return table
}

// cheapest returns the step with which an alignment costs least. There is at least one step.
func cheapest(table [][]int, steps iter.Seq[step]) step {
	price := func(s step) int { return table[s.welds][s.calls] + s.cost }
	best, found := step{}, false
	for s := range steps {
		if !found || price(s) < price(best) {
			best, found = s, true
		}
	}
	return best
}

// endings returns what goes through the steps with which an alignment of the first i welds with the first k calls can end: there is none if both are 0.
func endings(welds, calls []int, c Costs) func(i, k int) iter.Seq[step] {
	distance := distances(welds, calls)
	return func(i, k int) iter.Seq[step] {
		return func(yield func(step) bool) {
			if i > 0 && !yield(step{i - 1, k, c.Lost}) {
				return
			}
			if k > 0 && !yield(step{i, k - 1, c.False}) {
				return
			}
			if i > 0 && k > 0 && distance(i-1, k-1) <= c.Most {
				yield(step{i - 1, k - 1, distance(i-1, k-1)})
			}
		}
	}
}

// distances returns what tells how far a weld and a call are apart.
func distances(welds, calls []int) func(weld, call int) int {
	return func(weld, call int) int {
		return max(welds[weld]-calls[call], calls[call]-welds[weld])
	}
}

// Missing returns the welds and the calls that have no pair.
func Missing(welds, calls int, pairs [][2]int) (lost, false []int, e api.Errno) {
	if welds < 0 || welds > api.MaxWelds || calls < 0 || calls > api.MaxWelds {
		return nil, nil, api.ErrSize
	}
	for at := range pairs {
		if e := checkPair(welds, calls, pairs, at); e != api.OK {
			return nil, nil, e
		}
	}
	return alone(welds, pairs, 0), alone(calls, pairs, 1), api.OK
}

// alone returns the indices below n that no pair has on one of its sides.
func alone(n int, pairs [][2]int, side int) []int {
	var out []int
	for i := range n {
		if !slices.ContainsFunc(pairs, func(p [2]int) bool { return p[side] == i }) {
			out = append(out, i)
		}
	}
	return out
}

// Upstream returns the first and the last weld that can be the last one ahead of a place in a range.
func Upstream(welds []int, r api.Range) (first, last int, e api.Errno) {
	if e := checkPlaces(welds, 1); e != api.OK {
		return 0, 0, e
	}
	if e := checkRange(r, -api.MaxPlace, api.MaxPlace); e != api.OK {
		return 0, 0, e
	}
	ahead := func(place int) int {
		n, _ := slices.BinarySearch(welds, place+1)
		return n - 1
	}
	return ahead(r.Lo), ahead(r.Hi), api.OK
}

// checkProblem returns the error of an alignment's problem.
func checkProblem(welds, calls []int, c Costs) api.Errno {
	if e := checkPlaces(welds, 1); e != api.OK {
		return e
	}
	if e := checkPlaces(calls, 0); e != api.OK {
		return e
	}
	for _, x := range [...]int{c.Lost, c.False, c.Most} {
		if x < 0 || x > maxCost {
			return api.ErrArg
		}
	}
	return api.OK
}

// checkPlaces returns the error of a list of places that must rise by at least so much from each one to the next.
func checkPlaces(l []int, rise int) api.Errno {
	if len(l) > api.MaxWelds {
		return api.ErrSize
	}
	for i, x := range l {
		switch {
		case x < 0 || x > api.MaxPlace:
			return api.ErrArg
		case i > 0 && x-l[i-1] < rise:
			return api.ErrOrder
		}
	}
	return api.OK
}

// checkPair returns the error of a pair: an index that is not one of so many welds and calls, or one that does not rise.
func checkPair(welds, calls int, pairs [][2]int, at int) api.Errno {
	p := pairs[at]
	switch {
	case !isIndex(p[0], welds) || !isIndex(p[1], calls):
		return api.ErrArg
	case at > 0 && (p[0] <= pairs[at-1][0] || p[1] <= pairs[at-1][1]):
		return api.ErrOrder
	}
	return api.OK
}
