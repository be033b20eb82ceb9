package growth

import (
	"iter"
	"slices"

	"wallgauge/api"
)

// Matched returns a cheapest match of the findings of two runs.
func Matched(a, b []api.Finding, r Rule) (Match, api.Errno) {
	if e := checkProblem(a, b, r); e != api.OK {
		return Match{}, e
	}
	c := cheapest(costs(a, b, r), r.Alone)
	m := Match{
		Cost:   r.Alone * (len(a) + len(b)),
		First:  slices.Clone(c.first.prices[:len(a)]),
		Second: slices.Clone(c.second.prices[:len(b)]),
	}
	for pair, cost := range together(a, b, r) {
		// Partners who are not cheaper than both alone may as well be alone.
		if c.first.partners[pair[0]] == pair[1] && cost < 2*r.Alone {
			m.Pairs = append(m.Pairs, pair)
			m.Cost += cost - 2*r.Alone
		}
	}
	return m, api.OK
}

// checkProblem returns the error of a rule, or that of the findings of two runs.
func checkProblem(a, b []api.Finding, r Rule) api.Errno {
	if e := r.check(); e != api.OK {
		return e
	}
	return checkRuns(a, b)
}

// together goes through the indices of all findings of two runs that belong together, with what each pair costs. There is no error of the rule or the findings.
func together(a, b []api.Finding, r Rule) iter.Seq2[[2]int, int] {
	return func(yield func(pair [2]int, cost int) bool) {
		for i, x := range a {
			for k, y := range b {
				if cost, e := Cost(x, y, r); e == api.OK && !yield([2]int{i, k}, cost) {
					return
				}
			}
		}
	}
}

// costs returns what the findings of two runs cost.
func costs(a, b []api.Finding, r Rule) table {
	var t table
	for i := range t {
		for k := range t[i] {
			t[i][k] = 2 * r.Alone
		}
	}
	for pair, cost := range together(a, b, r) {
		i, k := pair[0], pair[1]
		t[i][k] = min(t[i][k], cost)
	}
	return t
}

// CheckMatch returns what pairs cost, if they are a match.
func CheckMatch(a, b []api.Finding, r Rule, pairs [][2]int) (int, api.Errno) {
	if e := checkProblem(a, b, r); e != api.OK {
		return 0, e
	}
	total := r.Alone * (len(a) + len(b))
	for pair, e := range walk(pairs, len(a), len(b)) {
		if e != api.OK {
			return 0, e
		}
		cost, e := Cost(a[pair[0]], b[pair[1]], r)
		if e != api.OK {
			return 0, e
		}
		total += cost - 2*r.Alone
	}
	return total, api.OK
}

// Proves reports whether prices prove that nothing is cheaper than a match.
func Proves(a, b []api.Finding, r Rule, m Match) (bool, api.Errno) {
	total, e := CheckMatch(a, b, r, m.Pairs)
	if e != api.OK {
		return false, e
	}
	if len(m.First) != len(a) || len(m.Second) != len(b) {
		return false, api.ErrSize
	}
	sum := 0
	for _, price := range slices.Concat(m.First, m.Second) {
		if price < -maxPrice || price > maxPrice {
			return false, api.ErrArg
		}
		sum += price
	}
	return sum == total && m.Cost == total && m.isFair(a, b, r), api.OK
}

// isFair tells whether no price is above that of a finding alone, and those of two findings that belong together are at most what their pair costs.
func (m Match) isFair(a, b []api.Finding, r Rule) bool {
	dear := func(price int) bool { return price > r.Alone }
	if slices.ContainsFunc(m.First, dear) || slices.ContainsFunc(m.Second, dear) {
		return false
	}
	for pair, cost := range together(a, b, r) {
		if m.First[pair[0]]+m.Second[pair[1]] > cost {
			return false
		}
	}
	return true
}
