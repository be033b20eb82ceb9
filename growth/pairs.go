package growth

import (
	"iter"
	"slices"

	"wallgauge/api"
)

// walk goes through pairs of indices of two lists up to the first error, with the error of each pair: no index may occur twice. No list has more than MaxFindings elements.
func walk(pairs [][2]int, first, second int) iter.Seq2[[2]int, api.Errno] {
	return func(yield func(pair [2]int, e api.Errno) bool) {
		var taken [2][api.MaxFindings]bool
		for _, pair := range pairs {
			switch {
			case !isIndex(pair[0], first) || !isIndex(pair[1], second):
				yield(pair, api.ErrArg)
				return
			case taken[0][pair[0]] || taken[1][pair[1]]:
				yield(pair, api.ErrTwice)
				return
			}
			taken[0][pair[0]], taken[1][pair[1]] = true, true
			if !yield(pair, api.OK) {
				return
			}
		}
	}
}

// checkPairs returns the first error of pairs.
func checkPairs(pairs [][2]int, first, second int) api.Errno {
	for _, e := range walk(pairs, first, second) {
		if e != api.OK {
			return e
		}
	}
	return api.OK
}

// Alone returns the findings that no pair has.
func Alone(first, second int, pairs [][2]int) (gone, fresh []int, e api.Errno) {
	if !isWithin(first, 0, api.MaxFindings) || !isWithin(second, 0, api.MaxFindings) {
		return nil, nil, api.ErrSize
	}
	if e := checkPairs(pairs, first, second); e != api.OK {
		return nil, nil, e
	}
	return alone(first, pairs, 0), alone(second, pairs, 1), api.OK
}

// alone returns the indices below n that no pair has on one of its sides.
func alone(n int, pairs [][2]int, side int) []int {
	var out []int
	for i := range n {
		if !slices.ContainsFunc(pairs, func(pair [2]int) bool { return pair[side] == i }) {
			out = append(out, i)
		}
	}
	return out
}

// Chain returns the findings that were found in three runs.
func Chain(first, second [][2]int) ([][3]int, api.Errno) {
	if len(first) > api.MaxFindings || len(second) > api.MaxFindings {
		return nil, api.ErrSize
	}
	for _, pairs := range [2][][2]int{first, second} {
		if e := checkPairs(pairs, api.MaxFindings, api.MaxFindings); e != api.OK {
			return nil, e
		}
	}
	var triples [][3]int
	for _, pair := range first {
		for _, next := range second {
			if next[0] == pair[1] {
				triples = append(triples, [3]int{pair[0], pair[1], next[1]})
			}
		}
	}
	return triples, api.OK
}
