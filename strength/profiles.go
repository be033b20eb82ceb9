package strength

import (
	"cmp"
	"iter"
	"slices"

	"wallgauge/api"
)

// Profile returns the deepest line along findings.
func Profile(l []api.Finding) ([]Step, api.Errno) {
	if e := CheckFindings(l); e != api.OK {
		return nil, e
	}
	if len(l) == 0 {
		return nil, api.ErrNone
	}
	places := borders(l)
	last := len(places) - 1
	if places[last]-places[0] > maxLong {
		return nil, api.ErrArg
	}
	steps := make([]Step, last)
	for i := range steps {
		steps[i] = Step{places[i], places[i+1], deepest(l, places[i])}
	}
	return steps, api.OK
}

// borders returns the places where findings begin or end, ascending and each once.
func borders(l []api.Finding) []int {
	var places []int
	for _, f := range l {
		places = append(places, f.At, end(f))
	}
	slices.SortFunc(places, func(a, b int) int { return cmp.Compare(a, b) })
	return slices.Compact(places)
}

// deepest returns how deep the metal may be gone in the step that begins at a border. No finding begins or ends inside of a step, so those that reach behind its border lie over the whole of it.
func deepest(l []api.Finding, border int) int {
	depth := 0
	for _, f := range l {
		if f.At <= border && border < end(f) {
			depth = max(depth, f.Depth.Hi)
		}
	}
	return depth
}

// checkProfile returns the error of a profile.
func checkProfile(l []Step) api.Errno {
	if !isWithin(len(l), 1, api.MaxProfile) {
		return api.ErrSize
	}
	for i, s := range l {
		switch {
		case !isPlace(s.From) || !isPlace(s.To):
			return api.ErrArg
		case s.From >= s.To || i > 0 && s.From != l[i-1].To:
			return api.ErrOrder
		case !isWithin(s.Depth, 0, api.MaxDepth):
			return api.ErrArg
		}
	}
	if extent(l) > maxLong {
		return api.ErrArg
	}
	return api.OK
}

// isPlace tells whether a step may begin or end at x.
func isPlace(x int) bool { return isWithin(x, 0, 2*api.MaxPlace) }

// extent returns how long neighbouring steps are, of which there is one at least.
func extent(l []Step) int { return l[len(l)-1].To - l[0].From }

// parts goes through all parts of a list of n steps, by their first and last ones: ascending by the first one, and then by the last one.
func parts(n int) iter.Seq2[int, int] {
	return func(yield func(first, last int) bool) {
		for first := range n {
			for last := first; last < n; last++ {
				if !yield(first, last) {
					return
				}
			}
		}
	}
}
