package service

import "wallgauge/api"

// Reconcile returns which findings of two lists are each other's nearest ones.
func Reconcile(a, b []api.Finding, near int) ([][2]int, api.Errno) {
	if e := checkLists(a, b); e != api.OK {
		return nil, e
	}
	if near < 0 {
		return nil, api.ErrArg
	}
	var pairs [][2]int
	for i, f := range a {
		k := nearest(f, b)
		if k >= 0 && nearest(b[k], a) == i && distance(f, b[k]) <= near {
			pairs = append(pairs, [2]int{i, k})
		}
	}
	return pairs, api.OK
}

// checkLists returns the first error of two lists of findings.
func checkLists(lists ...[]api.Finding) api.Errno {
	for _, l := range lists {
		if len(l) > api.MaxFindings {
			return api.ErrSize
		}
	}
	for _, l := range lists {
		for _, f := range l {
			if !isWithin(f.At, 0, api.MaxPlace) || !isWithin(f.Clock, 0, api.MaxClock-1) {
				return api.ErrArg
			}
		}
	}
	return api.OK
}

// distance returns the distance of two findings, along and around the pipe.
func distance(f, g api.Finding) int {
	turn := max(f.Clock-g.Clock, g.Clock-f.Clock)
	return max(f.At-g.At, g.At-f.At) + min(turn, api.MaxClock-turn)
}

// nearest returns the first of the findings of a list that are nearest to f, or -1 if it has none.
func nearest(f api.Finding, l []api.Finding) int {
	best := -1
	for i, g := range l {
		if best < 0 || distance(f, g) < distance(f, l[best]) {
			best = i
		}
	}
	return best
}
