package growth

import "wallgauge/api"

// Check returns the error of findings.
func Check(l []api.Finding) api.Errno {
	if len(l) > api.MaxFindings {
		return api.ErrSize
	}
	for _, f := range l {
		if e := checkFinding(f); e != api.OK {
			return e
		}
	}
	return api.OK
}

// checkFinding returns the error of a finding.
func checkFinding(f api.Finding) api.Errno {
	for _, place := range [3]int{f.At, f.Long, f.Wide} {
		if !isWithin(place, 0, api.MaxPlace) {
			return api.ErrArg
		}
	}
	switch {
	case !isMinute(f.Clock) || !isWithin(f.Depth.Lo, 0, api.MaxDepth) || !isWithin(f.Depth.Hi, 0, api.MaxDepth):
		return api.ErrArg
	case f.Depth.Lo > f.Depth.Hi:
		return api.ErrOrder
	}
	return api.OK
}

// checkBoth returns the first error of two findings.
func checkBoth(a, b api.Finding) api.Errno {
	if e := checkFinding(a); e != api.OK {
		return e
	}
	return checkFinding(b)
}

// checkRuns returns the first error of the findings of two runs.
func checkRuns(a, b []api.Finding) api.Errno {
	if e := Check(a); e != api.OK {
		return e
	}
	return Check(b)
}

// check returns the error of a rule.
func (r Rule) check() api.Errno {
	if !isWithin(r.Far, 0, maxFar) || !isWithin(r.Turn, 0, api.MaxClock/2) || !isWithin(r.Step, 0, maxStep) || !isWithin(r.Alone, 0, api.MaxMissing) {
		return api.ErrArg
	}
	return api.OK
}

// isMinute tells whether there is such a minute of the clock.
func isMinute(x int) bool { return isIndex(x, api.MaxClock) }

// Around returns how far two places are apart around the pipe.
func Around(a, b int) (int, api.Errno) {
	if !isMinute(a) || !isMinute(b) {
		return 0, api.ErrArg
	}
	return around(a, b), api.OK
}

// around returns how far two minutes of the clock are apart.
func around(a, b int) int {
	apart := distance(a, b)
	return min(apart, api.MaxClock-apart)
}

// Cost returns what a match of two findings costs.
func Cost(a, b api.Finding, r Rule) (int, api.Errno) {
	if e := r.check(); e != api.OK {
		return 0, e
	}
	if e := checkBoth(a, b); e != api.OK {
		return 0, e
	}
	along, turn := distance(a.At, b.At), around(a.Clock, b.Clock)
	if along > r.Far || turn > r.Turn {
		return 0, api.ErrNone
	}
	return along + r.Step*turn, api.OK
}
