package strength

import "wallgauge/api"

// CheckFindings returns the error of findings.
func CheckFindings(l []api.Finding) api.Errno {
	if len(l) > api.MaxFindings {
		return api.ErrSize
	}
	for _, f := range l {
		if e := checkFinding(f); e != api.OK {
			return e
		}
	}
	return api.OK
}

// checkFinding returns the error of a finding.
func checkFinding(f api.Finding) api.Errno {
	switch {
	case !isWithin(f.At, 0, api.MaxPlace), !isWithin(f.Long, 1, maxLong), !isIndex(f.Clock, api.MaxClock), f.Wide < 0:
		return api.ErrArg
	case !isWithin(f.Depth.Lo, 0, api.MaxDepth), !isWithin(f.Depth.Hi, 0, api.MaxDepth):
		return api.ErrArg
	case f.Depth.Lo > f.Depth.Hi:
		return api.ErrOrder
	}
	return api.OK
}

// end returns where a finding ends.
func end(f api.Finding) int { return f.At + f.Long }

// check returns the error of a rule.
func (r Rule) check() api.Errno {
	if !isWithin(r.Along, 0, maxLong) || !isWithin(r.Around, 0, api.MaxClock) {
		return api.ErrArg
	}
	return api.OK
}

// checkJoined returns the first error of findings and of a rule that joins them.
func checkJoined(l []api.Finding, r Rule) api.Errno {
	if e := CheckFindings(l); e != api.OK {
		return e
	}
	return r.check()
}

// Interact reports whether two findings interact.
func Interact(a, b api.Finding, r Rule) (bool, api.Errno) {
	if e := checkJoined([]api.Finding{a, b}, r); e != api.OK {
		return false, e
	}
	return r.joins(a, b), api.OK
}

// joins tells whether two findings interact.
func (r Rule) joins(a, b api.Finding) bool {
	along := max(a.At-end(b), b.At-end(a), 0)
	turn := max(a.Clock-b.Clock, b.Clock-a.Clock)
	return along <= r.Along && min(turn, api.MaxClock-turn) <= r.Around
}

// roots has, for each finding, the first one of its cluster.
type roots [api.MaxFindings]int

// separate returns the roots of findings of which each one is a cluster of its own.
func separate() roots {
	var r roots
	for i := range r {
		r[i] = i
	}
	return r
}

// joined returns the roots when the clusters of two findings are one.
func (r roots) joined(a, b int) roots {
	first, other := min(r[a], r[b]), max(r[a], r[b])
	for i, root := range r {
		if root == other {
			r[i] = first
		}
	}
	return r
}

// clusters returns the clusters of the first n findings.
func (r roots) clusters(n int) [][]int {
	of := make([][]int, n)
	for i, root := range r[:n] {
		of[root] = append(of[root], i)
	}
	var out [][]int
	for _, cluster := range of {
		if len(cluster) > 0 {
			out = append(out, cluster)
		}
	}
	return out
}

// Clusters returns the findings that interact with each other, directly or by others.
func Clusters(l []api.Finding, r Rule) ([][]int, api.Errno) {
	if e := checkJoined(l, r); e != api.OK {
		return nil, e
	}
	found := separate()
	for i, a := range l {
		for j, b := range l[:i] {
			if r.joins(a, b) {
				found = found.joined(i, j)
			}
		}
	}
	return found.clusters(len(l)), api.OK
}
