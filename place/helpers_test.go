package place_test

import (
	"math"
	"math/rand/v2"
	"testing"

	"wallgauge/api"
	"wallgauge/place"
)

// must returns x, and fails the test if there is an error.
func must[T any](t *testing.T) func(x T, e api.Errno) T {
	return func(x T, e api.Errno) T {
		t.Helper()
		if e != api.OK {
			t.Fatalf("error %v", e)
		}
		return x
	}
}

// dice makes numbers that look random, but are always the same.
type dice struct{ *rand.Rand }

func newDice(seed uint64) dice { return dice{rand.New(rand.NewPCG(seed, 4))} }

// from returns a number from lo to hi.
func (d dice) from(lo, hi int) int { return lo + d.IntN(hi-lo+1) }

// around returns a range that has x, and reaches at most so far to each side.
func (d dice) around(x, far int) api.Range {
	return api.Range{Lo: x - d.IntN(far+1), Hi: x + d.IntN(far+1)}
}

// bounds returns n bounds of some events, with Mosts from lo to hi.
func (d dice) bounds(events, n, lo, hi int) []place.Bound {
	var l []place.Bound
	for range n {
		l = append(l, place.Bound{From: d.IntN(events), To: d.IntN(events), Most: d.from(lo, hi)})
	}
	return l
}

// kept returns n bounds that places keep, with at most so much to spare.
func (d dice) kept(places []int, n, spare int) []place.Bound {
	var l []place.Bound
	for range n {
		b := place.Bound{From: d.IntN(len(places)), To: d.IntN(len(places))}
		b.Most = places[b.To] - places[b.From] + d.IntN(spare+1)
		l = append(l, b)
	}
	return l
}

// places returns n places, from 0 to most: the first one is 0.
func (d dice) places(n, most int) []int {
	l := make([]int, n)
	for i := 1; i < n; i++ {
		l[i] = d.IntN(most + 1)
	}
	return l
}

// rising returns n places, each one at most so far behind the one ahead, and at least least.
func (d dice) rising(n, least, most int) []int {
	l := make([]int, n)
	for i := range l {
		l[i] = d.from(least, most)
		if i > 0 {
			l[i] += l[i-1]
		}
	}
	return l
}

// far is more than the sum of all Mosts.
const far = 1 << 50

// shortest returns, for all pairs of events, the least sum of the Mosts of a chain from the first to the second one, or far if there is no chain. It looks for detours over each event in turn.
func shortest(events int, l []place.Bound) [][]int {
	d := make([][]int, events)
	for i := range d {
		d[i] = make([]int, events)
		for k := range d[i] {
			if i != k {
				d[i][k] = far
			}
		}
	}
	for _, b := range l {
		d[b.From][b.To] = min(d[b.From][b.To], b.Most)
	}
	for over := range d {
		for i := range d {
			for k := range d {
				if d[i][over] < far && d[over][k] < far {
					// A round that allows less than 0 would double what it allows each time.
					d[i][k] = max(min(d[i][k], d[i][over]+d[over][k]), -far)
				}
			}
		}
	}
	return d
}

// clash tells whether a chain from an event to itself allows less than 0.
func clash(d [][]int) bool {
	for i := range d {
		if d[i][i] < 0 {
			return true
		}
	}
	return false
}

// keeps tells whether places keep bounds, except those of events that do not count.
func keeps(l []place.Bound, places []int, counts []bool) bool {
	for _, b := range l {
		if counts[b.From] && counts[b.To] && places[b.To]-places[b.From] > b.Most {
			return false
		}
	}
	return true
}

// example returns the bounds of the document's example.
func example() []place.Bound {
	return []place.Bound{{From: 0, To: 1, Most: 10}, {From: 1, To: 0, Most: -8}, {From: 1, To: 2, Most: 5}, {From: 2, To: 1}}
}

// badBounds returns bounds of some events with their errors.
func badBounds() map[api.Errno][]problem {
	many := make([]place.Bound, api.MaxConstraints+1)
	bad := []place.Bound{{From: -1}}
	return map[api.Errno][]problem{
		api.ErrSize: {{0, nil}, {-1, nil}, {math.MinInt, bad}, {api.MaxEvents + 1, nil}, {math.MaxInt, bad}, {1, many}, {0, many}},
		api.ErrArg: {
			{1, bad}, {2, []place.Bound{{From: 2}}}, {2, []place.Bound{{To: -1}}}, {2, []place.Bound{{To: 2}}}, {64, []place.Bound{{To: 64}}}, {2, []place.Bound{{From: math.MaxInt, To: math.MinInt}}},
			{2, []place.Bound{{To: 1, Most: 1<<30 + 1}}}, {2, []place.Bound{{To: 1, Most: -1<<30 - 1}}}, {2, []place.Bound{{To: 1, Most: -1}, {From: 1}, {Most: math.MinInt}}},
		},
	}
}

// problem is a number of events, and bounds.
type problem struct {
	events int
	l      []place.Bound
}
