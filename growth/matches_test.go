package growth_test

import (
	"math"
	"slices"
	"testing"

	"wallgauge/api"
	"wallgauge/growth"
)

// usual is the rule of the document's examples.
var usual = growth.Rule{Far: 100, Turn: 60, Step: 1, Alone: 50}

// earlier and later are the findings of the document's examples.
func earlier() []api.Finding { return []api.Finding{at(1000, 0), at(2000, 0)} }
func later() []api.Finding   { return []api.Finding{at(1010, 0), at(1990, 0)} }

// slow returns the least cost of a match, by trying all.
func slow(a, b []api.Finding, r growth.Rule) int {
	if len(a) == 0 {
		return len(b) * r.Alone
	}
	least := r.Alone + slow(a[1:], b, r)
	for k, y := range b {
		if cost, fits := ownCost(a[0], y, r); fits {
			others := slices.Concat(b[:k], b[k+1:])
			least = min(least, cost+slow(a[1:], others, r))
		}
	}
	return least
}

// isMatch tells whether pairs are a match, in the order of the first run, with this cost.
func isMatch(a, b []api.Finding, r growth.Rule, pairs [][2]int, want int) bool {
	total, ahead := (len(a)+len(b))*r.Alone, -1
	taken := map[int]bool{}
	for _, p := range pairs {
		if p[0] <= ahead || p[0] >= len(a) || p[1] < 0 || p[1] >= len(b) || taken[p[1]] {
			return false
		}
		cost, fits := ownCost(a[p[0]], b[p[1]], r)
		if !fits {
			return false
		}
		ahead, taken[p[1]] = p[0], true
		total += cost - 2*r.Alone
	}
	return total == want
}

// isProved tells whether the prices of a match prove that nothing is cheaper.
func isProved(a, b []api.Finding, r growth.Rule, m growth.Match) bool {
	if len(m.First) != len(a) || len(m.Second) != len(b) {
		return false
	}
	total := 0
	for i, x := range m.First {
		if x > r.Alone {
			return false
		}
		total += x
		for k, y := range m.Second {
			if cost, fits := ownCost(a[i], b[k], r); fits && x+y > cost {
				return false
			}
		}
	}
	for _, y := range m.Second {
		if y > r.Alone {
			return false
		}
		total += y
	}
	return total == m.Cost
}

// matched returns a match of which all promises are checked.
func matched(t *testing.T, a, b []api.Finding, r growth.Rule) growth.Match {
	t.Helper()
	m := must[growth.Match](t)(growth.Matched(a, b, r))
	if !isMatch(a, b, r, m.Pairs, m.Cost) {
		t.Fatalf("Matched of %v and %v with %+v is no match: %+v", a, b, r, m)
	}
	if !isProved(a, b, r, m) {
		t.Fatalf("Matched of %v and %v with %+v is not proved: %+v", a, b, r, m)
	}
	if !must[bool](t)(growth.Proves(a, b, r, m)) {
		t.Fatalf("Matched of %v and %v with %+v: %+v, which Proves refuses", a, b, r, m)
	}
	return m
}

func TestP8_1MatchedOfExamples(t *testing.T) {
	m := matched(t, earlier(), later(), usual)
	if !slices.Equal(m.Pairs, [][2]int{{0, 0}, {1, 1}}) || m.Cost != 20 {
		t.Errorf("%+v", m)
	}
	strict := usual
	strict.Far = 5
	if m := matched(t, earlier(), later(), strict); len(m.Pairs) != 0 || m.Cost != 200 {
		t.Errorf("with Far 5 %+v", m)
	}
	turned := later()
	turned[1].Clock = 30
	if m := matched(t, earlier(), turned, usual); len(m.Pairs) != 2 || m.Cost != 50 {
		t.Errorf("turned by 30 %+v", m)
	}
	// The cheapest pair of all keeps the cheapest match from being: 0 and 3 would stay alone.
	a, b := []api.Finding{at(100, 0), at(160, 0)}, []api.Finding{at(150, 0), at(230, 0)}
	m = matched(t, a, b, growth.Rule{Far: 70, Turn: 1, Alone: 70})
	if !slices.Equal(m.Pairs, [][2]int{{0, 0}, {1, 1}}) || m.Cost != 120 {
		t.Errorf("%+v", m)
	}
	// Two findings alone are cheaper than their pair.
	if m := matched(t, a[:1], b[:1], growth.Rule{Far: 70, Turn: 1, Alone: 24}); len(m.Pairs) != 0 || m.Cost != 48 {
		t.Errorf("%+v", m)
	}
	if m := matched(t, a[:1], b[:1], growth.Rule{Far: 70, Turn: 1, Alone: 26}); len(m.Pairs) != 1 || m.Cost != 50 {
		t.Errorf("%+v", m)
	}
}

func TestP8_1MatchedOfNothing(t *testing.T) {
	for _, c := range []struct{ a, b []api.Finding }{{nil, nil}, {earlier(), nil}, {nil, later()}, {[]api.Finding{}, later()}} {
		m := matched(t, c.a, c.b, usual)
		if len(m.Pairs) != 0 || m.Cost != 50*(len(c.a)+len(c.b)) {
			t.Errorf("%+v", m)
		}
		for _, price := range slices.Concat(m.First, m.Second) {
			if price != 50 {
				t.Errorf("a finding alone has the price %d", price)
			}
		}
	}
	if m := matched(t, make([]api.Finding, 24), make([]api.Finding, 24), growth.Rule{}); m.Cost != 0 {
		t.Errorf("%+v", m)
	}
}

func TestP8_2CheapestOfAll(t *testing.T) {
	d := newDice(11)
	for range 4000 {
		far := 1 << d.from(0, 20)
		a, b := d.runs(d.from(0, 5), d.from(0, 5), far)
		r := d.rule(far)
		if m := matched(t, a, b, r); m.Cost != slow(a, b, r) {
			t.Fatalf("Matched of %v and %v with %+v costs %d, not %d", a, b, r, m.Cost, slow(a, b, r))
		}
	}
}

// many are rules and findings of two long runs: near ones and far ones, all at one place, and all at the limits.
func many(d dice) (a, b []api.Finding, r growth.Rule) {
	far := 1 << d.from(0, 20)
	a, b = d.runs(d.from(0, 24), d.from(0, 24), far)
	if d.IntN(3) == 0 {
		a, b = d.runs(24, 24, far)
	}
	r = d.rule(far)
	if d.IntN(3) == 0 {
		r.Far, r.Turn, r.Alone = far, 360, 1<<20 // so that each finding may have each partner
	}
	return a, b, r
}

func TestP8_2CheapestOfLongRuns(t *testing.T) {
	d := newDice(12)
	for range 1500 {
		a, b, r := many(d)
		m, back := matched(t, a, b, r), matched(t, b, a, r)
		if m.Cost != back.Cost {
			t.Fatalf("%v and %v with %+v cost %d, exchanged %d", a, b, r, m.Cost, back.Cost)
		}
	}
	// All prices and costs at their limits.
	a, b := make([]api.Finding, 24), slices.Repeat([]api.Finding{at(1<<20, 360)}, 24)
	m := matched(t, a, b, growth.Rule{Far: 1 << 20, Turn: 360, Step: 1 << 10, Alone: 1 << 20})
	if len(m.Pairs) != 24 || m.Cost != 24*(1<<20+360<<10) {
		t.Errorf("%+v", m)
	}
}

// moved returns findings that are moved along the pipe and around it.
func moved(l []api.Finding, along, around int) []api.Finding {
	out := slices.Clone(l)
	for i := range out {
		out[i].At += along
		out[i].Clock = (out[i].Clock + around) % 720
	}
	return out
}

func TestP8_2MovedRuns(t *testing.T) {
	d := newDice(13)
	for range 300 {
		a, b, r := many(d)
		least, greatest := 1<<30, 0
		for _, f := range slices.Concat(a, b) {
			least, greatest = min(least, f.At), max(greatest, f.At)
		}
		if least > greatest {
			continue
		}
		want := matched(t, a, b, r).Cost
		for _, along := range []int{0, -least, 1<<30 - greatest, d.from(-least, 1<<30-greatest)} {
			around := d.IntN(720)
			if got := matched(t, moved(a, along, around), moved(b, along, around), r).Cost; got != want {
				t.Fatalf("%v and %v with %+v cost %d, moved by %d and %d %d", a, b, r, want, along, around, got)
			}
		}
	}
}

func TestP8_2OneFindingMore(t *testing.T) {
	d := newDice(14)
	for range 500 {
		a, b, r := many(d)
		if len(a) == 0 {
			continue
		}
		n := d.IntN(len(a))
		fewer := slices.Concat(a[:n], a[n+1:])
		more, less := matched(t, a, b, r).Cost, matched(t, fewer, b, r).Cost
		if more > less+r.Alone {
			t.Fatalf("%v and %v with %+v cost %d, without the finding %d only %d", a, b, r, more, n, less)
		}
		if more, less = matched(t, b, a, r).Cost, matched(t, b, fewer, r).Cost; more > less+r.Alone {
			t.Fatalf("%v and %v with %+v cost %d, without the later finding %d only %d", b, a, r, more, n, less)
		}
	}
}

func TestP8_1CheckMatch(t *testing.T) {
	for _, c := range []struct {
		pairs [][2]int
		want  int
	}{{[][2]int{{0, 0}, {1, 1}}, 20}, {[][2]int{{1, 1}, {0, 0}}, 20}, {[][2]int{{0, 0}}, 110}, {[][2]int{{1, 1}}, 110}, {nil, 200}, {[][2]int{}, 200}} {
		if got := must[int](t)(growth.CheckMatch(earlier(), later(), usual, c.pairs)); got != c.want {
			t.Errorf("CheckMatch of %v is %d, want %d", c.pairs, got, c.want)
		}
	}
	d := newDice(15)
	for range 1000 {
		a, b, r := many(d)
		var fitting [][2]int
		total := (len(a) + len(b)) * r.Alone
		for _, p := range d.pairs(len(a), len(b)) {
			if cost, fits := ownCost(a[p[0]], b[p[1]], r); fits {
				fitting = append(fitting, p)
				total += cost - 2*r.Alone
			}
		}
		if got := must[int](t)(growth.CheckMatch(a, b, r, fitting)); got != total {
			t.Fatalf("CheckMatch of %v is %d, want %d", fitting, got, total)
		}
		if least := matched(t, a, b, r).Cost; least > total {
			t.Fatalf("Matched of %v and %v with %+v costs %d, %v only %d", a, b, r, least, fitting, total)
		}
	}
}

// ofPairs returns the errors of CheckMatch and Proves, and fails the test if there is no zero value with an error.
func ofPairs(t *testing.T, a, b []api.Finding, r growth.Rule, m growth.Match) [2]api.Errno {
	t.Helper()
	cost, first := growth.CheckMatch(a, b, r, m.Pairs)
	proved, second := growth.Proves(a, b, r, m)
	if first != api.OK && cost != 0 || second != api.OK && proved {
		t.Errorf("of %v, %v, %+v and %+v: %d %v, %v %v", a, b, r, m, cost, first, proved, second)
	}
	return [2]api.Errno{first, second}
}

func TestP8_1ErrorsOfPairs(t *testing.T) {
	near := []api.Finding{at(0, 0), at(10, 0), at(20, 0), at(500, 0)}
	for _, c := range []struct {
		pairs [][2]int
		want  api.Errno
	}{
		{[][2]int{{3, 3}, {2, 1}, {0, 2}}, api.OK},
		{[][2]int{{4, 0}}, api.ErrArg},
		{[][2]int{{0, 4}}, api.ErrArg},
		{[][2]int{{-1, 0}}, api.ErrArg},
		{[][2]int{{0, -1}}, api.ErrArg},
		{[][2]int{{math.MinInt, math.MaxInt}}, api.ErrArg},
		{[][2]int{{0, 0}, {0, 1}}, api.ErrTwice},
		{[][2]int{{0, 0}, {1, 0}}, api.ErrTwice},
		{[][2]int{{1, 2}, {2, 1}, {3, 2}}, api.ErrTwice},
		{[][2]int{{1, 2}, {2, 1}, {1, 3}}, api.ErrTwice}, // which do not belong together either
		{[][2]int{{0, 3}}, api.ErrNone},
		{[][2]int{{3, 0}}, api.ErrNone},
		{[][2]int{{0, 3}, {0, 4}}, api.ErrNone},          // pair by pair
		{[][2]int{{0, 0}, {0, 0}, {4, 4}}, api.ErrTwice}, // pair by pair
		{[][2]int{{0, 0}, {0, 4}}, api.ErrArg},           // of which the first is in a pair
		{[][2]int{{0, 0}, {4, 0}}, api.ErrArg},
	} {
		m := growth.Match{Pairs: c.pairs, First: make([]int, 4), Second: make([]int, 4)}
		if got := ofPairs(t, near, near, usual, m); got != [2]api.Errno{c.want, c.want} {
			t.Errorf("%v: %v, want %v", c.pairs, got, c.want)
		}
		// A wrong number of prices, or a price beyond the limits, comes last.
		m.First, m.Second = nil, []int{math.MaxInt}
		if got := ofPairs(t, near, near, usual, m); c.want != api.OK && got != [2]api.Errno{c.want, c.want} {
			t.Errorf("%v: %v, want %v", c.pairs, got, c.want)
		}
	}
}

func TestP8_1ErrorsOfRuns(t *testing.T) {
	bad := [][2]int{{9, 9}}
	check := func(a, b []api.Finding, r growth.Rule, want api.Errno) {
		t.Helper()
		m, e := growth.Matched(a, b, r)
		if e != want || len(m.Pairs) > 0 || m.Cost != 0 || len(m.First) > 0 || len(m.Second) > 0 {
			t.Errorf("Matched of %v and %v with %+v: %+v %v, want %v", a, b, r, m, e, want)
		}
		if got := ofPairs(t, a, b, r, growth.Match{Pairs: bad}); got != [2]api.Errno{want, want} {
			t.Errorf("CheckMatch and Proves of %v and %v with %+v: %v, want %v", a, b, r, got, want)
		}
	}
	for _, r := range badRules() {
		check(nil, nil, r, api.ErrArg)
		check(make([]api.Finding, 25), make([]api.Finding, 25), r, api.ErrArg)
		check([]api.Finding{deep(2, 1)}, nil, r, api.ErrArg)
	}
	check(make([]api.Finding, 25), []api.Finding{{At: -1}}, growth.Rule{}, api.ErrSize)
	check([]api.Finding{{At: -1}}, make([]api.Finding, 25), growth.Rule{}, api.ErrArg)
	check([]api.Finding{{}}, make([]api.Finding, 25), growth.Rule{}, api.ErrSize)
	for f, want := range invalid() {
		check([]api.Finding{{}, f}, []api.Finding{deep(2, 1)}, usual, want)
		check([]api.Finding{f}, []api.Finding{{At: -1}}, usual, want)
		check([]api.Finding{{}}, []api.Finding{{}, f}, usual, want)
		check(nil, []api.Finding{f}, usual, want)
	}
	for _, f := range limits() {
		matched(t, []api.Finding{f}, limits(), growth.Rule{Far: 1 << 20, Turn: 360, Step: 1 << 10, Alone: 1 << 20})
	}
}

func TestP8_1Proves(t *testing.T) {
	pairs := [][2]int{{1, 1}, {0, 0}}
	for _, c := range []struct {
		what string
		m    growth.Match
		want bool
	}{
		{"the prices of the example", growth.Match{pairs, 20, []int{10, 10}, []int{0, 0}}, true},
		{"the other run's prices", growth.Match{pairs, 20, []int{0, 0}, []int{10, 10}}, true},
		{"prices below 0", growth.Match{pairs, 20, []int{-40, 50}, []int{50, -40}}, true},
		{"another cost", growth.Match{pairs, 21, []int{10, 10}, []int{0, 0}}, false},
		{"another cost that the prices are", growth.Match{pairs, 19, []int{10, 9}, []int{0, 0}}, false},
		{"prices below the cost", growth.Match{pairs, 20, []int{10, 9}, []int{0, 0}}, false},
		{"a pair's prices above its cost", growth.Match{pairs, 20, []int{11, 9}, []int{0, 0}}, false},
		{"the later run's price above a pair's cost", growth.Match{pairs, 20, []int{10, 9}, []int{1, 0}}, false},
		{"prices above the cost of two that do not belong together", growth.Match{pairs, 20, []int{10, 9}, []int{0, 1}}, true},
		{"a dearer match", growth.Match{pairs[:1], 110, []int{10, 10}, []int{0, 0}}, false},
		{"a dearer match and its prices", growth.Match{pairs[:1], 110, []int{50, 10}, []int{50, 0}}, false},
		{"a price above one alone", growth.Match{pairs, 20, []int{51, 10}, []int{-41, 0}}, false},
		{"a later price above one alone", growth.Match{pairs, 20, []int{-41, 10}, []int{51, 0}}, false},
		{"prices at the limits", growth.Match{pairs, 20, []int{-1 << 40, -1 << 40}, []int{1 << 40, 1 << 40}}, false},
	} {
		if got := must[bool](t)(growth.Proves(earlier(), later(), usual, c.m)); got != c.want {
			t.Errorf("%s: %v", c.what, got)
		}
	}
	for _, c := range []struct {
		first, second []int
		want          api.Errno
	}{
		{[]int{10}, []int{0, 0}, api.ErrSize}, {[]int{10, 10}, []int{0}, api.ErrSize}, {[]int{10, 10, 0}, []int{0, 0}, api.ErrSize},
		{[]int{10, 10}, []int{0, 0, 0}, api.ErrSize}, {nil, nil, api.ErrSize}, {[]int{math.MaxInt}, []int{0, 0}, api.ErrSize},
		{[]int{math.MaxInt, 0}, []int{0, 0, 0}, api.ErrSize},
		{[]int{1<<40 + 1, 0}, []int{0, 0}, api.ErrArg}, {[]int{0, -1<<40 - 1}, []int{0, 0}, api.ErrArg},
		{[]int{0, 0}, []int{1<<40 + 1, 0}, api.ErrArg}, {[]int{0, 0}, []int{0, -1<<40 - 1}, api.ErrArg},
		{[]int{math.MinInt, math.MaxInt}, []int{math.MinInt, math.MaxInt}, api.ErrArg},
	} {
		if got := ofPairs(t, earlier(), later(), usual, growth.Match{pairs, 20, c.first, c.second}); got != [2]api.Errno{api.OK, c.want} {
			t.Errorf("the prices %v and %v: %v, want %v", c.first, c.second, got, c.want)
		}
	}
}

// Whatever is changed in a match that is proved: Proves says what the properties say.
func TestP8_1ProvesOfChanges(t *testing.T) {
	d := newDice(16)
	for range 3000 {
		a, b, r := many(d)
		m := matched(t, a, b, r)
		for range d.from(1, 3) {
			switch {
			case d.IntN(3) == 0 && len(a) > 0:
				m.First[d.IntN(len(a))] += d.from(-1, 1)
			case d.IntN(3) == 0 && len(b) > 0:
				m.Second[d.IntN(len(b))] += d.from(-1, 1)
			case d.IntN(3) == 0 && len(m.Pairs) > 0:
				m.Pairs = m.Pairs[1:]
			default:
				m.Cost += d.from(-1, 1)
			}
		}
		want := isMatch(a, b, r, m.Pairs, m.Cost) && isProved(a, b, r, m)
		if got := must[bool](t)(growth.Proves(a, b, r, m)); got != want {
			t.Fatalf("Proves of %v and %v with %+v and %+v is %v", a, b, r, m, got)
		}
	}
}
