package place_test

import (
	"math"
	"slices"
	"testing"

	"wallgauge/api"
	"wallgauge/place"
)

func TestP4_1Check(t *testing.T) {
	for want, problems := range badBounds() {
		for _, p := range problems {
			if e := place.Check(p.events, p.l); e != want {
				t.Errorf("Check of %+v: %v, want %v", p, e, want)
			}
		}
	}
	top := place.Bound{From: 63, To: 0, Most: 1 << 30}
	full := slices.Repeat([]place.Bound{top, {From: 0, To: 63, Most: -1 << 30}}, 128)
	for _, p := range []problem{{1, nil}, {1, []place.Bound{{}}}, {64, full}, {3, example()}} {
		if e := place.Check(p.events, p.l); e != api.OK {
			t.Errorf("Check of %d events: %v", p.events, e)
		}
	}
}

// All functions return the error of the bounds first.
func TestP4_1BoundsFirst(t *testing.T) {
	for want, problems := range badBounds() {
		for _, p := range problems {
			limits, e := place.Limits(p.events, p.l)
			if e != want || len(limits) > 0 {
				t.Errorf("Limits of %+v: %v %v", p, limits, e)
			}
			for _, event := range []int{-1, 0, 99} {
				if chain, e := place.Chain(p.events, p.l, event, true); e != want || len(chain) > 0 {
					t.Errorf("Chain of %+v: %v %v", p, chain, e)
				}
			}
			for _, list := range [][]int{nil, {0}, {-1}, make([]int, 99)} {
				if from, to, most, e := place.CheckChain(p.events, p.l, list); e != want || from != 0 || to != 0 || most != 0 {
					t.Errorf("CheckChain of %+v: %v %v %v %v", p, from, to, most, e)
				}
				if i, e := place.Fits(p.events, p.l, list); e != want || i != 0 {
					t.Errorf("Fits of %+v: %v %v", p, i, e)
				}
			}
			if chain, e := place.Clash(p.events, p.l); e != want || len(chain) > 0 {
				t.Errorf("Clash of %+v: %v %v", p, chain, e)
			}
		}
	}
}

func TestP4_1Limits(t *testing.T) {
	both := func(lo, hi int) place.Interval { return place.Interval{Lo: lo, Hi: hi, Low: true, High: true} }
	for _, c := range []struct {
		events int
		l      []place.Bound
		want   []place.Interval
		e      api.Errno
	}{
		{3, example(), []place.Interval{both(0, 0), both(8, 10), both(8, 15)}, api.OK},
		{3, append(example(), place.Bound{From: 2, To: 0, Most: -15}), []place.Interval{both(0, 0), both(10, 10), both(15, 15)}, api.OK},
		{3, append(example(), place.Bound{From: 2, To: 0, Most: -16}), nil, api.ErrClash},
		{1, nil, []place.Interval{both(0, 0)}, api.OK},
		{1, []place.Bound{{}}, []place.Interval{both(0, 0)}, api.OK},
		{1, []place.Bound{{Most: -1}}, nil, api.ErrClash},
		{2, nil, []place.Interval{both(0, 0), {}}, api.OK},
		{2, []place.Bound{{To: 1, Most: -3}}, []place.Interval{both(0, 0), {Hi: -3, High: true}}, api.OK},
		{2, []place.Bound{{From: 1, Most: -3}}, []place.Interval{both(0, 0), {Lo: 3, Low: true}}, api.OK},
		// What other events have among themselves does not limit them, but may clash.
		{3, []place.Bound{{From: 1, To: 2, Most: 4}, {From: 2, To: 1, Most: -4}}, []place.Interval{both(0, 0), {}, {}}, api.OK},
		{3, []place.Bound{{From: 1, To: 2, Most: 4}, {From: 2, To: 1, Most: -5}}, nil, api.ErrClash},
		// A round that allows just 0 is none that clashes.
		{2, []place.Bound{{To: 1, Most: 7}, {From: 1, Most: -7}}, []place.Interval{both(0, 0), both(7, 7)}, api.OK},
		{2, []place.Bound{{To: 1, Most: 7}, {From: 1, Most: -8}}, nil, api.ErrClash},
	} {
		got, e := place.Limits(c.events, c.l)
		if e != c.e || !slices.Equal(got, c.want) {
			t.Errorf("Limits of %d, %+v: %+v %v, want %+v %v", c.events, c.l, got, e, c.want, c.e)
		}
	}
}

// The longest chain that there can be, with the greatest Mosts; the bounds come in the order in which one round of relaxing shortens only one path.
func TestP4_1LongChain(t *testing.T) {
	for _, most := range []int{1 << 30, -1 << 30, 1} {
		var l []place.Bound
		for i := 62; i >= 0; i-- {
			l = append(l, place.Bound{From: i, To: i + 1, Most: most})
		}
		limits := must[[]place.Interval](t)(place.Limits(64, l))
		if want := (place.Interval{Hi: 63 * most, High: true}); limits[63] != want {
			t.Errorf("the last limit is %+v, want %+v", limits[63], want)
		}
		chain := must[[]int](t)(place.Chain(64, l, 63, true))
		if from, to, sum, e := place.CheckChain(64, l, chain); from != 0 || to != 63 || sum != 63*most || e != api.OK || len(chain) != 63 {
			t.Errorf("the chain is %v: %d %d %d %v", chain, from, to, sum, e)
		}
		round := append(l, place.Bound{From: 63, Most: -1})
		chain, e := place.Clash(64, round)
		if (most < 0) != (e == api.OK) || e == api.OK && len(chain) != 64 {
			t.Errorf("with Most %d Clash is %v %v", most, chain, e)
		}
	}
}

func TestP4_1Chain(t *testing.T) {
	clashing := append(example(), place.Bound{From: 2, To: 0, Most: -16})
	for _, c := range []struct {
		events int
		l      []place.Bound
		event  int
		upper  bool
		want   []int
		e      api.Errno
	}{
		{3, example(), 2, true, []int{0, 2}, api.OK},
		{3, example(), 2, false, []int{3, 1}, api.OK},
		{3, example(), 1, true, []int{0}, api.OK},
		{3, example(), 1, false, []int{1}, api.OK},
		{3, example(), 0, true, nil, api.OK},
		{3, example(), 0, false, nil, api.OK},
		{1, []place.Bound{{Most: 0}}, 0, true, nil, api.OK},
		{3, example(), 3, true, nil, api.ErrArg},
		{3, example(), -1, true, nil, api.ErrArg},
		{3, clashing, 3, true, nil, api.ErrArg},
		{3, clashing, math.MinInt, false, nil, api.ErrArg},
		{3, clashing, 0, true, nil, api.ErrClash},
		{3, clashing, 2, false, nil, api.ErrClash},
		{4, append(clashing, place.Bound{From: 0, To: 3}), 3, false, nil, api.ErrClash},
		{2, []place.Bound{{To: 1}}, 1, true, []int{0}, api.OK},
		{2, []place.Bound{{To: 1}}, 1, false, nil, api.ErrNone},
		{2, []place.Bound{{From: 1}}, 1, true, nil, api.ErrNone},
		{2, []place.Bound{{From: 1}}, 1, false, []int{0}, api.OK},
	} {
		got, e := place.Chain(c.events, c.l, c.event, c.upper)
		if e != c.e || !slices.Equal(got, c.want) {
			t.Errorf("Chain of %d, %+v, %d, %v: %v %v, want %v %v", c.events, c.l, c.event, c.upper, got, e, c.want, c.e)
		}
	}
}

func TestP4_1CheckChain(t *testing.T) {
	loop := []place.Bound{{Most: 3}, {From: 1, To: 1, Most: -1 << 30}}
	for _, c := range []struct {
		events         int
		l              []place.Bound
		chain          []int
		from, to, most int
		e              api.Errno
	}{
		{3, example(), []int{0, 2}, 0, 2, 15, api.OK},
		{3, example(), []int{3, 1}, 2, 0, -8, api.OK},
		{3, example(), []int{2}, 1, 2, 5, api.OK},
		{3, example(), []int{0, 1, 0, 1, 0}, 0, 1, 14, api.OK},
		{2, loop, []int{0, 0, 0}, 0, 0, 9, api.OK},
		{2, loop, slices.Repeat([]int{1}, 64), 1, 1, -1 << 36, api.OK},
		{2, loop, slices.Repeat([]int{1}, 65), 0, 0, 0, api.ErrSize},
		{3, example(), nil, 0, 0, 0, api.ErrSize},
		{3, example(), slices.Repeat([]int{-1}, 65), 0, 0, 0, api.ErrSize},
		{3, example(), []int{4}, 0, 0, 0, api.ErrArg},
		{3, example(), []int{-1}, 0, 0, 0, api.ErrArg},
		{3, example(), []int{0, math.MaxInt}, 0, 0, 0, api.ErrArg},
		{3, nil, []int{0}, 0, 0, 0, api.ErrArg},
		{3, example(), []int{0, 0, 4}, 0, 0, 0, api.ErrArg},
		{3, example(), []int{0, 0}, 0, 0, 0, api.ErrOrder},
		{3, example(), []int{2, 0}, 0, 0, 0, api.ErrOrder},
		{3, example(), []int{0, 2, 2}, 0, 0, 0, api.ErrOrder},
		{2, loop, []int{0, 1}, 0, 0, 0, api.ErrOrder},
	} {
		from, to, most, e := place.CheckChain(c.events, c.l, c.chain)
		if e != c.e || from != c.from || to != c.to || most != c.most {
			t.Errorf("CheckChain of %+v, %v: %d %d %d %v, want %d %d %d %v", c.l, c.chain, from, to, most, e, c.from, c.to, c.most, c.e)
		}
	}
}

func TestP4_1Clash(t *testing.T) {
	got, e := place.Clash(3, append(example(), place.Bound{From: 2, To: 0, Most: -16}))
	if e != api.OK || !slices.Contains([]string{"[0 2 4]", "[2 4 0]", "[4 0 2]"}, text(got)) {
		t.Errorf("Clash of the example: %v %v", got, e)
	}
	got, e = place.Clash(2, []place.Bound{{}, {From: 1, To: 1, Most: -1}})
	if e != api.OK || !slices.Equal(got, []int{1}) {
		t.Errorf("Clash of an event with itself: %v %v", got, e)
	}
	for _, l := range [][]place.Bound{nil, {{From: 1, To: 1}}, {{To: 1, Most: 8}, {From: 1, Most: -8}}, example()} {
		if got, e := place.Clash(3, l); e != api.ErrNone || len(got) > 0 {
			t.Errorf("Clash of %+v: %v %v", l, got, e)
		}
	}
}

// text returns the text of a list of digits.
func text(l []int) string {
	out := "["
	for i, x := range l {
		if i > 0 {
			out += " "
		}
		out += string(rune('0' + x))
	}
	return out + "]"
}

func TestP4_1Fits(t *testing.T) {
	most := 1 << 30
	for _, c := range []struct {
		events int
		l      []place.Bound
		places []int
		want   int
		e      api.Errno
	}{
		{3, example(), []int{0, 10, 15}, -1, api.OK},
		{3, example(), []int{0, 8, 8}, -1, api.OK},
		{3, example(), []int{-7, 2, 3}, -1, api.OK},
		{3, example(), []int{0, 11, 15}, 0, api.OK},
		{3, example(), []int{0, 7, 15}, 1, api.OK},
		{3, example(), []int{0, 10, 16}, 2, api.OK},
		{3, example(), []int{0, 10, 9}, 3, api.OK},
		{3, example(), []int{0, 11, 10}, 0, api.OK},
		{1, nil, []int{5}, -1, api.OK},
		{1, []place.Bound{{}, {Most: -1}}, []int{5}, 1, api.OK},
		{2, []place.Bound{{To: 1, Most: most}}, []int{-most, most}, 0, api.OK},
		{2, []place.Bound{{From: 1, Most: -most}}, []int{-most, most}, -1, api.OK},
		{3, example(), nil, 0, api.ErrSize},
		{3, example(), []int{0, 10}, 0, api.ErrSize},
		{3, example(), []int{0, 10, 15, most + 1}, 0, api.ErrSize},
		{3, example(), []int{0, 11, most + 1}, 0, api.ErrArg},
		{3, example(), []int{-most - 1, 11, 0}, 0, api.ErrArg},
		{3, example(), []int{0, math.MinInt, 0}, 0, api.ErrArg},
	} {
		got, e := place.Fits(c.events, c.l, c.places)
		if e != c.e || got != c.want {
			t.Errorf("Fits of %+v, %v: %d %v, want %d %v", c.l, c.places, got, e, c.want, c.e)
		}
	}
}

// problems returns events and bounds of many kinds: some that places keep, some with rounds that allow just 0, some that clash.
func problems() []problem {
	d := newDice(1)
	var out []problem
	for i := range 900 {
		events := d.from(1, 9)
		if i%30 == 0 {
			events = d.from(10, 64)
		}
		n := d.IntN(3*events + 1)
		spare := []int{0, 3, 1000}[i%3]
		places := d.places(events, 1000)
		switch i % 4 {
		case 0:
			out = append(out, problem{events, d.bounds(events, n, -2, 9)})
		case 1:
			out = append(out, problem{events, append(d.kept(places, n, spare), d.bounds(events, 1, -9, 3)...)})
		default:
			out = append(out, problem{events, d.kept(places, n, spare)})
		}
	}
	return out
}

// The limits are the least sums of chains, which are calculated for all pairs of events in another way.
func TestP4_1AllPairs(t *testing.T) {
	clashes := 0
	for _, p := range problems() {
		d := shortest(p.events, p.l)
		limits, e := place.Limits(p.events, p.l)
		if clash(d) {
			clashes++
			if e != api.ErrClash || len(limits) > 0 {
				t.Fatalf("Limits of %+v: %v %v", p, limits, e)
			}
			continue
		}
		if e != api.OK || len(limits) != p.events {
			t.Fatalf("Limits of %+v: %v %v", p, limits, e)
		}
		for i, got := range limits {
			var want place.Interval
			if d[0][i] < far {
				want.Hi, want.High = d[0][i], true
			}
			if d[i][0] < far {
				want.Lo, want.Low = -d[i][0], true
			}
			if got != want {
				t.Fatalf("Limits of %+v: %d is %+v, want %+v", p, i, got, want)
			}
		}
	}
	if clashes < 100 || clashes > 500 {
		t.Errorf("%d problems clash", clashes)
	}
}

func TestP4_2Limits(t *testing.T) {
	d := newDice(2)
	for range 400 {
		places := d.places(d.from(1, 12), 500)
		n := len(places)
		l := d.kept(places, d.IntN(3*n), []int{0, 5, 100}[d.IntN(3)])
		limits := must[[]place.Interval](t)(place.Limits(n, l))
		var los, his []int
		var lows, highs []bool
		for i, at := range limits {
			if at.Low && places[i] < at.Lo || at.High && places[i] > at.Hi {
				t.Fatalf("the place %d of the event %d is not in %+v", places[i], i, at)
			}
			los, his, lows, highs = append(los, at.Lo), append(his, at.Hi), append(lows, at.Low), append(highs, at.High)
		}
		if limits[0] != (place.Interval{Low: true, High: true}) {
			t.Fatalf("the event 0 is in %+v", limits[0])
		}
		if !keeps(l, los, lows) || !keeps(l, his, highs) {
			t.Fatalf("the limits %+v do not keep %+v", limits, l)
		}
		more := slices.Insert(slices.Clone(l), d.IntN(len(l)+1), d.kept(places, 1, 5)...)
		for i, in := range must[[]place.Interval](t)(place.Limits(n, more)) {
			out := limits[i]
			if out.Low && (!in.Low || in.Lo < out.Lo) || out.High && (!in.High || in.Hi > out.Hi) {
				t.Fatalf("with one bound more %+v becomes %+v", out, in)
			}
		}
	}
}

// once tells whether each event is at most once the From of a bound of a chain.
func once(l []place.Bound, chain []int) bool {
	var seen []int
	for _, i := range chain {
		if slices.Contains(seen, l[i].From) {
			return false
		}
		seen = append(seen, l[i].From)
	}
	return true
}

func TestP4_3Proofs(t *testing.T) {
	for _, p := range problems() {
		limits, e := place.Limits(p.events, p.l)
		round, f := place.Clash(p.events, p.l)
		if e == api.ErrClash {
			from, to, most, g := place.CheckChain(p.events, p.l, round)
			if f != api.OK || g != api.OK || from != to || most >= 0 || !once(p.l, round) {
				t.Fatalf("Clash of %+v: %v %v: %d %d %d %v", p, round, f, from, to, most, g)
			}
			continue
		}
		if e != api.OK || f != api.ErrNone || len(round) > 0 {
			t.Fatalf("%+v has limits %v and clashes %v %v", p, e, round, f)
		}
		for event, at := range limits {
			proves(t, p, event, true, event, at.Hi, at.High)
			proves(t, p, event, false, event, -at.Lo, at.Low)
		}
	}
}

// proves checks the chain of a limit, which allows just so much.
func proves(t *testing.T, p problem, event int, upper bool, end, most int, some bool) {
	t.Helper()
	chain, e := place.Chain(p.events, p.l, event, upper)
	if !some {
		if e != api.ErrNone || len(chain) > 0 {
			t.Fatalf("Chain of %+v, %d, %v: %v %v", p, event, upper, chain, e)
		}
		return
	}
	if e != api.OK || (len(chain) == 0) != (event == 0) || !once(p.l, chain) {
		t.Fatalf("Chain of %+v, %d, %v: %v %v", p, event, upper, chain, e)
	}
	if event == 0 {
		return
	}
	from, to, sum, e := place.CheckChain(p.events, p.l, chain)
	if !upper {
		from, to = to, from
	}
	if from != 0 || to != end || sum != most || e != api.OK {
		t.Fatalf("the chain %v of %+v, %d, %v: %d %d %d %v", chain, p, event, upper, from, to, sum, e)
	}
}
