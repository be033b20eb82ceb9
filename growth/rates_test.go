package growth_test

import (
	"math"
	"slices"
	"testing"

	"wallgauge/api"
	"wallgauge/dyad"
	"wallgauge/growth"
)

func TestP8_1RateOfExamples(t *testing.T) {
	for _, c := range []struct {
		a, b    api.Finding
		days, k int
		want    string
	}{
		{deep(900, 1100), deep(1400, 1600), 365, 0, "[300,700]"},
		{deep(900, 1100), deep(800, 1000), 365, 0, "[0,100]"},
		{deep(900, 1100), deep(100, 200), 365, 0, "[0,0]"},
		{deep(900, 1100), deep(1100, 1100), 730, 0, "[0,100]"},
		{deep(0, 0), deep(1, 1), 730, 2, "[1/2,1/2]"},
		{deep(0, 0), deep(1, 2), 1, 9, "[365,730]"},
		{deep(0, 0), deep(1, 1), 1095, 2, "[1/4,1/2]"}, // 1/3
		{deep(0, 1), deep(2, 2), 366, 0, "[0,2]"},
		{deep(0, 0), deep(1<<20, 1<<20), 1, 0, "[382730240,382730240]"},
		{deep(0, 1<<20), deep(0, 1<<20), 36500, 3, "[0,83887/8]"}, // 10485.76
	} {
		if got := must[dyad.Span](t)(growth.Rate(c.a, c.b, c.days, c.k)); got.Text() != c.want {
			t.Errorf("Rate of %v and %v in %d days is %s, want %s", c.a, c.b, c.days, got.Text(), c.want)
		}
	}
	checkBits(t, "Rate", func(k int) (dyad.Span, api.Errno) { return growth.Rate(deep(0, 0), deep(1, 1), 1095, k) })
}

func TestP8_1RateOfFractions(t *testing.T) {
	d := newDice(31)
	for range 3000 {
		a, b, days, k := api.Finding{Depth: d.depth()}, api.Finding{Depth: d.depth()}, d.from(1, 36500), d.from(0, 60)
		least, greatest := max(b.Depth.Lo-a.Depth.Hi, 0), max(b.Depth.Hi-a.Depth.Lo, 0)
		lo, hi := floor(frac(365*least, days), k), ceil(frac(365*greatest, days), k)
		if got := must[dyad.Span](t)(growth.Rate(a, b, days, k)); !sameEnds(got, lo, hi) {
			t.Errorf("Rate of %v and %v in %d days is %s, want %v to %v", a.Depth, b.Depth, days, got.Text(), lo, hi)
		}
	}
}

func TestP8_4Rates(t *testing.T) {
	d := newDice(32)
	for range 3000 {
		a, b, days, k := api.Finding{Depth: d.depth()}, api.Finding{Depth: d.depth()}, d.from(1, 36500), d.from(0, 60)
		rate := must[dyad.Span](t)(growth.Rate(a, b, days, k))
		if rate.Lo().Sign() < 0 {
			t.Fatalf("Rate of %v and %v is %s", a.Depth, b.Depth, rate.Text())
		}
		for range 3 {
			was, is := d.from(a.Depth.Lo, a.Depth.Hi), d.from(b.Depth.Lo, b.Depth.Hi)
			if is >= was && !holds(rate, frac(365*(is-was), days)) {
				t.Fatalf("Rate of %v and %v in %d days is %s without the growth from %d to %d", a.Depth, b.Depth, days, rate.Text(), was, is)
			}
		}
		wider := func(f api.Finding) api.Finding {
			f.Depth = api.Range{Lo: d.from(0, f.Depth.Lo), Hi: d.from(f.Depth.Hi, 1<<20)}
			return f
		}
		wide := must[dyad.Span](t)(growth.Rate(wider(a), wider(b), days, k))
		coarse := must[dyad.Span](t)(growth.Rate(a, b, days, d.from(0, k)))
		if !rate.In(wide) || !rate.In(coarse) {
			t.Fatalf("Rate of %v and %v is %s, of wider ones %s, with fewer bits %s", a.Depth, b.Depth, rate.Text(), wide.Text(), coarse.Text())
		}
	}
}

func TestP8_1ErrorsOfRate(t *testing.T) {
	check := func(a, b api.Finding, days int, want api.Errno) {
		t.Helper()
		if got, e := growth.Rate(a, b, days, 3); e != want || e != api.OK && got.Text() != "[0,0]" {
			t.Errorf("Rate of %v and %v in %d days: %s %v, want %v", a, b, days, got.Text(), e, want)
		}
	}
	check(api.Finding{}, api.Finding{}, 1, api.OK)
	check(api.Finding{}, api.Finding{}, 36500, api.OK)
	for _, days := range []int{0, -1, 36501, math.MinInt, math.MaxInt} {
		check(api.Finding{}, api.Finding{}, days, api.ErrArg)
		check(deep(2, 1), api.Finding{}, days, api.ErrOrder)
		check(api.Finding{}, deep(2, 1), days, api.ErrOrder)
	}
	for f, want := range invalid() {
		check(f, at(0, -1), 0, want)
		check(f, deep(2, 1), 0, want)
		check(at(5, 0), f, 0, want)
	}
	for _, f := range limits() {
		check(f, f, 9, api.OK)
	}
}

func TestP8_1Rates(t *testing.T) {
	d := newDice(33)
	for range 300 {
		a, b := d.runs(d.from(0, 24), d.from(0, 24), 1000)
		days, k := d.from(1, 36500), d.from(0, 20)
		pairs := d.pairs(len(a), len(b))
		got := must[[]dyad.Span](t)(growth.Rates(a, b, pairs, days, k))
		var want []dyad.Span
		for _, p := range pairs {
			want = append(want, must[dyad.Span](t)(growth.Rate(a[p[0]], b[p[1]], days, k)))
		}
		if !slices.Equal(texts(got), texts(want)) {
			t.Fatalf("Rates of %v: %v, want %v", pairs, texts(got), texts(want))
		}
	}
	// These pairs need not be a match.
	a, b := []api.Finding{deep(0, 0), at(1<<30, 0)}, []api.Finding{deep(3, 4)}
	got := must[[]dyad.Span](t)(growth.Rates(a, b, [][2]int{{1, 0}, {0, 0}, {1, 0}}, 365, -5))
	if !slices.Equal(texts(got), []string{"[3,4]", "[3,4]", "[3,4]"}) {
		t.Errorf("Rates: %v", texts(got))
	}
	if got := must[[]dyad.Span](t)(growth.Rates(a, b, make([][2]int, 24), 365, 0)); len(got) != 24 {
		t.Errorf("Rates of 24 pairs: %v", texts(got))
	}
}

func TestP8_1ErrorsOfRates(t *testing.T) {
	check := func(a, b []api.Finding, pairs [][2]int, days int, want api.Errno) {
		t.Helper()
		if got, e := growth.Rates(a, b, pairs, days, 3); e != want || e != api.OK && len(got) > 0 {
			t.Errorf("Rates of %v and %v for %v in %d days: %v %v, want %v", a, b, pairs, days, texts(got), e, want)
		}
	}
	one, two, long := make([]api.Finding, 1), make([]api.Finding, 2), make([]api.Finding, 25)
	check(nil, nil, nil, 1, api.OK)
	check(long, []api.Finding{{At: -1}}, make([][2]int, 25), 0, api.ErrSize)
	check([]api.Finding{{At: -1}}, long, make([][2]int, 25), 0, api.ErrArg)
	check(one, long, [][2]int{{9, 9}}, 0, api.ErrSize)
	check(one, []api.Finding{deep(2, 1)}, make([][2]int, 25), 0, api.ErrOrder)
	check(one, two, make([][2]int, 25), 0, api.ErrSize)
	check(one, two, with(25, [2]int{}, 0, [2]int{-1, 0}), 1, api.ErrSize)
	for f, want := range invalid() {
		check([]api.Finding{{}, f}, []api.Finding{deep(2, 1)}, nil, 0, want)
		check([]api.Finding{{}}, []api.Finding{{}, f}, nil, 0, want)
	}
	for _, bad := range []int{-1, 2, math.MinInt, math.MaxInt} {
		check(one, two, [][2]int{{0, 0}, {0, bad}}, 1, api.ErrArg)
		check(two, one, [][2]int{{0, 0}, {bad, 0}}, 1, api.ErrArg)
	}
	check(nil, two, [][2]int{{0, 0}}, 1, api.ErrArg)
	check(two, nil, [][2]int{{0, 0}}, 1, api.ErrArg)
	for _, days := range []int{0, -1, 36501, math.MinInt, math.MaxInt} {
		check(one, two, [][2]int{{0, 1}}, days, api.ErrArg)
		check(one, two, nil, days, api.ErrArg)
	}
}

// example are the rates of the document's examples.
func example() []dyad.Span { return []dyad.Span{span("1", "2"), span("0", "5"), span("3", "4")} }

func TestP8_1QuantileOfExamples(t *testing.T) {
	for _, c := range []struct {
		rates    []dyad.Span
		part, of int
		want     string
	}{
		{example(), 1, 2, "[1,4]"},
		{example(), 0, 2, "[0,2]"},
		{example(), 0, 1, "[0,2]"},
		{example(), 1, 1, "[3,5]"},
		{example(), 1, 3, "[0,2]"},
		{example(), 334, 1000, "[1,4]"}, // 1.002 of 3 is the second one
		{example(), 333, 1000, "[0,2]"},
		{example(), 2, 3, "[1,4]"},
		{example(), 667, 1000, "[3,5]"},
		{example(), 1000, 1000, "[3,5]"},
		{example()[:1], 0, 1000, "[1,2]"},
		{example()[:1], 7, 9, "[1,2]"},
		{[]dyad.Span{span("-3", "-1/2"), span("-1", "-1")}, 1, 2, "[-3,-1]"},
		{make([]dyad.Span, 24), 1, 2, "[0,0]"},
	} {
		if got := must[dyad.Span](t)(growth.Quantile(c.rates, c.part, c.of)); got.Text() != c.want {
			t.Errorf("Quantile of %v for %d of %d is %s, want %s", texts(c.rates), c.part, c.of, got.Text(), c.want)
		}
	}
}

// rank returns the least integer m from 1 on that is at least n part/of.
func rank(n, part, of int) int {
	m := 1
	for m*of < n*part {
		m++
	}
	return m
}

// isRanked tells whether x has this rank among numbers.
func isRanked(x dyad.Num, l []dyad.Num, rank int) bool {
	below, upTo := 0, 0
	for _, y := range l {
		if y.Cmp(x) < 0 {
			below++
		}
		if y.Cmp(x) <= 0 {
			upTo++
		}
	}
	return below < rank && rank <= upTo
}

func TestP8_1QuantileByCounting(t *testing.T) {
	d := newDice(34)
	for range 2000 {
		rates := d.spans(d.from(1, 24))
		part, of := d.part()
		var los, his []dyad.Num
		for _, s := range rates {
			los, his = append(los, s.Lo()), append(his, s.Hi())
		}
		m := rank(len(rates), part, of)
		got := must[dyad.Span](t)(growth.Quantile(rates, part, of))
		if !isRanked(got.Lo(), los, m) || !isRanked(got.Hi(), his, m) {
			t.Fatalf("Quantile of %v for %d of %d is %s", texts(rates), part, of, got.Text())
		}
	}
}

func TestP8_1ErrorsOfQuantile(t *testing.T) {
	for _, c := range []struct {
		n, part, of int
		want        api.Errno
	}{
		{0, 1, 2, api.ErrSize}, {25, 1, 2, api.ErrSize}, {0, -1, 0, api.ErrSize}, {25, -1, 0, api.ErrSize},
		{1, 0, 1, api.OK}, {24, 1000, 1000, api.OK},
		{1, 0, 0, api.ErrArg}, {1, 0, -1, api.ErrArg}, {1, 0, 1001, api.ErrArg}, {1, -2, -1, api.ErrArg}, {1, 0, math.MinInt, api.ErrArg}, {1, 0, math.MaxInt, api.ErrArg},
		{1, -1, 5, api.ErrArg}, {1, 6, 5, api.ErrArg}, {1, math.MinInt, 5, api.ErrArg}, {1, math.MaxInt, 5, api.ErrArg},
	} {
		if got, e := growth.Quantile(make([]dyad.Span, c.n), c.part, c.of); e != c.want || got.Text() != "[0,0]" {
			t.Errorf("Quantile of %d rates for %d of %d: %s %v, want %v", c.n, c.part, c.of, got.Text(), e, c.want)
		}
	}
}

func TestP8_1BinsOfExamples(t *testing.T) {
	for _, c := range []struct {
		rates []dyad.Span
		edges []dyad.Num
		want  [][2]int
	}{
		{example(), []dyad.Num{num("1"), num("3")}, [][2]int{{0, 1}, {1, 2}, {1, 2}}},
		{example(), []dyad.Num{num("2")}, [][2]int{{0, 2}, {1, 3}}}, // the edge 2 belongs to the class behind it
		{example(), []dyad.Num{num("9/4")}, [][2]int{{1, 2}, {1, 2}}},
		{example(), []dyad.Num{num("-1")}, [][2]int{{0, 0}, {3, 3}}},
		{example(), []dyad.Num{num("5")}, [][2]int{{2, 3}, {0, 1}}}, // 5 alone is in the last class
		{example(), []dyad.Num{num("11/2")}, [][2]int{{3, 3}, {0, 0}}},
		{nil, []dyad.Num{num("0"), num("1")}, [][2]int{{0, 0}, {0, 0}, {0, 0}}},
		{[]dyad.Span{span("0", "9")}, []dyad.Num{num("1"), num("2"), num("3")}, [][2]int{{0, 1}, {0, 1}, {0, 1}, {0, 1}}},
		{[]dyad.Span{span("1", "1"), span("1", "1")}, []dyad.Num{num("1"), num("2")}, [][2]int{{0, 0}, {2, 2}, {0, 0}}},
	} {
		if got := must[[][2]int](t)(growth.Bins(c.rates, c.edges)); !slices.Equal(got, c.want) {
			t.Errorf("Bins of %v for %v are %v, want %v", texts(c.rates), numbers(c.edges), got, c.want)
		}
	}
}

// edges returns rising numbers.
func (d dice) edges() []dyad.Num {
	out := []dyad.Num{dyad.Int(int64(d.from(-2, 3)))}
	for range d.from(0, 15) {
		step, _ := dyad.New(int64(d.from(1, 8)), 3)
		out = append(out, out[len(out)-1].Add(step))
	}
	return out
}

// inClass tells whether a class has a number.
func inClass(edges []dyad.Num, class int, x dyad.Num) bool {
	return (class == 0 || x.Cmp(edges[class-1]) >= 0) && (class == len(edges) || x.Cmp(edges[class]) < 0)
}

// hasAny tells whether a span has a number of a class.
func hasAny(edges []dyad.Num, class int, s dyad.Span) bool {
	return (class == 0 || s.Hi().Cmp(edges[class-1]) >= 0) && (class == len(edges) || s.Lo().Cmp(edges[class]) < 0)
}

func TestP8_1BinsByClasses(t *testing.T) {
	d := newDice(35)
	for range 1000 {
		rates, edges := d.spans(d.from(0, 24)), d.edges()
		got := must[[][2]int](t)(growth.Bins(rates, edges))
		want := make([][2]int, len(edges)+1)
		for class := range want {
			for _, s := range rates {
				if inClass(edges, class, s.Lo()) && inClass(edges, class, s.Hi()) {
					want[class][0]++
				}
				if hasAny(edges, class, s) {
					want[class][1]++
				}
			}
		}
		if !slices.Equal(got, want) {
			t.Fatalf("Bins of %v for %v are %v, want %v", texts(rates), numbers(edges), got, want)
		}
	}
}

func TestP8_1ErrorsOfBins(t *testing.T) {
	rise := make([]dyad.Num, 17)
	for i := range rise {
		rise[i] = dyad.Int(int64(i))
	}
	fall, same := []dyad.Num{num("1"), num("2"), num("0")}, []dyad.Num{num("1"), num("1")}
	for _, c := range []struct {
		rates int
		edges []dyad.Num
		want  api.Errno
	}{
		{24, rise[:16], api.OK}, {24, rise[:1], api.OK}, {0, rise[:1], api.OK},
		{25, rise[:3], api.ErrSize}, {3, rise, api.ErrSize}, {3, nil, api.ErrSize}, {25, fall, api.ErrSize}, {3, make([]dyad.Num, 17), api.ErrSize},
		{3, fall, api.ErrOrder}, {3, same, api.ErrOrder}, {0, fall, api.ErrOrder},
	} {
		got, e := growth.Bins(make([]dyad.Span, c.rates), c.edges)
		if e != c.want || e == api.OK && len(got) != len(c.edges)+1 || e != api.OK && len(got) > 0 {
			t.Errorf("Bins of %d rates for %v: %v %v, want %v", c.rates, numbers(c.edges), got, e, c.want)
		}
	}
}

func TestP8_5Counting(t *testing.T) {
	d := newDice(36)
	for range 500 {
		rates, edges := d.spans(d.from(1, 24)), d.edges()
		part, of := d.part()
		quantile := must[dyad.Span](t)(growth.Quantile(rates, part, of))
		bins := must[[][2]int](t)(growth.Bins(rates, edges))
		for range 5 {
			var real []dyad.Num
			for _, s := range rates {
				real = append(real, d.inside(s))
			}
			slices.SortFunc(real, dyad.Num.Cmp)
			if !quantile.Has(real[rank(len(rates), part, of)-1]) {
				t.Fatalf("Quantile of %v for %d of %d is %s, not with %v", texts(rates), part, of, quantile.Text(), numbers(real))
			}
			for class, count := range bins {
				n := 0
				for _, x := range real {
					if inClass(edges, class, x) {
						n++
					}
				}
				if n < count[0] || n > count[1] {
					t.Fatalf("Bins of %v for %v are %v, not with %v", texts(rates), numbers(edges), bins, numbers(real))
				}
			}
		}
	}
}

func TestP8_5GreaterPart(t *testing.T) {
	d := newDice(37)
	for range 200 {
		rates := d.spans(d.from(1, 24))
		_, of := d.part()
		var ahead dyad.Span
		for part := range of + 1 {
			got := must[dyad.Span](t)(growth.Quantile(rates, part, of))
			if part > 0 && (got.Lo().Cmp(ahead.Lo()) < 0 || got.Hi().Cmp(ahead.Hi()) < 0) {
				t.Fatalf("Quantile of %v for %d of %d is %s, for one less %s", texts(rates), part, of, got.Text(), ahead.Text())
			}
			ahead = got
		}
	}
}

// The numbers of a rate may have any size.
func TestP8_1RatesOfAnySize(t *testing.T) {
	tiny := unit(256).Mul(unit(256))
	rates := []dyad.Span{between(great().Neg(), great()), between(tiny, great().Mul(great())), between(tiny, tiny)}
	got := must[dyad.Span](t)(growth.Quantile(rates, 1, 2))
	if !got.Lo().Same(tiny) || !got.Hi().Same(great()) {
		t.Errorf("Quantile: %s", got.Text())
	}
	bins := must[[][2]int](t)(growth.Bins(rates, []dyad.Num{tiny, great()}))
	if !slices.Equal(bins, [][2]int{{0, 1}, {1, 3}, {0, 2}}) {
		t.Errorf("Bins: %v", bins)
	}
}
