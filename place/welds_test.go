package place_test

import (
	"math"
	"slices"
	"testing"

	"wallgauge/api"
	"wallgauge/place"
)

// exampleWelds returns welds, calls and costs of the document's example.
func exampleWelds() ([]int, []int, place.Costs) {
	return []int{0, 1000, 2000}, []int{10, 1995, 2500}, place.Costs{Lost: 300, False: 200, Most: 100}
}

// aligning is an alignment's problem.
type aligning struct {
	welds, calls []int
	c            place.Costs
}

// badAlignings returns problems with their errors; where one has several, the one named first is told.
func badAlignings() map[api.Errno][]aligning {
	fine := place.Costs{Lost: 1, False: 1, Most: 1}
	costs := place.Costs{Lost: -1, False: -1, Most: -1}
	many, falls, low := make([]int, 41), []int{5, 4}, []int{-1}
	return map[api.Errno][]aligning{
		api.ErrSize: {{many, nil, fine}, {many, low, costs}, {nil, many, costs}, {[]int{1}, slices.Repeat([]int{-1}, 41), fine}},
		api.ErrArg: {
			{low, many, costs}, {[]int{top + 1}, falls, fine}, {[]int{3, 4, -1}, nil, fine}, {[]int{5, math.MinInt}, nil, fine}, {[]int{math.MaxInt}, nil, fine},
			{nil, low, costs}, {nil, []int{top + 1}, fine}, {nil, []int{7, -1}, fine},
			{nil, nil, place.Costs{Lost: -1}}, {nil, nil, place.Costs{False: -1}}, {nil, nil, place.Costs{Most: -1}},
			{nil, nil, place.Costs{Lost: 1<<20 + 1}}, {nil, nil, place.Costs{False: 1<<20 + 1}}, {nil, nil, place.Costs{Most: 1<<20 + 1}},
		},
		api.ErrOrder: {{falls, many, costs}, {[]int{4, 4}, low, costs}, {[]int{4, 5, 5, -1}, nil, fine}, {nil, falls, costs}, {[]int{4}, []int{4, 4, 3, top + 1}, fine}},
	}
}

func TestP4_1AlignmentsErrors(t *testing.T) {
	for want, l := range badAlignings() {
		for _, a := range l {
			if pairs, cost, e := place.Align(a.welds, a.calls, a.c); e != want || cost != 0 || len(pairs) > 0 {
				t.Errorf("Align of %+v: %v %v %v, want %v", a, pairs, cost, e, want)
			}
			if cost, e := place.Cost(a.welds, a.calls, a.c, [][2]int{{-1, -1}}); e != want || cost != 0 {
				t.Errorf("Cost of %+v: %v %v, want %v", a, cost, e, want)
			}
			if prices, e := place.Prices(a.welds, a.calls, a.c); e != want || len(prices) > 0 {
				t.Errorf("Prices of %+v: %v %v, want %v", a, prices, e, want)
			}
			if floor, e := place.Floor(a.welds, a.calls, a.c, nil); e != want || floor != 0 {
				t.Errorf("Floor of %+v: %v %v, want %v", a, floor, e, want)
			}
		}
	}
}

func TestP4_1Align(t *testing.T) {
	welds, calls, c := exampleWelds()
	for _, a := range []struct {
		aligning
		pairs [][2]int
		cost  int
	}{
		{aligning{welds, calls, c}, [][2]int{{0, 0}, {2, 1}}, 515},
		{aligning{nil, nil, c}, nil, 0},
		{aligning{welds, nil, c}, nil, 900},
		{aligning{nil, calls, c}, nil, 600},
		{aligning{[]int{100}, []int{200}, c}, [][2]int{{0, 0}}, 100},
		{aligning{[]int{100}, []int{201}, c}, nil, 500},
		{aligning{[]int{201}, []int{100}, c}, nil, 500},
		{aligning{[]int{200}, []int{100}, c}, [][2]int{{0, 0}}, 100},
		{aligning{[]int{100}, []int{160}, place.Costs{Lost: 30, False: 29, Most: 100}}, nil, 59},
		{aligning{[]int{100}, []int{160}, place.Costs{Lost: 30, False: 31, Most: 100}}, [][2]int{{0, 0}}, 60},
		{aligning{[]int{0, top}, []int{0, 0, top}, place.Costs{Lost: 1 << 20, False: 1 << 20, Most: 1 << 20}}, nil, 1 << 20},
		{aligning{[]int{5}, []int{5, 5}, place.Costs{}}, nil, 0},
		{aligning{[]int{5}, []int{5}, place.Costs{Lost: 1}}, [][2]int{{0, 0}}, 0},
		{aligning{[]int{0, 10}, []int{9, 11}, place.Costs{Lost: 50, False: 50, Most: 20}}, [][2]int{{0, 0}, {1, 1}}, 10},
	} {
		pairs, cost, e := place.Align(a.welds, a.calls, a.c)
		again, f := place.Cost(a.welds, a.calls, a.c, pairs)
		if e != api.OK || cost != a.cost || f != api.OK || again != cost || a.pairs != nil && !slices.Equal(pairs, a.pairs) {
			t.Errorf("Align of %+v: %v %d %v, Cost %d %v", a, pairs, cost, e, again, f)
		}
	}
	fortyWelds := newDice(7).rising(40, 1, 1<<20)
	pairs, cost, e := place.Align(fortyWelds, fortyWelds, c)
	if e != api.OK || cost != 0 || len(pairs) != 40 {
		t.Errorf("Align of 40 welds: %v %d %v", pairs, cost, e)
	}
	if _, cost, e := place.Align(fortyWelds, nil, place.Costs{Lost: 1 << 20}); e != api.OK || cost != 40<<20 {
		t.Errorf("40 lost welds: %d %v", cost, e)
	}
}

func TestP4_1Cost(t *testing.T) {
	welds, calls, c := exampleWelds()
	for _, a := range []struct {
		pairs [][2]int
		cost  int
		e     api.Errno
	}{
		{[][2]int{{0, 0}, {2, 1}}, 515, api.OK},
		{[][2]int{{0, 0}}, 1010, api.OK},
		{[][2]int{{2, 1}}, 1005, api.OK},
		{nil, 1500, api.OK},
		{[][2]int{{-1, 0}}, 0, api.ErrArg},
		{[][2]int{{3, 0}}, 0, api.ErrArg},
		{[][2]int{{0, -1}}, 0, api.ErrArg},
		{[][2]int{{0, 3}}, 0, api.ErrArg},
		{[][2]int{{0, 0}, {math.MinInt, math.MaxInt}}, 0, api.ErrArg},
		{[][2]int{{0, 0}, {0, 1}}, 0, api.ErrOrder},
		{[][2]int{{2, 1}, {1, 2}}, 0, api.ErrOrder},
		{[][2]int{{0, 0}, {1, 0}}, 0, api.ErrOrder},
		{[][2]int{{2, 1}, {2, 0}}, 0, api.ErrOrder},
		{[][2]int{{1, 1}}, 0, api.ErrNone},
		{[][2]int{{2, 2}}, 0, api.ErrNone},
		{[][2]int{{1, 1}, {3, 9}}, 0, api.ErrNone},
		{[][2]int{{0, 0}, {0, 0}, {3, 9}}, 0, api.ErrOrder},
		{[][2]int{{0, 0}, {3, 9}, {0, 0}}, 0, api.ErrArg},
	} {
		if cost, e := place.Cost(welds, calls, c, a.pairs); cost != a.cost || e != a.e {
			t.Errorf("Cost of %v: %d %v, want %d %v", a.pairs, cost, e, a.cost, a.e)
		}
	}
	c.Most = 995
	if cost, e := place.Cost(welds, calls, c, [][2]int{{1, 1}}); e != api.OK || cost != 995+600+400 {
		t.Errorf("Cost of a pair that is as far apart as may be: %d %v", cost, e)
	}
	c.Most = 994
	if _, e := place.Cost(welds, calls, c, [][2]int{{1, 1}}); e != api.ErrNone {
		t.Errorf("Cost of a pair that is too far apart: %v", e)
	}
}

func TestP4_1Prices(t *testing.T) {
	welds, calls, c := exampleWelds()
	want := [][]int{{0, 200, 400, 600}, {300, 10, 210, 410}, {600, 310, 510, 710}, {900, 610, 315, 515}}
	got, e := place.Prices(welds, calls, c)
	if e != api.OK || !slices.EqualFunc(got, want, slices.Equal) {
		t.Errorf("Prices of the example: %v %v", got, e)
	}
	got, e = place.Prices(nil, nil, c)
	if e != api.OK || !slices.EqualFunc(got, [][]int{{0}}, slices.Equal) {
		t.Errorf("Prices of nothing: %v %v", got, e)
	}
	got, e = place.Prices(welds, nil, c)
	if e != api.OK || !slices.EqualFunc(got, [][]int{{0}, {300}, {600}, {900}}, slices.Equal) {
		t.Errorf("Prices without calls: %v %v", got, e)
	}
}

func TestP4_1Floor(t *testing.T) {
	welds, calls, c := []int{0, 1000}, []int{10, 995}, place.Costs{Lost: 300, False: 200, Most: 100}
	limit := 1 << 40
	for _, a := range []struct {
		prices [][]int
		want   int
		e      api.Errno
	}{
		{[][]int{{0, 200, 400}, {300, 10, 210}, {600, 310, 15}}, 15, api.OK},
		{[][]int{{5, 200, 400}, {300, 10, 210}, {600, 310, 14}}, 9, api.OK},
		{[][]int{{0, 0, 0}, {0, 0, 0}, {0, 0, -7}}, -7, api.OK},
		{[][]int{{limit, -limit, -limit}, {-limit, -limit, -limit}, {-limit, -limit, -limit}}, -2 * limit, api.OK},
		{[][]int{{limit, limit, limit}, {limit, limit, limit}, {limit, limit, limit}}, 0, api.OK},
		{[][]int{{0, 200, 400}, {300, 10, 210}, {600, 310, 16}}, 0, api.ErrOrder},
		{[][]int{{0, 201, 400}, {300, 10, 210}, {600, 310, 15}}, 0, api.ErrOrder},
		{[][]int{{0, 200, 400}, {301, 10, 210}, {600, 310, 15}}, 0, api.ErrOrder},
		{[][]int{{0, 200, 400}, {300, 11, 210}, {600, 310, 15}}, 0, api.ErrOrder},
		{[][]int{{0, 200, 400}, {300, 10, 211}, {600, 310, 15}}, 0, api.ErrOrder},
		{[][]int{{0, 200, 400}, {300, 10, 210}, {600, 311, 15}}, 0, api.ErrOrder},
		{[][]int{{0, 200, 401}, {300, 10, 210}, {600, 310, 15}}, 0, api.ErrOrder},
		{[][]int{{limit + 1, 0, 0}, {0, 0, 0}, {0, 0, 0}}, 0, api.ErrArg},
		{[][]int{{0, 0, 0}, {0, 0, 0}, {0, 0, -limit - 1}}, 0, api.ErrArg},
		{[][]int{{0, 0, 0}, {0, limit + 1, 0}, {0, 0, 0}}, 0, api.ErrArg},
		{[][]int{{math.MinInt, 0, 0}, {0, math.MaxInt, 0}, {0, 0, 0}}, 0, api.ErrArg},
		// An element that is out of its range counts ahead of a later one that is too great, and the other way round.
		{[][]int{{0, limit + 1, 0}, {301, 0, 0}, {0, 0, 0}}, 0, api.ErrArg},
		{[][]int{{0, 201, 0}, {limit + 1, 0, 0}, {0, 0, 0}}, 0, api.ErrOrder},
		{nil, 0, api.ErrSize},
		{[][]int{{0, 0, 0}, {0, 0, 0}}, 0, api.ErrSize},
		{[][]int{{0, 0, 0}, {0, 0, 0}, {0, 0, 0}, {0, 0, 0}}, 0, api.ErrSize},
		{[][]int{{0, 0}, {0, 0, 0}, {0, 0, 0}}, 0, api.ErrSize},
		{[][]int{{limit + 1, 9999, 0}, {0, 0, 0}, {0, 0, 0, 0}}, 0, api.ErrSize},
		{[][]int{nil, nil, nil}, 0, api.ErrSize},
	} {
		if got, e := place.Floor(welds, calls, c, a.prices); got != a.want || e != a.e {
			t.Errorf("Floor of %v: %d %v, want %d %v", a.prices, got, e, a.want, a.e)
		}
	}
	// A weld and a call that are as far apart as may be bind the prices; farther apart they do not.
	for _, most := range []int{9, 10} {
		c.Most = most
		_, e := place.Floor([]int{0}, []int{10}, c, [][]int{{0, 200}, {300, 500}})
		if (e == api.ErrOrder) != (most == 10) {
			t.Errorf("Floor with Most %d: %v", most, e)
		}
	}
	if got, e := place.Floor(nil, nil, c, [][]int{{7}}); got != 0 || e != api.OK {
		t.Errorf("Floor of nothing: %d %v", got, e)
	}
}

func TestP4_1Missing(t *testing.T) {
	for _, c := range []struct {
		welds, calls int
		pairs        [][2]int
		lost, false  []int
		e            api.Errno
	}{
		{3, 3, [][2]int{{0, 0}, {2, 1}}, []int{1}, []int{2}, api.OK},
		{3, 2, nil, []int{0, 1, 2}, []int{0, 1}, api.OK},
		{0, 0, nil, nil, nil, api.OK},
		{40, 0, nil, []int{0, 1, 2, 3, 4, 5, 6, 7, 8, 9, 10, 11, 12, 13, 14, 15, 16, 17, 18, 19, 20, 21, 22, 23, 24, 25, 26, 27, 28, 29, 30, 31, 32, 33, 34, 35, 36, 37, 38, 39}, nil, api.OK},
		{1, 40, [][2]int{{0, 39}}, nil, []int{0, 1, 2, 3, 4, 5, 6, 7, 8, 9, 10, 11, 12, 13, 14, 15, 16, 17, 18, 19, 20, 21, 22, 23, 24, 25, 26, 27, 28, 29, 30, 31, 32, 33, 34, 35, 36, 37, 38}, api.OK},
		{2, 2, [][2]int{{0, 0}, {1, 1}}, nil, nil, api.OK},
		{41, 0, [][2]int{{-1, 0}}, nil, nil, api.ErrSize},
		{0, 41, nil, nil, nil, api.ErrSize},
		{-1, 0, nil, nil, nil, api.ErrSize},
		{0, -1, nil, nil, nil, api.ErrSize},
		{math.MinInt, math.MaxInt, nil, nil, nil, api.ErrSize},
		{3, 3, [][2]int{{3, 0}}, nil, nil, api.ErrArg},
		{3, 3, [][2]int{{0, 3}}, nil, nil, api.ErrArg},
		{3, 3, [][2]int{{-1, 0}}, nil, nil, api.ErrArg},
		{3, 3, [][2]int{{0, -1}}, nil, nil, api.ErrArg},
		{0, 3, [][2]int{{0, 0}}, nil, nil, api.ErrArg},
		{3, 3, [][2]int{{1, 1}, {1, 2}}, nil, nil, api.ErrOrder},
		{3, 3, [][2]int{{1, 1}, {2, 1}}, nil, nil, api.ErrOrder},
		{3, 3, [][2]int{{1, 1}, {0, 2}, {3, 3}}, nil, nil, api.ErrOrder},
		{3, 3, [][2]int{{1, 1}, {0, 3}, {0, 0}}, nil, nil, api.ErrArg},
	} {
		lost, extra, e := place.Missing(c.welds, c.calls, c.pairs)
		if e != c.e || !slices.Equal(lost, c.lost) || !slices.Equal(extra, c.false) {
			t.Errorf("Missing of %d, %d, %v: %v %v %v, want %v %v %v", c.welds, c.calls, c.pairs, lost, extra, e, c.lost, c.false, c.e)
		}
	}
}

func TestP4_1Upstream(t *testing.T) {
	welds, _, _ := exampleWelds()
	for _, c := range []struct {
		welds       []int
		r           api.Range
		first, last int
		e           api.Errno
	}{
		{welds, reach(900, 1100), 0, 1, api.OK},
		{welds, reach(1000, 1999), 1, 1, api.OK},
		{welds, reach(999, 2000), 0, 2, api.OK},
		{welds, reach(-top, -1), -1, -1, api.OK},
		{welds, reach(-1, 0), -1, 0, api.OK},
		{welds, reach(top, top), 2, 2, api.OK},
		{nil, reach(0, top), -1, -1, api.OK},
		{[]int{top}, reach(top-1, top), -1, 0, api.OK},
		{make([]int, 41), reach(1, 0), 0, 0, api.ErrSize},
		{[]int{-1}, reach(1, 0), 0, 0, api.ErrArg},
		{[]int{1, 1}, reach(top+1, 0), 0, 0, api.ErrOrder},
		{welds, reach(top+1, 0), 0, 0, api.ErrArg},
		{welds, reach(-top-1, 0), 0, 0, api.ErrArg},
		{welds, reach(0, top+1), 0, 0, api.ErrArg},
		{welds, reach(0, -top-1), 0, 0, api.ErrArg},
		{welds, reach(1, 0), 0, 0, api.ErrOrder},
		{welds, reach(math.MaxInt, math.MinInt), 0, 0, api.ErrArg},
	} {
		first, last, e := place.Upstream(c.welds, c.r)
		if e != c.e || first != c.first || last != c.last {
			t.Errorf("Upstream of %v, %v: %d %d %v, want %d %d %v", c.welds, c.r, first, last, e, c.first, c.last, c.e)
		}
	}
}

// alignings returns problems with few welds and calls, of which many can be a pair.
func alignings(n int, most int, seed uint64) []aligning {
	d := newDice(seed)
	out := make([]aligning, n)
	for i := range out {
		a := &out[i]
		a.welds, a.calls = d.rising(d.IntN(most+1), 1, 12), d.rising(d.IntN(most+1), 0, 12)
		a.c = place.Costs{Lost: d.IntN(12), False: d.IntN(12), Most: d.IntN(25)}
	}
	return out
}

// least tries each alignment of the welds and the calls from i and k on.
func (a aligning) least(i, k int) int {
	if i == len(a.welds) {
		return (len(a.calls) - k) * a.c.False
	}
	best := a.c.Lost + a.least(i+1, k)
	for call := k; call < len(a.calls); call++ {
		if apart := max(a.welds[i]-a.calls[call], a.calls[call]-a.welds[i]); apart <= a.c.Most {
			best = min(best, (call-k)*a.c.False+apart+a.least(i+1, call+1))
		}
	}
	return best
}

func TestP4_6Cheapest(t *testing.T) {
	d := newDice(8)
	for _, a := range alignings(1500, 6, 9) {
		pairs, cost, e := place.Align(a.welds, a.calls, a.c)
		again, f := place.Cost(a.welds, a.calls, a.c, pairs)
		if e != api.OK || f != api.OK || cost != again || cost != a.least(0, 0) {
			t.Fatalf("Align of %+v: %v %d %v, Cost %d %v, least %d", a, pairs, cost, e, again, f, a.least(0, 0))
		}
		prices := must[[][]int](t)(place.Prices(a.welds, a.calls, a.c))
		for i, row := range prices {
			for k, price := range row {
				part := aligning{a.welds[:i], a.calls[:k], a.c}
				if len(prices) != len(a.welds)+1 || len(row) != len(a.calls)+1 || price != part.least(0, 0) {
					t.Fatalf("Prices of %+v: %v", a, prices)
				}
			}
		}
		if floor, e := place.Floor(a.welds, a.calls, a.c, prices); floor != cost || e != api.OK {
			t.Fatalf("Floor of %+v: %d %v, not %d", a, floor, e, cost)
		}
		for range 20 {
			i := d.IntN(len(prices))
			prices[i][d.IntN(len(prices[i]))] += d.from(-3, 3)
			if floor, e := place.Floor(a.welds, a.calls, a.c, prices); floor > cost || e != api.OK && e != api.ErrOrder {
				t.Fatalf("Floor of %+v and %v: %d %v, above %d", a, prices, floor, e, cost)
			}
		}
	}
}

func TestP4_6OneCallLess(t *testing.T) {
	for _, a := range alignings(300, 40, 10) {
		_, cost, e := place.Align(a.welds, a.calls, a.c)
		if e != api.OK {
			t.Fatal(e)
		}
		for i := range a.calls {
			_, less, e := place.Align(a.welds, slices.Delete(slices.Clone(a.calls), i, i+1), a.c)
			if most := max(a.c.Lost, a.c.False); e != api.OK || less-cost > most || cost-less > most {
				t.Fatalf("without the call %d of %+v the cost %d is %d %v", i, a, cost, less, e)
			}
		}
		if _, cost, e := place.Align(a.welds, a.welds, a.c); cost != 0 || e != api.OK {
			t.Fatalf("with calls at all welds of %+v the cost is %d %v", a, cost, e)
		}
	}
}

func TestP4_7NoGap(t *testing.T) {
	for _, a := range alignings(500, 40, 11) {
		pairs, _, e := place.Align(a.welds, a.calls, a.c)
		lost, extra, f := place.Missing(len(a.welds), len(a.calls), pairs)
		if e != api.OK || f != api.OK || !slices.IsSorted(lost) || !slices.IsSorted(extra) {
			t.Fatalf("Missing of %v: %v %v %v %v", pairs, lost, extra, e, f)
		}
		for _, p := range pairs {
			lost, extra = append(lost, p[0]), append(extra, p[1])
		}
		slices.Sort(lost)
		slices.Sort(extra)
		for n, l := range map[*[]int][]int{&a.welds: lost, &a.calls: extra} {
			for i, x := range l {
				if i != x || len(l) != len(*n) {
					t.Fatalf("pairs and Missing of %+v have %v of %v", a, l, *n)
				}
			}
		}
	}
}

func TestP4_7Upstream(t *testing.T) {
	d := newDice(12)
	for range 300 {
		welds := d.rising(d.IntN(12), 0, 20)
		for i := range welds {
			welds[i] += i
		}
		r := d.around(d.from(-5, 200), 30)
		first, last, e := place.Upstream(welds, r)
		if e != api.OK {
			t.Fatal(e)
		}
		for x := r.Lo; x <= r.Hi; x++ {
			upstream := -1
			for i, w := range welds {
				if w <= x {
					upstream = i
				}
			}
			if upstream < first || upstream > last || x == r.Lo && upstream != first || x == r.Hi && upstream != last {
				t.Fatalf("upstream of %d among %v is %d, not from %d to %d", x, welds, upstream, first, last)
			}
		}
	}
}
