package growth_test

import (
	"math"
	"slices"
	"testing"

	"wallgauge/api"
	"wallgauge/dyad"
	"wallgauge/growth"
)

// spoil changes a list, and what is behind its end.
func spoil[T any](l []T) {
	clear(l[:cap(l)])
}

// used are arguments, of which the lists have something behind their ends.
type used struct {
	a, b          []api.Finding
	pairs, second [][2]int
	prices        []int
	rates         []dyad.Span
	edges         []dyad.Num
	growths       []growth.Growth
}

func newUsed() *used {
	return &used{
		a: []api.Finding{at(1000, 0), at(2000, 0), at(7, 7)}, b: []api.Finding{at(1010, 0), at(1990, 0), at(7, 7)},
		pairs: [][2]int{{1, 1}, {0, 0}, {7, 7}}, second: [][2]int{{0, 5}, {7, 7}}, prices: []int{10, 10, 7, 0, 0, 7},
		rates: []dyad.Span{span("3", "4"), span("0", "5"), span("7", "7")}, edges: []dyad.Num{num("1"), num("3"), num("7")},
		growths: lastingAll(9, 5, 7),
	}
}

// same tells whether both are the same. Numbers are compared by their texts.
func (u *used) same(v *used) bool {
	sameGrowth := func(a, b growth.Growth) bool {
		return slices.Equal(texts([]dyad.Span{a.Depth, a.Rate}), texts([]dyad.Span{b.Depth, b.Rate})) && a.Limit.Same(b.Limit)
	}
	return slices.Equal(u.a, v.a) && slices.Equal(u.b, v.b) && slices.Equal(u.pairs, v.pairs) && slices.Equal(u.second, v.second) && slices.Equal(u.prices, v.prices) &&
		slices.Equal(texts(u.rates), texts(v.rates)) && slices.Equal(numbers(u.edges), numbers(v.edges)) && slices.EqualFunc(u.growths, v.growths, sameGrowth)
}

func TestR4Memory(t *testing.T) {
	u := newUsed()
	a, b, pairs, rates := u.a[:2], u.b[:2], u.pairs[:2], u.rates[:2]
	growth.Check(a)
	m, _ := growth.Matched(a, b, usual)
	count := len(m.Pairs) + len(m.First) + len(m.Second)
	spoil(m.Pairs)
	spoil(m.First)
	spoil(m.Second)
	growth.CheckMatch(a, b, usual, pairs)
	growth.Proves(a, b, usual, growth.Match{Pairs: pairs, Cost: 20, First: u.prices[:2], Second: u.prices[3:5]})
	gone, fresh, _ := growth.Alone(3, 3, pairs[:1])
	count += len(gone) + len(fresh)
	spoil(gone)
	spoil(fresh)
	triples, _ := growth.Chain(pairs, u.second[:1])
	count += len(triples)
	spoil(triples)
	grown, _ := growth.Rates(a, b, pairs, 365, 3)
	count += len(grown)
	spoil(grown)
	growth.Quantile(rates, 1, 2)
	bins, _ := growth.Bins(rates, u.edges[:2])
	count += len(bins)
	spoil(bins)
	growth.Soonest(u.growths[:2])
	growth.Next(u.growths[:2], 1, 2)
	if count != 6+4+1+2+3 {
		t.Errorf("there are %d elements of results", count)
	}
	if !u.same(newUsed()) {
		t.Errorf("the arguments became %+v", u)
	}
}

func TestR4PricesOfTheirOwn(t *testing.T) {
	m := must[growth.Match](t)(growth.Matched(earlier(), later(), growth.Rule{Alone: 50}))
	spoil(m.First)
	if !slices.Equal(m.Second, []int{50, 50}) {
		t.Errorf("with other prices of the first run those of the second became %v", m.Second)
	}
}

// arbitrary are ints with all limits of this layer among them.
func arbitrary() []int {
	return []int{math.MinInt, -1<<40 - 1, -1, 0, 1, 2, 23, 24, 25, 360, 361, 719, 720, 1000, 1001, 1 << 10, 36500, 36501, 1 << 20, 1<<20 + 1, 1 << 30, 1<<30 + 1, 1 << 40, math.MaxInt}
}

// ofFindings fails the test if there is no zero value with an error.
func ofFindings(t *testing.T, a, b []api.Finding, r growth.Rule, pairs [][2]int, prices []int, days int) {
	t.Helper()
	if m, e := growth.Matched(a, b, r); e != api.OK && (len(m.Pairs) > 0 || m.Cost != 0 || len(m.First) > 0 || len(m.Second) > 0) {
		t.Errorf("Matched: %+v %v", m, e)
	}
	ofPairs(t, a, b, r, growth.Match{Pairs: pairs, Cost: days, First: prices, Second: prices})
	if l, e := growth.Rates(a, b, pairs, days, days); e != api.OK && len(l) > 0 {
		t.Errorf("Rates: %v %v", texts(l), e)
	}
	if len(a) == 0 || len(b) == 0 {
		return
	}
	if x, e := growth.Cost(a[0], b[0], r); e != api.OK && x != 0 {
		t.Errorf("Cost: %d %v", x, e)
	}
	if s, e := growth.Rate(a[0], b[0], days, days); e != api.OK && s.Text() != "[0,0]" {
		t.Errorf("Rate: %s %v", s.Text(), e)
	}
}

// All functions end without a panic, whatever the arguments are, and have zero values with an error.
func TestP1AnyFindings(t *testing.T) {
	for _, x := range arbitrary() {
		for _, y := range arbitrary() {
			f := []api.Finding{{At: x, Clock: y}, {Clock: x, Long: y, Wide: x}, deep(x, y)}
			r := []growth.Rule{{Far: x, Turn: y, Step: x, Alone: y}, {Far: y, Turn: 360, Step: 1, Alone: x}, usual}
			for n := range 3 {
				ofFindings(t, f[n:], nil, r[n], [][2]int{{x, y}}, []int{x}, y)
				ofFindings(t, f[n:n+1], f[2-n:3-n], r[n], [][2]int{{0, 0}, {x, y}}, []int{y}, x)
				ofFindings(t, f[:n], make([]api.Finding, 24), r[n], [][2]int{{y, 0}, {0, x}}, []int{x, y}, y)
				ofFindings(t, make([]api.Finding, 3), make([]api.Finding, 3), r[n], [][2]int{{0, y}, {x, 1}, {y, x}}, []int{x, 0, y}, x)
			}
			if got, e := growth.Around(x, y); e != api.OK && got != 0 {
				t.Errorf("Around: %d %v", got, e)
			}
			for _, pairs := range [][][2]int{nil, {{x, y}}, {{0, x}, {y, 0}}, {{1, x}, {1, y}}, make([][2]int, 25)} {
				if gone, fresh, e := growth.Alone(x, y, pairs); e != api.OK && (len(gone) > 0 || len(fresh) > 0) {
					t.Errorf("Alone: %v %v %v", gone, fresh, e)
				}
				if l, e := growth.Chain(pairs, [][2]int{{y, x}}); e != api.OK && len(l) > 0 {
					t.Errorf("Chain: %v %v", l, e)
				}
			}
		}
	}
}

func TestP1AnyRates(t *testing.T) {
	spans := []dyad.Span{{}, span("-1", "1"), span("3/8", "3/8"), between(great().Neg(), great()), between(unit(256), great()), span("-9", "-3")}
	limits := []dyad.Num{{}, num("-1"), num("3/8"), great(), great().Neg(), unit(256)}
	for _, x := range arbitrary() {
		for _, y := range arbitrary() {
			for n := range len(spans) + 1 {
				if s, e := growth.Quantile(spans[:n], x, y); e != api.OK && s.Text() != "[0,0]" {
					t.Errorf("Quantile: %s %v", s.Text(), e)
				}
			}
		}
		for _, depth := range spans {
			for _, rate := range spans {
				for _, limit := range limits {
					g := growth.Growth{Depth: depth, Rate: rate, Limit: limit}
					ofGrowths(t, []growth.Growth{{}, g}, x)
				}
			}
		}
	}
	for n := range len(limits) + 1 {
		if l, e := growth.Bins(spans, limits[:n]); e != api.OK && len(l) > 0 {
			t.Errorf("Bins: %v %v", l, e)
		}
	}
}

// ofGrowths fails the test if there is no zero value with an error. There are two growths.
func ofGrowths(t *testing.T, l []growth.Growth, x int) {
	t.Helper()
	if s, e := growth.Later(l[1], x, x); e != api.OK && s.Text() != "[0,0]" {
		t.Errorf("Later: %s %v", s.Text(), e)
	}
	if days, e := growth.Days(l[1]); e != api.OK && days != 0 {
		t.Errorf("Days: %d %v", days, e)
	}
	if at, days, e := growth.Soonest(l); e != api.OK && (at != 0 || days != 0) {
		t.Errorf("Soonest: %d %d %v", at, days, e)
	}
	if days, e := growth.Next(l, x, 1000); e != api.OK && days != 0 {
		t.Errorf("Next: %d %v", days, e)
	}
}
