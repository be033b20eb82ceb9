package place_test

import (
	"math"
	"slices"
	"testing"

	"wallgauge/api"
	"wallgauge/place"
)

// spoil changes a list, and what is behind its end.
func spoil[T any](l []T) {
	clear(l[:cap(l)])
}

func TestR4Memory(t *testing.T) {
	bounds := append(example(), place.Bound{From: 2, To: 0, Most: -16}, place.Bound{From: 9, To: 9, Most: 9})
	chain, places := []int{0, 2, 77}, []int{0, 10, 15, 77}
	welds, calls, costs := exampleWelds()
	welds, calls = append(welds, 77), append(calls, 77)
	votes := []api.Range{reach(11, 13), reach(0, 10), reach(8, 12), reach(7, 7)}
	pairs := [][2]int{{0, 0}, {2, 1}, {7, 7}}
	before := [][]int{slices.Clone(chain), slices.Clone(places), slices.Clone(welds), slices.Clone(calls)}
	wasBounds, wasVotes, wasPairs := slices.Clone(bounds), slices.Clone(votes), slices.Clone(pairs)

	l := bounds[:4]
	limits, _ := place.Limits(3, l)
	spoil(limits)
	for _, upper := range []bool{true, false} {
		proof, _ := place.Chain(3, l, 2, upper)
		spoil(proof)
	}
	round, _ := place.Clash(3, bounds[:5])
	spoil(round)
	place.CheckChain(3, l, chain[:2])
	place.Fits(3, l, places[:3])
	place.Vote(votes[:3], 1)
	found, _, _ := place.Align(welds[:3], calls[:3], costs)
	spoil(found)
	place.Cost(welds[:3], calls[:3], costs, pairs[:2])
	prices, _ := place.Prices(welds[:3], calls[:3], costs)
	table, _ := place.Prices(welds[:3], calls[:3], costs)
	place.Floor(welds[:3], calls[:3], costs, prices)
	spoil(prices[1])
	spoil(prices[2])
	for i, row := range prices {
		if i != 1 && i != 2 && !slices.Equal(row, table[i]) {
			t.Errorf("row %d became %v", i, row)
		}
	}
	lost, extra, _ := place.Missing(3, 3, pairs[:2])
	spoil(lost)
	if !slices.Equal(extra, []int{2}) {
		t.Errorf("the false calls became %v", extra)
	}
	spoil(extra)
	place.Upstream(welds[:3], reach(0, 5))
	for i, now := range [][]int{chain, places, welds, calls} {
		if !slices.Equal(now, before[i]) {
			t.Errorf("an argument became %v", now)
		}
	}
	if !slices.Equal(bounds, wasBounds) || !slices.Equal(votes, wasVotes) || !slices.Equal(pairs, wasPairs) {
		t.Errorf("the arguments became %v %v %v", bounds, votes, pairs)
	}
}

// All functions end without a panic, whatever the arguments are, and have zero values with an error.
func TestP1AnyArguments(t *testing.T) {
	ints := []int{math.MinInt, -1 << 31, -1, 0, 1, 2, 63, 64, 1 << 31, math.MaxInt}
	var ranges []api.Range
	var bounds []place.Bound
	for _, x := range ints {
		for _, y := range ints {
			ranges = append(ranges, reach(x, y))
			bounds = append(bounds, place.Bound{From: x, To: y, Most: x})
		}
	}
	zero := func(what string, r api.Range, e api.Errno) {
		if e != api.OK && r != (api.Range{}) {
			t.Errorf("%s: %v %v", what, r, e)
		}
	}
	for _, n := range ints {
		place.Forward(n)
		for _, r := range ranges {
			got, e := place.Odometer(n, r)
			zero("Odometer", got, e)
			got, e = place.Calibrate(n, r)
			zero("Calibrate", got, e)
			got, e = place.Vote([]api.Range{r, reach(0, 1)}, n)
			zero("Vote", got, e)
			for _, s := range ranges {
				got, e = place.Passed(n, r, s)
				zero("Passed", got, e)
			}
			if first, last, e := place.Upstream([]int{0, n}, r); e != api.OK && (first != 0 || last != 0) {
				t.Errorf("Upstream: %d %d %v", first, last, e)
			}
			place.Between(n, 1, r)
			place.Between(1, n, r)
			place.Missing(r.Lo, r.Hi, [][2]int{{n, n}})
			place.Align([]int{0, n}, []int{n, 5}, place.Costs{Lost: r.Lo, False: r.Hi, Most: n})
			place.Cost([]int{5}, []int{5}, place.Costs{Lost: 1, False: 1}, [][2]int{{r.Lo, r.Hi}, {n, n}})
			place.Prices([]int{n}, []int{r.Lo, r.Hi}, place.Costs{})
			place.Floor([]int{5}, []int{5}, place.Costs{Lost: 1, False: 1}, [][]int{{n, r.Lo}, {r.Hi, n}})
		}
		for _, b := range bounds {
			l := []place.Bound{b, {From: 1, To: 1, Most: n}}
			place.Limits(n, l)
			place.Chain(2, l, n, n < 5)
			place.CheckChain(2, l, []int{n, b.From})
			place.Clash(2, l)
			place.Fits(2, l, []int{n, b.To})
		}
	}
}
