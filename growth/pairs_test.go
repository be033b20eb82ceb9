package growth_test

import (
	"math"
	"slices"
	"testing"

	"wallgauge/api"
	"wallgauge/growth"
)

func TestP8_1Alone(t *testing.T) {
	for _, c := range []struct {
		first, second int
		pairs         [][2]int
		gone, fresh   []int
	}{
		{0, 0, nil, nil, nil},
		{2, 3, nil, []int{0, 1}, []int{0, 1, 2}},
		{2, 3, [][2]int{{1, 0}}, []int{0}, []int{1, 2}},
		{2, 3, [][2]int{{1, 0}, {0, 2}}, nil, []int{1}},
		{3, 2, [][2]int{{2, 1}, {0, 0}}, []int{1}, nil},
		{1, 24, [][2]int{{0, 23}}, nil, []int{0, 1, 2, 3, 4, 5, 6, 7, 8, 9, 10, 11, 12, 13, 14, 15, 16, 17, 18, 19, 20, 21, 22}},
		{24, 1, [][2]int{{22, 0}}, []int{0, 1, 2, 3, 4, 5, 6, 7, 8, 9, 10, 11, 12, 13, 14, 15, 16, 17, 18, 19, 20, 21, 23}, nil},
	} {
		gone, fresh, e := growth.Alone(c.first, c.second, c.pairs)
		if e != api.OK || !slices.Equal(gone, c.gone) || !slices.Equal(fresh, c.fresh) {
			t.Errorf("Alone of %d, %d and %v: %v %v %v", c.first, c.second, c.pairs, gone, fresh, e)
		}
	}
}

func TestP8_1ErrorsOfAlone(t *testing.T) {
	check := func(first, second int, pairs [][2]int, want api.Errno) {
		t.Helper()
		gone, fresh, e := growth.Alone(first, second, pairs)
		if e != want || e != api.OK && (len(gone) > 0 || len(fresh) > 0) {
			t.Errorf("Alone of %d, %d and %v: %v %v %v, want %v", first, second, pairs, gone, fresh, e, want)
		}
	}
	for _, n := range []int{-1, 25, math.MinInt, math.MaxInt} {
		check(n, 1, [][2]int{{9, 9}}, api.ErrSize)
		check(1, n, [][2]int{{9, 9}}, api.ErrSize)
	}
	check(24, 24, [][2]int{{23, 23}}, api.OK)
	check(0, 0, [][2]int{{0, 0}}, api.ErrArg)
	check(0, 1, [][2]int{{0, 0}}, api.ErrArg)
	check(1, 0, [][2]int{{0, 0}}, api.ErrArg)
	for _, bad := range []int{-1, 4, 24, math.MinInt, math.MaxInt} {
		check(4, 24, [][2]int{{0, 0}, {bad, 1}}, api.ErrArg)
		check(24, 4, [][2]int{{0, 0}, {1, bad}}, api.ErrArg)
		check(4, 4, [][2]int{{0, 0}, {0, bad}}, api.ErrArg)
		check(4, 4, [][2]int{{0, 0}, {bad, 0}}, api.ErrArg)
		check(4, 4, [][2]int{{0, 0}, {0, 1}, {bad, 1}}, api.ErrTwice)
	}
	check(4, 4, [][2]int{{0, 1}, {1, 2}, {0, 3}}, api.ErrTwice)
	check(4, 4, [][2]int{{0, 1}, {1, 2}, {3, 1}}, api.ErrTwice)
	check(4, 4, [][2]int{{0, 1}, {0, 1}}, api.ErrTwice)
	check(4, 4, [][2]int{{0, 1}, {1, 0}}, api.OK)
}

func TestP8_1Chain(t *testing.T) {
	for _, c := range []struct {
		first, second [][2]int
		want          [][3]int
	}{
		{nil, nil, nil},
		{[][2]int{{0, 1}}, nil, nil},
		{nil, [][2]int{{0, 1}}, nil},
		{[][2]int{{0, 1}}, [][2]int{{0, 1}}, nil},
		{[][2]int{{0, 1}}, [][2]int{{1, 2}}, [][3]int{{0, 1, 2}}},
		{[][2]int{{5, 1}, {3, 0}, {23, 23}, {4, 9}}, [][2]int{{23, 0}, {0, 7}, {1, 23}, {8, 8}}, [][3]int{{5, 1, 23}, {3, 0, 7}, {23, 23, 0}}},
	} {
		if got := must[[][3]int](t)(growth.Chain(c.first, c.second)); !slices.Equal(got, c.want) {
			t.Errorf("Chain of %v and %v is %v", c.first, c.second, got)
		}
	}
}

func TestP8_1ErrorsOfChain(t *testing.T) {
	var all [][2]int
	for i := range 24 {
		all = append(all, [2]int{i, 23 - i})
	}
	if got := must[[][3]int](t)(growth.Chain(all, all)); len(got) != 24 {
		t.Errorf("24 pairs: %v", got)
	}
	long, arg, twice := make([][2]int, 25), [][2]int{{0, 0}, {24, 1}}, [][2]int{{0, 0}, {1, 0}}
	for _, c := range []struct {
		first, second [][2]int
		want          api.Errno
	}{
		{long, nil, api.ErrSize}, {nil, long, api.ErrSize}, {long, arg, api.ErrSize}, {arg, long, api.ErrSize},
		{arg, twice, api.ErrArg}, {twice, arg, api.ErrTwice}, {all, arg, api.ErrArg}, {all, twice, api.ErrTwice}, {arg, nil, api.ErrArg}, {nil, twice, api.ErrTwice},
		{[][2]int{{0, 0}, {0, 1}}, nil, api.ErrTwice}, {nil, [][2]int{{0, 0}, {1, 1}, {0, 2}}, api.ErrTwice},
		{[][2]int{{0, 0}, {0, 1}, {24, 0}}, nil, api.ErrTwice}, {[][2]int{{0, 0}, {24, 0}, {0, 1}}, nil, api.ErrArg},
		{[][2]int{{0, 0}, {0, 24}}, nil, api.ErrArg}, {nil, [][2]int{{0, 0}, {0, 24}}, api.ErrArg},
	} {
		if got, e := growth.Chain(c.first, c.second); e != c.want || len(got) > 0 {
			t.Errorf("Chain of %v and %v: %v %v, want %v", c.first, c.second, got, e, c.want)
		}
	}
	for _, bad := range []int{-1, 24, math.MinInt, math.MaxInt} {
		for _, l := range [][][2]int{{{bad, 0}}, {{0, bad}}, {{bad, bad}}, {{1, 1}, {2, bad}}} {
			if got, e := growth.Chain(l, all); e != api.ErrArg || len(got) > 0 {
				t.Errorf("Chain of %v first: %v %v", l, got, e)
			}
			if got, e := growth.Chain(all, l); e != api.ErrArg || len(got) > 0 {
				t.Errorf("Chain of %v second: %v %v", l, got, e)
			}
		}
	}
}

func TestP8_7Chains(t *testing.T) {
	d := newDice(21)
	for range 500 {
		a, b, c := d.from(0, 24), d.from(0, 24), d.from(0, 24)
		first, second := d.pairs(a, b), d.pairs(b, c)
		got := must[[][3]int](t)(growth.Chain(first, second))
		var want [][3]int
		for _, p := range first {
			for n := range c {
				if slices.Contains(second, [2]int{p[1], n}) {
					want = append(want, [3]int{p[0], p[1], n})
				}
			}
		}
		if !slices.Equal(got, want) {
			t.Fatalf("Chain of %v and %v is %v, want %v", first, second, got, want)
		}
		gone, fresh, e := growth.Alone(a, b, first)
		if e != api.OK || !slices.IsSorted(gone) || !slices.IsSorted(fresh) {
			t.Fatalf("Alone of %d, %d and %v: %v %v %v", a, b, first, gone, fresh, e)
		}
		for _, p := range first {
			gone, fresh = append(gone, p[0]), append(fresh, p[1])
		}
		slices.Sort(gone)
		slices.Sort(fresh)
		if !slices.Equal(gone, upTo(a)) || !slices.Equal(fresh, upTo(b)) {
			t.Fatalf("in pairs or Alone, of %d and %d in %v, are %v and %v", a, b, first, gone, fresh)
		}
	}
}

// upTo returns the indices below n.
func upTo(n int) []int {
	out := make([]int, n)
	for i := range out {
		out[i] = i
	}
	return out
}
