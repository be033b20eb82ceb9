package dent_test

import (
	"math"
	"slices"
	"testing"

	"wallgauge/api"
	"wallgauge/dent"
	"wallgauge/dyad"
)

func TestP7_1RingsOfExamples(t *testing.T) {
	for _, c := range []struct {
		radii  []int
		k      int
		oval   string
		middle int
	}{
		{[]int{100, 110, 100, 90}, 5, "[0,0]", 100},
		{[]int{100, 110, 100, 110}, 3, "[0,1/8]", 100},
		{[]int{100, 110, 100, 110}, 5, "[3/32,1/8]", 100},          // 40/420
		{[]int{5, 6, 7, 8, 9, 1}, 10, "[623/1024,39/64]", 6},       // 14/23, of the diameters 13, 15 and 8
		{[]int{3, 1, 3, 1}, 0, "[1,1]", 1},                         // of two middle radii the lesser one
		{[]int{1, 1 << 21, 1, 1 << 21}, 1, "[3/2,2]", 1},           // the greatest radii
		{[]int{1 << 21, 1 << 21, 1, 1}, 256, "[0,0]", 1},           // diameters, not radii
		{[]int{90, 100, 100, 100, 100, 110}, 4, "[1/16,1/8]", 100}, // 40/400, since 90 is opposite 100, and 110 too
	} {
		if got := must[dyad.Span](t)(dent.Oval(c.radii, c.k)); got.Text() != c.oval {
			t.Errorf("Oval of %v is %s, want %s", c.radii, got.Text(), c.oval)
		}
		if got := must[int](t)(dent.Middle(c.radii)); got != c.middle {
			t.Errorf("Middle of %v is %d, want %d", c.radii, got, c.middle)
		}
	}
	dents := must[[][2]int](t)(dent.Dented([]int{100, 110, 100, 90}, 10))
	if !slices.Equal(dents, [][2]int{{3, 10}}) {
		t.Errorf("Dented %v", dents)
	}
	dents = must[[][2]int](t)(dent.Dented([]int{97, 110, 98, 90, 99, 120, 100, 100}, 1))
	if !slices.Equal(dents, [][2]int{{0, 2}, {2, 1}, {3, 9}}) {
		t.Errorf("Dented %v", dents)
	}
}

func TestP7_1OvalOfFractions(t *testing.T) {
	d := newDice(1)
	for range 300 {
		radii, k := d.ring(), d.from(0, 40)
		most, least := 0, math.MaxInt
		for i := range radii {
			across := radii[i] + radii[(i+len(radii)/2)%len(radii)]
			most, least = max(most, across), min(least, across)
		}
		got := must[dyad.Span](t)(dent.Oval(radii, k))
		if !around(got, frac(2*most-2*least, most+least), k) {
			t.Errorf("Oval of %v with %d bits is %s", radii, k, got.Text())
		}
	}
	checkBits(t, "Oval", func(k int) (dyad.Span, api.Errno) { return dent.Oval([]int{100, 110, 100, 110}, k) })
}

func TestP7_1MiddleByCounting(t *testing.T) {
	d := newDice(2)
	for range 300 {
		radii := d.ring()
		middle := must[int](t)(dent.Middle(radii))
		below, upTo := 0, 0
		for _, r := range radii {
			if r < middle {
				below++
			}
			if r <= middle {
				upTo++
			}
		}
		if at := (len(radii) - 1) / 2; below > at || upTo <= at {
			t.Errorf("Middle of %v is %d", radii, middle)
		}
	}
}

func TestP7_1DentedByMiddle(t *testing.T) {
	d := newDice(3)
	for range 300 {
		radii := d.ring()
		middle := must[int](t)(dent.Middle(radii))
		least := d.from(1, max(middle, 2))
		if d.IntN(2) == 0 {
			least = max(middle-radii[d.IntN(len(radii))], 1) // an arm that is dented by exactly this
		}
		var want [][2]int
		for i, r := range radii {
			if r <= middle-least {
				want = append(want, [2]int{i, middle - r})
			}
		}
		if got := must[[][2]int](t)(dent.Dented(radii, least)); !slices.Equal(got, want) {
			t.Errorf("Dented of %v by %d is %v, want %v", radii, least, got, want)
		}
	}
	if got := must[[][2]int](t)(dent.Dented([]int{1, 2, 3, 4}, math.MaxInt)); len(got) != 0 {
		t.Errorf("Dented by more than any radius: %v", got)
	}
}

func TestP7_1ErrorsOfRings(t *testing.T) {
	check := func(radii []int, least int, ring, dented api.Errno) {
		t.Helper()
		if s, e := dent.Oval(radii, 3); e != ring || e != api.OK && s.Text() != "[0,0]" {
			t.Errorf("Oval of %v: %s %v, want %v", radii, s.Text(), e, ring)
		}
		if x, e := dent.Middle(radii); e != ring || e != api.OK && x != 0 {
			t.Errorf("Middle of %v: %d %v, want %v", radii, x, e, ring)
		}
		if l, e := dent.Dented(radii, least); e != dented || e != api.OK && len(l) > 0 {
			t.Errorf("Dented of %v by %d: %v %v, want %v", radii, least, l, e, dented)
		}
	}
	for n := range 70 {
		want := api.ErrSize
		if n >= 4 && n <= 64 && n%2 == 0 {
			want = api.OK
		}
		check(with(n+1, 7, 0, 7)[:n], 1, want, want)
		if n > 0 && want != api.OK {
			check(with(n, 7, 0, 0), 0, want, want)
		}
	}
	for at := range 4 {
		for _, bad := range []int{0, -1, 1<<21 + 1, math.MinInt, math.MaxInt} {
			check(with(4, 9, at, bad), 1, api.ErrArg, api.ErrArg)
		}
		for _, good := range []int{1, 1 << 21} {
			check(with(4, 9, at, good), 1, api.OK, api.OK)
		}
	}
	for _, bad := range []int{0, -1, math.MinInt} {
		check([]int{4, 9, 9, 9}, bad, api.OK, api.ErrArg)
	}
	check(nil, 1, api.ErrSize, api.ErrSize)
}

func TestP7_2TurnedCalliper(t *testing.T) {
	d := newDice(4)
	for range 100 {
		radii := d.ring()
		by, least := d.IntN(len(radii)), d.from(1, 100)
		turned := slices.Concat(radii[by:], radii[:by])
		a, b := must[dyad.Span](t)(dent.Oval(radii, 20)), must[dyad.Span](t)(dent.Oval(turned, 20))
		x, y := must[int](t)(dent.Middle(radii)), must[int](t)(dent.Middle(turned))
		if a.Text() != b.Text() || x != y {
			t.Errorf("%v has %s and %d, turned by %d %s and %d", radii, a.Text(), x, by, b.Text(), y)
		}
		want := must[[][2]int](t)(dent.Dented(radii, least))
		got := must[[][2]int](t)(dent.Dented(turned, least))
		for i, hit := range got {
			got[i][0] = (hit[0] + by) % len(radii)
		}
		slices.SortFunc(got, func(a, b [2]int) int { return a[0] - b[0] })
		if !slices.Equal(got, want) {
			t.Errorf("%v is Dented %v, turned by %d %v", radii, want, by, got)
		}
	}
}

func TestP7_2MultipliedRadii(t *testing.T) {
	d := newDice(5)
	for range 100 {
		radii := d.ints(2*d.from(2, 32), 1, 1<<11)
		by := d.from(1, 1<<10)
		var multiplied []int
		for _, r := range radii {
			multiplied = append(multiplied, by*r)
		}
		a, b := must[dyad.Span](t)(dent.Oval(radii, 30)), must[dyad.Span](t)(dent.Oval(multiplied, 30))
		if a.Text() != b.Text() {
			t.Errorf("%v has %s, multiplied by %d %s", radii, a.Text(), by, b.Text())
		}
	}
}

func TestP7_2EqualDiameters(t *testing.T) {
	d := newDice(6)
	for range 100 {
		half := d.ints(d.from(2, 32), 1, 1<<20-1)
		radii := slices.Clone(half)
		for _, r := range half {
			radii = append(radii, 1<<20-r)
		}
		if got := must[dyad.Span](t)(dent.Oval(radii, d.from(0, 256))); got.Text() != "[0,0]" {
			t.Errorf("%v, of equal diameters, has %s", radii, got.Text())
		}
	}
}
