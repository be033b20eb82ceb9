package growth_test

import (
	"math"
	"math/big"
	"testing"

	"wallgauge/api"
	"wallgauge/dyad"
	"wallgauge/growth"
)

// grows returns a growth.
func grows(depth, rate dyad.Span, limit string) growth.Growth {
	return growth.Growth{Depth: depth, Rate: rate, Limit: num(limit)}
}

// badGrowths are growths with the error ErrArg.
func badGrowths() []growth.Growth {
	one := span("1", "1")
	return []growth.Growth{
		grows(span("-1", "1"), one, "9"), grows(one, span("-1", "1"), "9"), grows(one, one, "-1"),
		grows(span("-9", "-9"), one, "9"), grows(one, span("-9", "-9"), "9"), grows(span("0", "0"), one, "-1/1024"),
		grows(between(unit(256).Neg(), num("0")), one, "9"), grows(one, between(great().Neg(), great()), "0"),
	}
}

// growth returns a growth that does not pass its limit at once.
func (d dice) growth() growth.Growth {
	g := growth.Growth{Depth: d.span(), Rate: d.span()}
	g.Limit = g.Depth.Hi().Add(d.number())
	if d.IntN(4) == 0 {
		// So the limit is reached just at the end of a day.
		g.Rate = g.Rate.Mul(span("365", "365"))
		g.Limit = g.Depth.Hi().Add(g.Rate.Hi().Mul(dyad.Int(d.Int64N(40000))))
		g.Rate = g.Rate.Mul(span("365", "365"))
	}
	return g
}

// after returns the depth after some days.
func after(depth, rate dyad.Num, days int) *big.Rat {
	return sum(rat(depth), product(rat(rate), frac(days, 365)))
}

func TestP8_1Later(t *testing.T) {
	for _, c := range []struct {
		depth, rate dyad.Span
		days, k     int
		want        string
	}{
		{span("1", "2"), span("365", "730"), 3, 0, "[4,8]"},
		{span("1", "2"), span("365", "730"), 0, 0, "[1,2]"},
		{span("1/8", "1/4"), span("1", "1"), 0, 0, "[1/8,1/4]"}, // the depth is not rounded
		{span("1/8", "1/4"), span("1", "2"), 365, 0, "[9/8,9/4]"},
		{span("0", "0"), span("1", "1"), 1, 3, "[0,1/8]"},
		{span("0", "0"), span("1", "1"), 36500, 3, "[100,100]"},
		{span("1/8", "1/4"), span("0", "0"), 36500, 3, "[1/8,1/4]"},
	} {
		g := grows(c.depth, c.rate, "0") // below which the depth need not be
		if got := must[dyad.Span](t)(growth.Later(g, c.days, c.k)); got.Text() != c.want {
			t.Errorf("Later of %s and %s in %d days is %s, want %s", c.depth.Text(), c.rate.Text(), c.days, got.Text(), c.want)
		}
	}
	d := newDice(41)
	for range 1000 {
		g, days, k := d.growth(), d.from(0, 36500), d.from(0, 60)
		lo := sum(rat(g.Depth.Lo()), floor(product(rat(g.Rate.Lo()), frac(days, 365)), k))
		hi := sum(rat(g.Depth.Hi()), ceil(product(rat(g.Rate.Hi()), frac(days, 365)), k))
		if got := must[dyad.Span](t)(growth.Later(g, days, k)); !sameEnds(got, lo, hi) {
			t.Fatalf("Later of %s and %s in %d days is %s, want %v to %v", g.Depth.Text(), g.Rate.Text(), days, got.Text(), lo, hi)
		}
	}
	checkBits(t, "Later", func(k int) (dyad.Span, api.Errno) {
		return growth.Later(grows(span("0", "0"), span("1", "1"), "0"), 1, k)
	})
}

func TestP8_1Days(t *testing.T) {
	for _, c := range []struct {
		depth, rate dyad.Span
		limit       string
		want        int
	}{
		{span("900", "1000"), span("0", "365"), "2000", 1000},
		{span("900", "1000"), span("365", "365"), "1000", 0},
		{span("900", "1000"), span("0", "365"), "1001", 1},
		{span("900", "1000"), span("0", "365"), "2001/2", 0},
		{span("900", "1000"), span("0", "364"), "2000", 1002}, // 1002.7
		{span("900", "1000"), span("0", "0"), "1000", 36500},  // what does not grow
		{span("0", "0"), span("0", "365"), "36500", 36500},
		{span("0", "0"), span("0", "365"), "36501", 36500}, // no more than MaxDays
		{span("0", "0"), span("0", "365"), "36499", 36499},
		{span("0", "0"), span("0", "365"), "72999/2", 36499},
		{span("0", "0"), between(num("0"), great()), "1", 0},
		{span("0", "0"), between(num("0"), unit(256)), "1/1024", 36500},
		{span("0", "0"), span("0", "0"), "0", 36500},
		{span("0", "0"), span("0", "1/8"), "0", 0},
	} {
		if got := must[int](t)(growth.Days(grows(c.depth, c.rate, c.limit))); got != c.want {
			t.Errorf("Days of %s, %s and %s are %d, want %d", c.depth.Text(), c.rate.Text(), c.limit, got, c.want)
		}
	}
	// The least bit of the limit, and the greatest depth, count.
	g := growth.Growth{Depth: between(num("0"), great()), Rate: span("365", "365"), Limit: great().Add(num("7"))}
	if got := must[int](t)(growth.Days(g)); got != 7 {
		t.Errorf("Days of a great depth are %d", got)
	}
	g.Limit = g.Limit.Sub(unit(256))
	if got := must[int](t)(growth.Days(g)); got != 6 {
		t.Errorf("Days of a great depth, and a bit less, are %d", got)
	}
}

func TestP8_6Days(t *testing.T) {
	d := newDice(42)
	for range 2000 {
		g := d.growth()
		days := must[int](t)(growth.Days(g))
		if days < 0 || days > 36500 {
			t.Fatalf("Days of %s, %s and %s are %d", g.Depth.Text(), g.Rate.Text(), g.Limit.Text(), days)
		}
		limit := rat(g.Limit)
		for range 3 {
			depth, rate := d.inside(g.Depth), d.inside(g.Rate)
			for _, day := range []int{days, d.from(0, days)} {
				if after(depth, rate, day).Cmp(limit) > 0 {
					t.Fatalf("Days of %s, %s and %s are %d, but %s and %s pass on day %d", g.Depth.Text(), g.Rate.Text(), g.Limit.Text(), days, depth.Text(), rate.Text(), day)
				}
			}
		}
		if days < 36500 && after(g.Depth.Hi(), g.Rate.Hi(), days+1).Cmp(limit) <= 0 {
			t.Fatalf("Days of %s, %s and %s are %d, but they do not pass a day later", g.Depth.Text(), g.Rate.Text(), g.Limit.Text(), days)
		}
	}
}

func TestP8_6MoreDays(t *testing.T) {
	d := newDice(43)
	for range 1000 {
		g := d.growth()
		days := must[int](t)(growth.Days(g))
		higher, narrower := g, g
		higher.Limit = g.Limit.Add(d.number())
		x, y := d.inside(g.Depth), d.inside(g.Rate)
		narrower.Depth, narrower.Rate = between(g.Depth.Lo(), x), between(y, g.Rate.Hi())
		if d.IntN(2) == 0 {
			narrower.Depth, narrower.Rate = between(x, g.Depth.Hi()), between(g.Rate.Lo(), y)
		}
		a, b := must[int](t)(growth.Days(higher)), must[int](t)(growth.Days(narrower))
		if a < days || b < days {
			t.Fatalf("Days of %+v are %d, with a higher limit %d, with narrower spans %d", g, days, a, b)
		}
	}
}

func TestP8_1ErrorsOfDates(t *testing.T) {
	for _, g := range badGrowths() {
		for _, days := range []int{0, -1} {
			if got, e := growth.Later(g, days, 3); e != api.ErrArg || got.Text() != "[0,0]" {
				t.Errorf("Later of %s, %s and %s: %s %v", g.Depth.Text(), g.Rate.Text(), g.Limit.Text(), got.Text(), e)
			}
		}
		if got, e := growth.Days(g); e != api.ErrArg || got != 0 {
			t.Errorf("Days of %s, %s and %s: %d %v", g.Depth.Text(), g.Rate.Text(), g.Limit.Text(), got, e)
		}
	}
	sound := grows(span("0", "1"), span("0", "1"), "1")
	for _, days := range []int{-1, 36501, math.MinInt, math.MaxInt} {
		if got, e := growth.Later(sound, days, 3); e != api.ErrArg || got.Text() != "[0,0]" {
			t.Errorf("Later in %d days: %s %v", days, got.Text(), e)
		}
	}
	for _, limit := range []dyad.Num{num("0"), num("1/2"), num("1").Sub(unit(256))} {
		sound.Limit = limit
		if got, e := growth.Days(sound); e != api.ErrNone || got != 0 {
			t.Errorf("Days with the limit %s: %d %v", limit.Text(), got, e)
		}
	}
}

// lasting returns a growth that passes its limit just behind some days.
func lasting(days int) growth.Growth {
	return growth.Growth{Depth: span("0", "0"), Rate: span("0", "365"), Limit: dyad.Int(int64(days))}
}

// lastingAll returns such growths.
func lastingAll(days ...int) []growth.Growth {
	var out []growth.Growth
	for _, x := range days {
		out = append(out, lasting(x))
	}
	return out
}

func TestP8_1Soonest(t *testing.T) {
	for _, c := range []struct {
		l         []growth.Growth
		at, least int
	}{
		{lastingAll(1000), 0, 1000},
		{lastingAll(7, 5, 6), 1, 5},
		{lastingAll(7, 5, 5, 7, 5), 1, 5}, // of equal ones the first
		{lastingAll(40000, 50000), 0, 36500},
		{lastingAll(40000, 36500), 0, 36500},
		{lastingAll(40000, 36499), 1, 36499},
		{lastingAll(3, 2, 1, 0), 3, 0},
		{make([]growth.Growth, 24), 0, 36500},
	} {
		at, least, e := growth.Soonest(c.l)
		if e != api.OK || at != c.at || least != c.least {
			t.Errorf("Soonest of %d growths: %d %d %v, want %d %d", len(c.l), at, least, e, c.at, c.least)
		}
	}
}

func TestP8_1Next(t *testing.T) {
	for _, c := range []struct {
		l              []growth.Growth
		part, of, want int
	}{
		{lastingAll(1000), 1, 2, 500},
		{lastingAll(1000, 999), 1, 2, 499},
		{lastingAll(1000), 0, 2, 0},
		{lastingAll(1000), 2, 2, 1000},
		{lastingAll(1000), 1, 3, 333},
		{lastingAll(1000), 2, 3, 666},
		{lastingAll(0), 1000, 1000, 0},
		{lastingAll(50000), 999, 1000, 36463}, // 36463.5
		{lastingAll(50000), 1000, 1000, 36500},
	} {
		if got := must[int](t)(growth.Next(c.l, c.part, c.of)); got != c.want {
			t.Errorf("Next for %d of %d is %d, want %d", c.part, c.of, got, c.want)
		}
	}
}

func TestP8_6Soonest(t *testing.T) {
	d := newDice(44)
	for range 300 {
		l := make([]growth.Growth, d.from(1, 24))
		for i := range l {
			l[i] = d.growth()
		}
		at, least, e := growth.Soonest(l)
		if e != api.OK || must[int](t)(growth.Days(l[at])) != least {
			t.Fatalf("Soonest: %d %d %v", at, least, e)
		}
		for i, g := range l {
			days := must[int](t)(growth.Days(g))
			if days < least || days == least && i < at {
				t.Fatalf("Soonest: %d with %d days, but %d has %d", at, least, i, days)
			}
			if after(d.inside(g.Depth), d.inside(g.Rate), least).Cmp(rat(g.Limit)) > 0 {
				t.Fatalf("Soonest: %d days, but %d passes", least, i)
			}
		}
		part, of := d.part()
		next := must[int](t)(growth.Next(l, part, of))
		if next > least || next*of > least*part || (next+1)*of <= least*part {
			t.Fatalf("Next for %d of %d is %d, with %d days", part, of, next, least)
		}
	}
}

func TestP8_1ErrorsOfLists(t *testing.T) {
	check := func(l []growth.Growth, part, of int, soonest, next api.Errno) {
		t.Helper()
		at, days, e := growth.Soonest(l)
		if e != soonest || e != api.OK && (at != 0 || days != 0) {
			t.Errorf("Soonest of %d growths: %d %d %v, want %v", len(l), at, days, e, soonest)
		}
		if got, e := growth.Next(l, part, of); e != next || e != api.OK && got != 0 {
			t.Errorf("Next of %d growths for %d of %d: %d %v, want %v", len(l), part, of, got, e, next)
		}
	}
	passed := grows(span("0", "2"), span("0", "0"), "1")
	for _, part := range []int{1, -1} {
		check(nil, part, 1, api.ErrSize, api.ErrSize)
		check(make([]growth.Growth, 25), part, 1, api.ErrSize, api.ErrSize)
		check(with(25, lasting(1), 3, passed), part, 1, api.ErrSize, api.ErrSize)
		check(with(24, lasting(1), 23, passed), part, 1, api.ErrNone, api.ErrNone)
		for _, bad := range badGrowths() {
			check([]growth.Growth{lasting(0), passed, bad}, part, 1, api.ErrNone, api.ErrNone)
			check([]growth.Growth{lasting(0), bad, passed}, part, 1, api.ErrArg, api.ErrArg)
		}
	}
	check(make([]growth.Growth, 24), 1000, 1000, api.OK, api.OK)
	for _, of := range []int{0, -1, 1001, math.MinInt, math.MaxInt} {
		check(lastingAll(5), 0, of, api.OK, api.ErrArg)
	}
	for _, part := range []int{-1, 6, math.MinInt, math.MaxInt} {
		check(lastingAll(5), part, 5, api.OK, api.ErrArg)
	}
}
