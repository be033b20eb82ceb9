package echo_test

import (
	"math"
	"slices"
	"testing"

	"wallgauge/api"
	"wallgauge/dyad"
	"wallgauge/echo"
)

// badEnvelopes returns envelopes with their errors.
func badEnvelopes() []struct {
	envelope []dyad.Num
	want     api.Errno
} {
	return []struct {
		envelope []dyad.Num
		want     api.Errno
	}{
		{nil, api.ErrSize}, {[]dyad.Num{}, api.ErrSize}, {make([]dyad.Num, 257), api.ErrSize}, {with(257, 0, num("-1")), api.ErrSize},
		{nums("-1"), api.ErrArg}, {nums("5 -1/1024"), api.ErrArg}, {nums("-1 5 5"), api.ErrArg}, {with(256, 255, unit(256).Neg()), api.ErrArg},
	}
}

func TestP6_1EnvelopeErrors(t *testing.T) {
	for _, c := range badEnvelopes() {
		for _, part := range [][2]int{{0, 1}, {-1, 1}, {1, 1}, {0, 300}} {
			if at, e := echo.First(c.envelope, num("9"), part[0], part[1]); at != 0 || e != c.want {
				t.Errorf("First of %v: %d %v, want %v", c.envelope, at, e, c.want)
			}
			if peak, e := echo.Peak(c.envelope, part[0], part[1]); !peak.Size.Zero() || peak.At != 0 || e != c.want {
				t.Errorf("Peak of %v: %v %v, want %v", c.envelope, peak, e, c.want)
			}
		}
		for _, apart := range []int{-1, 0, 1} {
			if l, e := echo.Arrivals(c.envelope, num("0"), apart); len(l) > 0 || e != c.want {
				t.Errorf("Arrivals of %v: %v %v, want %v", c.envelope, l, e, c.want)
			}
		}
	}
}

func TestP6_1PartErrors(t *testing.T) {
	envelope := nums("5 6 7 8")
	for _, part := range [][2]int{{-1, 2}, {math.MinInt, 2}, {2, 2}, {3, 2}, {0, 0}, {4, 4}, {0, 5}, {3, math.MaxInt}, {4, 5}, {math.MaxInt, math.MinInt}, {-2, -1}, {-1, 9}} {
		if at, e := echo.First(envelope, num("99"), part[0], part[1]); at != 0 || e != api.ErrOrder {
			t.Errorf("First of the part %v: %d %v", part, at, e)
		}
		if peak, e := echo.Peak(envelope, part[0], part[1]); !peak.Size.Zero() || peak.At != 0 || e != api.ErrOrder {
			t.Errorf("Peak of the part %v: %v %v", part, peak, e)
		}
	}
}

func TestP6_1First(t *testing.T) {
	envelope := nums("0 5 6 0 5 11/2")
	for _, c := range []struct {
		level    string
		from, to int
		want     int
		err      api.Errno
	}{
		{"5", 0, 6, 1, 0}, {"5", 2, 6, 2, 0}, {"5", 3, 6, 4, 0}, {"6", 0, 6, 2, 0}, {"6", 3, 6, 0, api.ErrDark}, {"11/2", 3, 6, 5, 0}, {"11/2", 0, 6, 2, 0}, {"5", 0, 1, 0, api.ErrDark}, {"5", 3, 4, 0, api.ErrDark}, {"5", 4, 5, 4, 0}, {"5", 5, 6, 5, 0},
		{"0", 0, 6, 0, 0}, {"0", 3, 4, 3, 0}, {"-7", 2, 6, 2, 0}, {"1/1024", 0, 6, 1, 0}, {"6145/1024", 0, 6, 0, api.ErrDark}, {"5", 0, 2, 1, 0}, {"6", 0, 2, 0, api.ErrDark},
	} {
		if at, e := echo.First(envelope, num(c.level), c.from, c.to); at != c.want || e != c.err {
			t.Errorf("First of the level %s from %d to %d: %d %v, want %d %v", c.level, c.from, c.to, at, e, c.want, c.err)
		}
	}
	if at, e := echo.First(with(256, 255, num("1")), num("1"), 0, 256); at != 255 || e != api.OK {
		t.Errorf("First of the longest envelope: %d %v", at, e)
	}
}

func TestP6_1Peak(t *testing.T) {
	envelope := nums("0 5 6 0 6 11/2")
	for _, c := range []struct {
		from, to int
		size     string
		at       int
	}{
		{0, 6, "6", 2}, {3, 6, "6", 4}, {5, 6, "11/2", 5}, {0, 1, "0", 0}, {3, 4, "0", 3}, {0, 2, "5", 1}, {1, 2, "5", 1}, {2, 6, "6", 2}, {0, 3, "6", 2},
	} {
		if peak, e := echo.Peak(envelope, c.from, c.to); peak.Size.Text() != c.size || peak.At != c.at || e != api.OK {
			t.Errorf("Peak from %d to %d: %s at %d %v, want %s at %d", c.from, c.to, peak.Size.Text(), peak.At, e, c.size, c.at)
		}
	}
	if peak, e := echo.Peak(make([]dyad.Num, 256), 7, 256); !peak.Size.Zero() || peak.At != 7 || e != api.OK {
		t.Errorf("Peak of zeros: %v %v", peak, e)
	}
}

func TestP6_1Arrivals(t *testing.T) {
	for _, c := range []struct {
		envelope, level string
		apart           int
		want            []int
	}{
		{"0 5 6 0 5 5", "5", 3, []int{1, 4}}, {"0 5 6 0 5 5", "5", 1, []int{1, 2, 4, 5}}, {"0 5 6 0 5 5", "5", 2, []int{1, 4}}, {"0 5 6 0 5 5", "5", 4, []int{1, 5}}, {"0 5 6 0 5 5", "5", 5, []int{1}}, {"0 5 6 0 5 5", "6", 1, []int{2}}, {"0 5 6 0 5 5", "13/2", 1, nil},
		{"0 5 6 0 5 5", "0", 1, []int{0, 1, 2, 3, 4, 5}}, {"0 5 6 0 5 5", "-1", 3, []int{0, 3}}, {"0 5 6 0 5 5", "5", 6, []int{1}}, {"0 5 6 0 5 5", "5", math.MaxInt, []int{1}}, {"5 0 0 0 0 5", "5", 5, []int{0, 5}}, {"5 0 0 0 0 5", "5", 6, []int{0}}, {"7", "7", 1, []int{0}}, {"6", "7", 1, nil}, {"0 0 0 9", "1", math.MaxInt, []int{3}},
	} {
		if l, e := echo.Arrivals(nums(c.envelope), num(c.level), c.apart); !slices.Equal(l, c.want) || e != api.OK {
			t.Errorf("Arrivals of %s with %s and %d: %v %v, want %v", c.envelope, c.level, c.apart, l, e, c.want)
		}
	}
}

func TestP6_1ArrivalsErrors(t *testing.T) {
	for _, apart := range []int{0, -1, math.MinInt} {
		// An envelope of 17 echoes would have too many.
		if l, e := echo.Arrivals(make([]dyad.Num, 17), num("0"), apart); len(l) > 0 || e != api.ErrArg {
			t.Errorf("Arrivals with %d: %v %v", apart, l, e)
		}
	}
	for _, c := range []struct {
		n, apart int
		want     api.Errno
	}{
		{16, 1, api.OK}, {17, 1, api.ErrFull}, {256, 1, api.ErrFull}, {256, 16, api.OK}, {256, 15, api.ErrFull}, {241, 15, api.ErrFull}, {240, 15, api.OK},
	} {
		l, e := echo.Arrivals(make([]dyad.Num, c.n), num("0"), c.apart)
		if e != c.want || e == api.OK && len(l) != 16 || e != api.OK && len(l) > 0 {
			t.Errorf("Arrivals of %d with %d: %v %v, want %v", c.n, c.apart, l, e, c.want)
		}
	}
	sixteen := slices.Concat(make([]dyad.Num, 16), nums("-1"))
	if l, e := echo.Arrivals(sixteen, num("0"), 1); len(l) > 0 || e != api.ErrArg {
		t.Errorf("Arrivals of a bad envelope: %v %v", l, e)
	}
}

// slowArrivals looks at each sample alone, whether one ahead of it is too near.
func slowArrivals(envelope []dyad.Num, level dyad.Num, apart int) []int {
	var out []int
	for i, x := range envelope {
		near := slices.ContainsFunc(out, func(at int) bool { return i-at < apart })
		if x.Cmp(level) >= 0 && !near {
			out = append(out, i)
		}
	}
	return out
}

func TestP6_3Arrivals(t *testing.T) {
	d := newDice(5)
	full := 0
	for range 500 {
		envelope, level, apart := d.envelope(d.from(1, 60)), d.num(3, 1), d.from(1, 9)
		l, e := echo.Arrivals(envelope, level, apart)
		want := slowArrivals(envelope, level, apart)
		if len(want) > 16 {
			full++
			if len(l) > 0 || e != api.ErrFull {
				t.Fatalf("Arrivals of %d echoes: %v %v", len(want), l, e)
			}
			continue
		}
		if !slices.Equal(l, want) || e != api.OK {
			t.Fatalf("Arrivals with %s and %d: %v %v, want %v", level.Text(), apart, l, e, want)
		}
		for i, x := range envelope {
			one := func(at int) bool { return at <= i && i-at < apart }
			if x.Cmp(level) >= 0 && !slices.ContainsFunc(l, one) {
				t.Fatalf("the sample %d stands behind none of %v", i, l)
			}
		}
		for i := 1; i < len(l); i++ {
			if l[i]-l[i-1] < apart {
				t.Fatalf("Arrivals with %d: %v", apart, l)
			}
		}
	}
	if full < 10 {
		t.Errorf("only %d blocks had too many echoes", full)
	}
}

func TestP6_3Levels(t *testing.T) {
	d := newDice(6)
	for range 300 {
		envelope, level := d.envelope(d.from(1, 40)), d.num(3, 1)
		higher, apart := level.Add(d.num(2, 1)), d.from(4, 9)
		from := d.IntN(len(envelope))
		at, e := echo.First(envelope, level, from, len(envelope))
		above, f := echo.First(envelope, higher, from, len(envelope))
		if e != api.OK && f == api.OK || f == api.OK && above < at {
			t.Fatalf("First of %s: %d %v, of %s: %d %v", level.Text(), at, e, higher.Text(), above, f)
		}
		if f == api.OK && envelope[above].Cmp(higher) < 0 || e == api.OK && envelope[at].Cmp(level) < 0 {
			t.Fatalf("First of %s and %s: %d and %d", level.Text(), higher.Text(), at, above)
		}
		low := must[[]int](t)(echo.Arrivals(envelope, level, apart))
		high := must[[]int](t)(echo.Arrivals(envelope, higher, apart))
		if len(high) > 0 && (len(low) == 0 || high[0] < low[0]) {
			t.Fatalf("Arrivals of %s: %v, of %s: %v", level.Text(), low, higher.Text(), high)
		}
		peak := must[echo.Beam](t)(echo.Peak(envelope, from, len(envelope)))
		if first := must[int](t)(echo.First(envelope, peak.Size, from, len(envelope))); first != peak.At {
			t.Fatalf("Peak at %d, First of its Size at %d", peak.At, first)
		}
		if _, e := echo.First(envelope, peak.Size.Add(unit(9)), from, len(envelope)); e != api.ErrDark {
			t.Fatalf("First above the Peak: %v", e)
		}
	}
}
