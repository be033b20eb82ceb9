package place_test

import (
	"math"
	"math/big"
	"slices"
	"testing"

	"wallgauge/api"
	"wallgauge/place"
)

const top = api.MaxPlace

// told is a range and the error that belongs to it.
type told struct {
	r api.Range
	e api.Errno
}

func ok(lo, hi int) told       { return told{api.Range{Lo: lo, Hi: hi}, api.OK} }
func bad(e api.Errno) told     { return told{api.Range{}, e} }
func reach(l, h int) api.Range { return api.Range{Lo: l, Hi: h} }

func TestP4_1Forward(t *testing.T) {
	for _, events := range []int{1, 2, 3, 64} {
		l := must[[]place.Bound](t)(place.Forward(events))
		if len(l) != events-1 {
			t.Fatalf("Forward of %d: %+v", events, l)
		}
		for i, b := range l {
			if b != (place.Bound{From: i + 1, To: i}) {
				t.Errorf("Forward of %d: %d is %+v", events, i, b)
			}
		}
	}
	for _, events := range []int{0, -1, 65, math.MinInt, math.MaxInt} {
		if l, e := place.Forward(events); e != api.ErrSize || len(l) > 0 {
			t.Errorf("Forward of %d: %+v %v", events, l, e)
		}
	}
}

func TestP4_1Between(t *testing.T) {
	for _, c := range []struct {
		from, to int
		distance api.Range
		e        api.Errno
	}{
		{0, 1, reach(8, 10), api.OK},
		{63, 0, reach(-top, top), api.OK},
		{5, 5, reach(3, 3), api.OK},
		{2, 1, reach(-4, -4), api.OK},
		{-1, 0, reach(0, 1), api.ErrArg},
		{64, 0, reach(0, 1), api.ErrArg},
		{0, -1, reach(2, 1), api.ErrArg},
		{0, 64, reach(2, 1), api.ErrArg},
		{0, 1, reach(-top-1, 0), api.ErrArg},
		{0, 1, reach(0, top+1), api.ErrArg},
		{0, 1, reach(top+1, 0), api.ErrArg},
		{0, 1, reach(0, -top-1), api.ErrArg},
		{0, 1, reach(math.MaxInt, math.MinInt), api.ErrArg},
		{0, 1, reach(1, 0), api.ErrOrder},
		{0, 1, reach(top, -top), api.ErrOrder},
	} {
		l, e := place.Between(c.from, c.to, c.distance)
		var want []place.Bound
		if c.e == api.OK {
			want = []place.Bound{{From: c.from, To: c.to, Most: c.distance.Hi}, {From: c.to, To: c.from, Most: -c.distance.Lo}}
		}
		if e != c.e || !slices.Equal(l, want) {
			t.Errorf("Between of %+v: %+v %v", c, l, e)
		}
	}
}

// wheel is a number of ticks, a range, and what is told for them.
type wheel struct {
	ticks int
	r     api.Range
	want  told
}

func checkWheels(t *testing.T, name string, f func(int, api.Range) (api.Range, api.Errno), l []wheel) {
	t.Helper()
	for _, c := range l {
		got, e := f(c.ticks, c.r)
		if (told{got, e}) != c.want {
			t.Errorf("%s of %d and %v: %v %v, want %v", name, c.ticks, c.r, got, e, c.want)
		}
	}
}

func TestP4_1Odometer(t *testing.T) {
	checkWheels(t, "Odometer", place.Odometer, []wheel{
		{3, reach(2500, 2700), ok(7, 9)},
		{2, reach(2500, 2500), ok(5, 5)},
		{1, reach(1, 999), ok(0, 1)},
		{1, reach(999, 1001), ok(0, 2)},
		{0, reach(0, 1000000), ok(0, 0)},
		{1 << 20, reach(0, 1000000), ok(0, 1048576000)},
		{1 << 20, reach(1, 1), ok(1048, 1049)},
		{-1, reach(1, 0), bad(api.ErrArg)},
		{1<<20 + 1, reach(0, 0), bad(api.ErrArg)},
		{1, reach(-1, 0), bad(api.ErrArg)},
		{1, reach(0, 1000001), bad(api.ErrArg)},
		{1, reach(1000001, 5), bad(api.ErrArg)},
		{1, reach(0, -1), bad(api.ErrArg)},
		{1, reach(6, 5), bad(api.ErrOrder)},
		{math.MaxInt, reach(math.MaxInt, math.MaxInt), bad(api.ErrArg)},
	})
}

func TestP4_1Calibrate(t *testing.T) {
	checkWheels(t, "Calibrate", place.Calibrate, []wheel{
		{3, reach(7, 9), ok(2333, 3000)},
		{4, reach(7, 9), ok(1750, 2250)},
		{7, reach(1, 1), ok(142, 143)},
		{1, reach(0, top), ok(0, 1000*top)},
		{1 << 20, reach(0, top), ok(0, 1024000)},
		{1 << 20, reach(1, 1), ok(0, 1)},
		{0, reach(0, 1), bad(api.ErrZero)},
		{0, reach(-1, -2), bad(api.ErrZero)},
		{-1, reach(2, 1), bad(api.ErrArg)},
		{1<<20 + 1, reach(0, 1), bad(api.ErrArg)},
		{1, reach(-1, 1), bad(api.ErrArg)},
		{1, reach(0, top+1), bad(api.ErrArg)},
		{1, reach(top+1, 0), bad(api.ErrArg)},
		{1, reach(0, -1), bad(api.ErrArg)},
		{1, reach(1, 0), bad(api.ErrOrder)},
		{math.MinInt, reach(math.MaxInt, math.MaxInt), bad(api.ErrArg)},
	})
}

func TestP4_1Passed(t *testing.T) {
	long := 1 << 20
	for _, c := range []struct {
		place        int
		after, speed api.Range
		want         told
	}{
		{1000, reach(1500, 2500), reach(1000, 1001), ok(2500, 3503)},
		{1000, reach(-2500, -1500), reach(1000, 1001), ok(-1503, -500)},
		{0, reach(-1, 1), reach(0, 999), ok(-1, 1)},
		{5, reach(-3000, 2000), reach(2, 3), ok(-4, 11)},
		{5, reach(3, 3), reach(1, 1), ok(5, 6)},
		{5, reach(-3, -3), reach(1, 1), ok(4, 5)},
		{-7, reach(0, 0), reach(0, 32768), ok(-7, -7)},
		{0, reach(-long, long), reach(0, 32768), ok(-34359739, 34359739)},
		{top, reach(-1, 0), reach(1000, 1000), ok(top-1, top)},
		{-top, reach(0, 1), reach(1000, 1000), ok(-top, -top+1)},
		{top, reach(0, 1), reach(0, 1), bad(api.ErrArg)},
		{-top, reach(-1, 0), reach(0, 1), bad(api.ErrArg)},
		{top + 1, reach(0, 0), reach(0, 0), bad(api.ErrArg)},
		{top + 1, reach(-1, -1), reach(32768, 32768), bad(api.ErrArg)},
		{-top - 1, reach(1, 1), reach(32768, 32768), bad(api.ErrArg)},
		{-top - 1, reach(1, 0), reach(1, 0), bad(api.ErrArg)},
		{0, reach(-long-1, 0), reach(1, 0), bad(api.ErrArg)},
		{0, reach(0, long+1), reach(0, 0), bad(api.ErrArg)},
		{0, reach(long+1, 0), reach(0, 0), bad(api.ErrArg)},
		{0, reach(0, -long-1), reach(0, 0), bad(api.ErrArg)},
		{0, reach(1, 0), reach(-1, 0), bad(api.ErrArg)},
		{0, reach(1, 0), reach(0, 32769), bad(api.ErrArg)},
		{0, reach(0, 0), reach(-1, 0), bad(api.ErrArg)},
		{0, reach(0, 0), reach(32769, 0), bad(api.ErrArg)},
		{0, reach(0, 0), reach(0, -1), bad(api.ErrArg)},
		{0, reach(1, 0), reach(0, 0), bad(api.ErrOrder)},
		{0, reach(0, 0), reach(1, 0), bad(api.ErrOrder)},
		{top, reach(2000, 1000), reach(1000, 1000), bad(api.ErrOrder)},
		{top, reach(1000, 1000), reach(2000, 1000), bad(api.ErrOrder)},
		{math.MinInt, reach(math.MinInt, math.MaxInt), reach(math.MinInt, math.MaxInt), bad(api.ErrArg)},
	} {
		got, e := place.Passed(c.place, c.after, c.speed)
		if (told{got, e}) != c.want {
			t.Errorf("Passed of %+v: %v %v, want %v", c, got, e, c.want)
		}
	}
}

// part returns a fraction of a range: one of its ends, or a number between them.
func (d dice) part(r api.Range) *big.Rat {
	x := big.NewRat(int64(d.IntN(65)), 64)
	x.Mul(x, new(big.Rat).SetInt64(int64(r.Hi-r.Lo)))
	return x.Add(x, new(big.Rat).SetInt64(int64(r.Lo)))
}

// has tells whether a number lies in a range.
func has(r api.Range, x *big.Rat) bool {
	return x.Cmp(new(big.Rat).SetInt64(int64(r.Lo))) >= 0 && x.Cmp(new(big.Rat).SetInt64(int64(r.Hi))) <= 0
}

// tight tells whether the range has the numbers, and no end of it can come nearer by 1 without losing one.
func tight(r api.Range, numbers ...*big.Rat) bool {
	low, high := false, false
	for _, x := range numbers {
		if !has(r, x) {
			return false
		}
		low = low || !has(api.Range{Lo: r.Lo + 1, Hi: math.MaxInt64}, x)
		high = high || !has(api.Range{Lo: math.MinInt64, Hi: r.Hi - 1}, x)
	}
	return low && high
}

func whole(x int) *big.Rat { return new(big.Rat).SetInt64(int64(x)) }

func times(x, y *big.Rat, by int) *big.Rat {
	out := new(big.Rat).Mul(x, y)
	return out.Quo(out, whole(by))
}

func TestP4_4Odometer(t *testing.T) {
	d := newDice(3)
	for range 2000 {
		ticks, size := d.IntN(40), d.around(3000, 3000)
		size.Hi = max(size.Hi, size.Lo)
		got := must[api.Range](t)(place.Odometer(ticks, size))
		one := d.part(size)
		rolled := times(whole(ticks), one, 1000)
		if !has(got, rolled) || !tight(got, times(whole(ticks), whole(size.Lo), 1000), times(whole(ticks), whole(size.Hi), 1000)) {
			t.Fatalf("Odometer of %d and %v is %v", ticks, size, got)
		}
		if ticks > 0 {
			back := must[api.Range](t)(place.Calibrate(ticks, got))
			if !has(back, one) || !tight(back, times(whole(got.Lo), whole(1000), ticks), times(whole(got.Hi), whole(1000), ticks)) {
				t.Fatalf("Calibrate of %d and %v is %v", ticks, got, back)
			}
			wide := must[api.Range](t)(place.Calibrate(ticks, api.Range{Lo: max(0, got.Lo-d.IntN(3)), Hi: got.Hi + d.IntN(3)}))
			if wide.Lo > back.Lo || wide.Hi < back.Hi {
				t.Fatalf("Calibrate of %d and more than %v is %v, not %v", ticks, got, wide, back)
			}
		}
		wide := must[api.Range](t)(place.Odometer(ticks, api.Range{Lo: max(0, size.Lo-d.IntN(300)), Hi: size.Hi + d.IntN(300)}))
		if wide.Lo > got.Lo || wide.Hi < got.Hi {
			t.Fatalf("Odometer of %d and more than %v is %v, not %v", ticks, size, wide, got)
		}
	}
}

func TestP4_4Passed(t *testing.T) {
	d := newDice(4)
	for range 3000 {
		at, after, speed := d.from(-9000, 9000), d.around(d.from(-5000, 5000), 4000), d.around(4000, 2000)
		got := must[api.Range](t)(place.Passed(at, after, speed))
		move := func(time, v *big.Rat) *big.Rat {
			x := times(time, v, 1000)
			return x.Add(x, whole(at))
		}
		if x := move(d.part(after), d.part(speed)); !has(got, x) {
			t.Fatalf("Passed of %d, %v, %v is %v, without %v", at, after, speed, got, x)
		}
		var corners []*big.Rat
		for _, time := range []int{after.Lo, after.Hi} {
			for _, v := range []int{speed.Lo, speed.Hi} {
				corners = append(corners, move(whole(time), whole(v)))
			}
		}
		if !tight(got, corners...) {
			t.Fatalf("Passed of %d, %v, %v is %v, for %v", at, after, speed, got, corners)
		}
		wide := must[api.Range](t)(place.Passed(at, reach(after.Lo-d.IntN(9), after.Hi+d.IntN(9)), reach(speed.Lo-d.IntN(9), speed.Hi+d.IntN(9))))
		if wide.Lo > got.Lo || wide.Hi < got.Hi {
			t.Fatalf("Passed of %d and more than %v, %v is %v, not %v", at, after, speed, wide, got)
		}
	}
}

func TestP4_1Vote(t *testing.T) {
	many := slices.Repeat([]api.Range{reach(0, 1)}, 17)
	three := []api.Range{reach(0, 10), reach(8, 12), reach(11, 13)}
	for _, c := range []struct {
		l     []api.Range
		wrong int
		want  told
	}{
		{three, 1, ok(8, 12)},
		{three, 2, ok(0, 13)},
		{three, 0, bad(api.ErrNone)},
		{three[:2], 0, ok(8, 10)},
		{three[:2], 1, ok(0, 12)},
		{[]api.Range{reach(0, 5), reach(5, 9)}, 0, ok(5, 5)},
		{[]api.Range{reach(5, 9), reach(0, 5)}, 0, ok(5, 5)},
		{[]api.Range{reach(0, 5), reach(6, 9)}, 0, bad(api.ErrNone)},
		{[]api.Range{reach(3, 3)}, 0, ok(3, 3)},
		{[]api.Range{reach(-top, top)}, 0, ok(-top, top)},
		{many[:16], 0, ok(0, 1)},
		{many[:16], 15, ok(0, 1)},
		{[]api.Range{reach(0, 1), reach(7, 9), reach(0, 2), reach(8, 9)}, 2, ok(0, 9)},
		{many, 0, bad(api.ErrSize)},
		{nil, 0, bad(api.ErrSize)},
		{nil, -1, bad(api.ErrSize)},
		{three, -1, bad(api.ErrArg)},
		{three, 3, bad(api.ErrArg)},
		{three, math.MaxInt, bad(api.ErrArg)},
		{three, math.MinInt, bad(api.ErrArg)},
		{[]api.Range{reach(-top-1, 0)}, 0, bad(api.ErrArg)},
		{[]api.Range{reach(0, top+1)}, 0, bad(api.ErrArg)},
		{[]api.Range{reach(top+1, 0)}, 0, bad(api.ErrArg)},
		{[]api.Range{reach(0, -top-1)}, 0, bad(api.ErrArg)},
		{[]api.Range{reach(1, 0), reach(0, top+1)}, 9, bad(api.ErrOrder)},
		{[]api.Range{reach(0, top+1), reach(1, 0)}, 9, bad(api.ErrArg)},
		{[]api.Range{reach(0, 1), reach(1, 0)}, 2, bad(api.ErrOrder)},
	} {
		got, e := place.Vote(c.l, c.wrong)
		if (told{got, e}) != c.want {
			t.Errorf("Vote of %+v: %v %v", c, got, e)
		}
	}
}

func TestP4_5Votes(t *testing.T) {
	d := newDice(5)
	for range 2000 {
		l := make([]api.Range, d.from(1, 16))
		for i := range l {
			l[i] = d.around(d.IntN(40), d.from(0, 12))
		}
		var before told
		for wrong := range l {
			got, e := place.Vote(l, wrong)
			if want := voted(l, wrong); (told{got, e}) != want {
				t.Fatalf("Vote of %v with %d wrong is %v %v, want %v", l, wrong, got, e, want)
			}
			if wrong > 0 && before.e == api.OK && (e != api.OK || got.Lo > before.r.Lo || got.Hi < before.r.Hi) {
				t.Fatalf("Vote of %v with %d wrong is %v %v, less than %v", l, wrong, got, e, before)
			}
			before = told{got, e}
			mixed := slices.Clone(l)
			d.Shuffle(len(l), func(i, k int) { mixed[i], mixed[k] = mixed[k], mixed[i] })
			if x, f := place.Vote(mixed, wrong); x != got || f != e {
				t.Fatalf("Vote of %v is %v %v, of %v %v %v", l, got, e, mixed, x, f)
			}
		}
	}
}

// voted looks at each number that the ranges can have.
func voted(l []api.Range, wrong int) told {
	out := bad(api.ErrNone)
	for x := -20; x <= 70; x++ {
		n := 0
		for _, r := range l {
			if r.Lo <= x && x <= r.Hi {
				n++
			}
		}
		if n < len(l)-wrong {
			continue
		}
		if out.e != api.OK {
			out = ok(x, x)
		}
		out.r.Hi = x
	}
	return out
}
