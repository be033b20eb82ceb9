package strength_test

import (
	"cmp"
	"math"
	"slices"
	"testing"

	"wallgauge/api"
	"wallgauge/dyad"
	"wallgauge/strength"
)

// hundredths are how much of the failure pressure the classes from 1 on permit.
var hundredths = [...]int{72, 60, 50, 40}

// safe returns the pressure that a class permits.
func safe(t *testing.T, failure dyad.Span, class, k int) dyad.Span {
	t.Helper()
	return must[dyad.Span](t)(strength.Safe(failure, class, k))
}

func TestP9_1Safe(t *testing.T) {
	for class, want := range map[int]string{1: "[5760,5761]", 2: "[4800,4801]", 3: "[4000,4001]", 4: "[3200,3201]"} {
		got := safe(t, span("8000", "8001"), class, 16)
		lo, hi := got.Lo().Down(0), got.Hi().Up(0)
		if between(lo, hi).Text() != want {
			t.Errorf("Safe of 8000 for the class %d is %s", class, got.Text())
		}
	}
	if got := safe(t, span("8000", "8000"), 1, 16); got.Text() != "[5760,5760]" {
		t.Errorf("Safe of 8000 alone is %s", got.Text())
	}
	d := newDice(31)
	for range 1000 {
		s, class, k := d.span(), d.from(1, 4), d.from(0, 70)
		f := frac(hundredths[class-1], 100)
		lo, hi := floor(product(rat(s.Lo()), f), bits(k)), ceil(product(rat(s.Hi()), f), bits(k))
		if got := safe(t, s, class, k); !sameEnds(got, lo, hi) {
			t.Fatalf("Safe of %s for the class %d with %d bits is %s, want %v to %v", s.Text(), class, k, got.Text(), lo, hi)
		}
	}
	checkBits(t, "Safe", func(k int) string { return safe(t, span("1", "2"), 1, k).Text() })
	if got := safe(t, between(num("0"), great()), 4, 16); got.Lo().Sign() != 0 || got.Hi().Cmp(great()) >= 0 {
		t.Errorf("Safe of a great span is %s", got.Text())
	}
}

func TestP9_1ErrorsOfSafe(t *testing.T) {
	check := func(failure dyad.Span, class int) {
		t.Helper()
		if got, e := strength.Safe(failure, class, 20); e != api.ErrArg || got.Text() != "[0,0]" {
			t.Errorf("Safe of %s for the class %d: %s %v", failure.Text(), class, got.Text(), e)
		}
	}
	for _, class := range []int{0, 5, -1, math.MinInt, math.MaxInt} {
		check(span("1", "2"), class)
		check(span("-1", "2"), class)
	}
	for _, failure := range []dyad.Span{span("-1", "2"), span("-3", "-2"), between(unit(256).Neg(), num("0")), between(great().Neg(), great())} {
		check(failure, 1)
		check(failure, 4)
	}
}

// judge returns the verdict on a safe pressure.
func judge(t *testing.T, safe dyad.Span, wanted, least int) strength.Verdict {
	t.Helper()
	return must[strength.Verdict](t)(strength.Judge(safe, wanted, least))
}

func TestP9_1Judge(t *testing.T) {
	huge := between(great().Neg(), great())
	for _, c := range []struct {
		safe            dyad.Span
		wanted, least   int
		state, pressure int
	}{
		{span("5000", "5001"), 5200, 1, strength.Reduce, 5000},
		{span("5000", "5001"), 5200, 5000, strength.Reduce, 5000},
		{span("5000", "5001"), 5200, 5001, strength.Repair, 0},
		{span("5000", "5001"), 5200, 5100, strength.Repair, 0},
		{span("5000", "5001"), 5000, 1, strength.Fit, 5000},
		{span("5000", "5001"), 4000, 4000, strength.Fit, 4000}, // not more than what is wanted
		{span("5000", "9000"), 5001, 5001, strength.Repair, 0}, // Hi does not count
		{span("5000", "9000"), 5001, 5000, strength.Reduce, 5000},
		{span("9999/2", "5001"), 5000, 4999, strength.Reduce, 4999},
		{span("9999/2", "5001"), 5000, 5000, strength.Repair, 0},
		{between(num("5000").Sub(unit(256)), num("5000")), 5000, 1, strength.Reduce, 4999},
		{between(num("5000").Add(unit(256)), num("5001")), 5000, 1, strength.Fit, 5000},
		{span("5000", "5000"), 1 << 20, 1, strength.Reduce, 5000},
		{span("1048576", "1048576"), 1 << 20, 1 << 20, strength.Fit, 1 << 20},
		{span("1048575", "1048576"), 1 << 20, 1 << 20, strength.Repair, 0},
		{span("1048575", "1048576"), 1 << 20, 1<<20 - 1, strength.Reduce, 1<<20 - 1},
		{span("1", "1"), 1, 1, strength.Fit, 1},
		{span("1/2", "1"), 1, 1, strength.Repair, 0},
		{span("0", "0"), 1, 1, strength.Repair, 0},
		{span("-5", "9"), 1, 1, strength.Repair, 0},
		{span("-1/2", "9"), 1, 1, strength.Repair, 0},
		{huge, 1, 1, strength.Repair, 0},
		{between(great(), great()), 7, 1, strength.Fit, 7},
		// Too far below 0 for an int of 64 bits: 2^64 less would be 6000.
		{span("-18446744073709545616", "0"), 7000, 1, strength.Repair, 0},
	} {
		want := strength.Verdict{State: c.state, Pressure: c.pressure}
		if got := judge(t, c.safe, c.wanted, c.least); got != want {
			t.Errorf("Judge of %s with %d wanted and at least %d is %+v, want %+v", c.safe.Text(), c.wanted, c.least, got, want)
		}
	}
	if strength.Fit != 0 || strength.Reduce != 1 || strength.Repair != 2 {
		t.Error("the states are others")
	}
}

func TestP9_1ErrorsOfJudge(t *testing.T) {
	for _, safe := range []dyad.Span{span("5000", "5001"), span("-1", "0"), between(great(), great())} {
		for _, c := range [][2]int{
			{5, 0}, {5, -1}, {5, math.MinInt}, {1<<20 + 1, 1<<20 + 1}, {math.MaxInt, math.MaxInt}, {math.MaxInt, 5}, {1<<20 + 1, 5},
			{4, 5}, {0, 1}, {-1, 1}, {math.MinInt, 1}, {1<<20 - 1, 1 << 20}, {-5, -6}, {0, 0},
		} {
			if got, e := strength.Judge(safe, c[0], c[1]); e != api.ErrArg || got != (strength.Verdict{}) {
				t.Errorf("Judge of %s with %d wanted and at least %d: %+v %v", safe.Text(), c[0], c[1], got, e)
			}
		}
	}
}

func TestP9_6Verdicts(t *testing.T) {
	d := newDice(32)
	for range 3000 {
		a := d.span()
		b := between(a.Lo().Add(d.number()), a.Hi().Add(d.number()).Add(great()))
		least := 1 + d.small(1<<20-1)
		wanted := d.from(least, 1<<20)
		if d.IntN(2) == 0 {
			wanted = min(least+d.small(1000), 1<<20)
		}
		x, y := judge(t, a, wanted, least), judge(t, b, wanted, least)
		if y.State > x.State || x.State == strength.Reduce && y.Pressure < x.Pressure {
			t.Fatalf("Judge of %s is %+v, of %s %+v", a.Text(), x, b.Text(), y)
		}
		pressure := dyad.Int(int64(x.Pressure))
		sound := pressure.Cmp(a.Lo()) <= 0
		switch x.State {
		case strength.Fit:
			sound = sound && x.Pressure == wanted
		case strength.Reduce:
			sound = sound && x.Pressure < wanted && x.Pressure >= least && pressure.Add(dyad.Int(1)).Cmp(a.Lo()) > 0
		case strength.Repair:
			sound = x.Pressure == 0 && dyad.Int(int64(least)).Cmp(a.Lo()) > 0
		}
		if !sound {
			t.Fatalf("Judge of %s with %d wanted and at least %d is %+v", a.Text(), wanted, least, x)
		}
	}
}

func TestP9_6Classes(t *testing.T) {
	d := newDice(33)
	for range 1000 {
		s, k := d.span(), d.from(16, 64)
		wanted := 1 + d.small(1<<20-1)
		ahead := safe(t, s, 1, k)
		for class := 2; class <= 4; class++ {
			got := safe(t, s, class, k)
			if got.Lo().Cmp(ahead.Lo()) > 0 || got.Hi().Cmp(ahead.Hi()) > 0 {
				t.Fatalf("Safe of %s for the class %d is %s, for the one ahead %s", s.Text(), class, got.Text(), ahead.Text())
			}
			if judge(t, got, wanted, 1).State < judge(t, ahead, wanted, 1).State {
				t.Fatalf("the class %d has a better verdict for %s", class, s.Text())
			}
			ahead = got
		}
	}
}

func TestP9_1Rank(t *testing.T) {
	rank := func(l []dyad.Span) []int { return must[[]int](t)(strength.Rank(l)) }
	if got := rank(nil); len(got) != 0 {
		t.Errorf("Rank of none is %v", got)
	}
	l := []dyad.Span{span("3", "4"), span("-1", "9"), span("3", "3"), span("5/2", "7"), between(great().Neg(), great()), span("3", "9"), span("-1", "0")}
	if got := rank(l); !slices.Equal(got, []int{4, 1, 6, 3, 0, 2, 5}) {
		t.Errorf("Rank of %v is %v", texts(l), got)
	}
	d := newDice(34)
	for range 300 {
		l := make([]dyad.Span, d.from(0, 24))
		want := make([]int, len(l))
		for i := range l {
			lo := dyad.Int(int64(d.from(-3, d.from(0, 20))))
			l[i], want[i] = between(lo, lo.Add(d.number())), i
		}
		slices.SortFunc(want, func(a, b int) int { return cmp.Or(l[a].Lo().Cmp(l[b].Lo()), cmp.Compare(a, b)) })
		if got := rank(l); !slices.Equal(got, want) {
			t.Fatalf("Rank of %v is %v, want %v", texts(l), got, want)
		}
	}
	if got := rank(make([]dyad.Span, 24)); len(got) != 24 || !slices.IsSorted(got) {
		t.Errorf("Rank of 24 equal ones is %v", got)
	}
	if got, e := strength.Rank(make([]dyad.Span, 25)); len(got) != 0 || e != api.ErrSize {
		t.Errorf("Rank of 25: %v %v", got, e)
	}
}
