package strength_test

import (
	"math"
	"math/big"
	"testing"

	"wallgauge/api"
	"wallgauge/dyad"
	"wallgauge/strength"
)

// usual is the pipe of the chapter's example.
var usual = strength.Pipe{Diameter: 1000, Wall: 10000, Flow: 400000}

// badPipes are pipes with the error ErrArg.
func badPipes() []strength.Pipe {
	out := []strength.Pipe{{}}
	add := func(change func(p *strength.Pipe, x int), values ...int) {
		for _, x := range append(values, -1, 0, math.MinInt, math.MaxInt) {
			p := usual
			change(&p, x)
			out = append(out, p)
		}
	}
	add(func(p *strength.Pipe, x int) { p.Diameter = x }, 49, 2001)
	add(func(p *strength.Pipe, x int) { p.Wall = x }, 999, 100001)
	add(func(p *strength.Pipe, x int) { p.Flow = x }, 1<<20+1)
	return out
}

// limitPipes are pipes at their limits.
func limitPipes() []strength.Pipe {
	var out []strength.Pipe
	for _, diameter := range []int{50, 2000} {
		for _, wall := range []int{1000, 100000} {
			for _, flow := range []int{1, 1 << 20} {
				out = append(out, strength.Pipe{Diameter: diameter, Wall: wall, Flow: flow})
			}
		}
	}
	return out
}

func TestP9_1CheckPipe(t *testing.T) {
	for _, p := range append(limitPipes(), usual) {
		if e := strength.CheckPipe(p); e != api.OK {
			t.Errorf("%+v: %v", p, e)
		}
	}
	for _, p := range badPipes() {
		if e := strength.CheckPipe(p); e != api.ErrArg {
			t.Errorf("%+v: %v", p, e)
		}
	}
}

// bulge returns the factor by which a defect bulges.
func bulge(t *testing.T, p strength.Pipe, length, k int) dyad.Span {
	t.Helper()
	return must[dyad.Span](t)(strength.Bulge(p, length, k))
}

// squareOf returns the square of a length, divided by diameter and wall, all in millimetres.
func squareOf(p strength.Pipe, length int) *big.Rat {
	return quotient(product(frac(1000, 1), product(frac(length, 1), frac(length, 1))), product(frac(p.Diameter, 1), frac(p.Wall, 1)))
}

// ownBulge returns the ends of the factor by which a defect bulges.
func ownBulge(p strength.Pipe, length, k int) (lo, hi *big.Rat) {
	x := squareOf(p, length)
	if x.Cmp(frac(50, 1)) > 0 {
		factor := sum(product(frac(32, 1000), x), frac(33, 10))
		return floor(factor, k), ceil(factor, k)
	}
	square := less(sum(frac(1, 1), product(frac(6275, 10000), x)), product(frac(3375, 1000000), product(x, x)))
	return rootFloor(floor(square, k), k), rootCeil(ceil(square, k), k)
}

func TestP9_1Bulge(t *testing.T) {
	check := func(p strength.Pipe, length, k int) {
		t.Helper()
		lo, hi := ownBulge(p, length, bits(k))
		if got := bulge(t, p, length, k); !sameEnds(got, lo, hi) {
			t.Fatalf("Bulge of %d in %+v with %d bits is %s, want %v to %v", length, p, k, got.Text(), lo, hi)
		}
	}
	// In the usual pipe a/b is 1 for the length 100; in the second one it is just 50.
	check(usual, 100, 20)
	narrow := strength.Pipe{Diameter: 200, Wall: 1000, Flow: 1}
	if squareOf(narrow, 100).Cmp(frac(50, 1)) != 0 {
		t.Error("a is not 50 b")
	}
	for _, length := range []int{1, 99, 100, 101, 1000000} {
		check(narrow, length, 64)
	}
	for _, p := range limitPipes() {
		for _, length := range []int{1, 1000, 3162, 3163, 1000000} {
			check(p, length, 64)
		}
	}
	d := newDice(21)
	for range 2000 {
		check(d.pipe(), 1+d.small(999999), d.from(0, 70))
	}
	checkBits(t, "Bulge", func(k int) string { return bulge(t, usual, 100, k).Text() })
	checkBits(t, "Bulge of a long defect", func(k int) string { return bulge(t, usual, 777777, k).Text() })
	if got := rat(bulge(t, usual, 100, 64).Lo()); got.Cmp(frac(1274, 1000)) < 0 || got.Cmp(frac(1275, 1000)) > 0 {
		t.Errorf("the root of 12993/8000 is %v", got)
	}
}

func TestP9_1ErrorsOfBulge(t *testing.T) {
	check := func(p strength.Pipe, length int) {
		t.Helper()
		if got, e := strength.Bulge(p, length, 20); e != api.ErrArg || got.Text() != "[0,0]" {
			t.Errorf("Bulge of %d in %+v: %s %v", length, p, got.Text(), e)
		}
	}
	for _, length := range []int{0, -1, 1000001, math.MinInt, math.MaxInt} {
		check(usual, length)
		check(strength.Pipe{}, length)
	}
	for _, p := range badPipes() {
		check(p, 100)
	}
}

func TestP9_4Bulge(t *testing.T) {
	check := func(p strength.Pipe, length, longer, k int) {
		t.Helper()
		a, b := bulge(t, p, length, k), bulge(t, p, longer, k)
		if a.Lo().Cmp(dyad.Int(1)) < 0 || a.Lo().Cmp(b.Lo()) > 0 || a.Hi().Cmp(b.Hi()) > 0 {
			t.Fatalf("Bulge in %+v is %s for %d, %s for %d", p, a.Text(), length, b.Text(), longer)
		}
	}
	for length := 1; length < 1000; length++ {
		check(usual, length, length+1, 64)
	}
	d := newDice(22)
	for range 1000 {
		length := 1 + d.small(999998)
		check(d.pipe(), length, d.from(length, 1000000), d.from(16, 64))
		check(d.pipe(), length, length+1, d.from(16, 64))
	}
}

// failure returns the pressure at which a part of a profile fails.
func failure(t *testing.T, p strength.Pipe, l []strength.Step, first, last, k int) dyad.Span {
	t.Helper()
	return must[dyad.Span](t)(strength.Failure(p, l, first, last, k))
}

// ownFailure returns the ends of the pressure at which a part of a profile fails. All spans in between are those of numbers that are not below 0.
func ownFailure(p strength.Pipe, l []strength.Step, first, last, k int) (lo, hi *big.Rat) {
	volume, length := new(big.Rat), l[last].To-l[first].From
	for i := first; i <= last; i++ {
		volume = sum(volume, product(frac(l[i].Depth, 1), frac(l[i].To-l[i].From, 1)))
	}
	lost := quotient(volume, product(frac(p.Wall, 1), frac(length, 1)))
	lostLo, lostHi := floor(lost, k), ceil(lost, k)
	bulgeLo, bulgeHi := ownBulge(p, length, k)
	bulgedLo, bulgedHi := floor(quotient(lostLo, bulgeHi), k), ceil(quotient(lostHi, bulgeLo), k)
	sound := quotient(product(frac(2*p.Flow, 1), frac(p.Wall, 1)), frac(1000*p.Diameter, 1))
	one := frac(1, 1)
	lo = quotient(product(floor(sound, k), less(one, lostHi)), less(one, bulgedLo))
	hi = quotient(product(ceil(sound, k), less(one, lostLo)), less(one, bulgedHi))
	return floor(lo, k), ceil(hi, k)
}

// steps returns a profile from 0 on, of pairs of a length and a depth.
func steps(pairs ...[2]int) []strength.Step {
	var l []strength.Step
	place := 0
	for _, pair := range pairs {
		l = append(l, strength.Step{From: place, To: place + pair[0], Depth: pair[1]})
		place += pair[0]
	}
	return l
}

func TestP9_1Failure(t *testing.T) {
	if got := failure(t, usual, steps([2]int{10, 0}), 0, 0, 20); got.Text() != "[8000,8000]" {
		t.Errorf("Failure without a loss is %s", got.Text())
	}
	check := func(p strength.Pipe, l []strength.Step, first, last, k int) {
		t.Helper()
		lo, hi := ownFailure(p, l, first, last, bits(k))
		if got := failure(t, p, l, first, last, k); !sameEnds(got, lo, hi) {
			t.Fatalf("Failure of %+v from %d to %d in %+v with %d bits is %s, want %v to %v", l, first, last, p, k, got.Text(), lo, hi)
		}
	}
	pit := steps([2]int{100, 5000}, [2]int{300, 0}, [2]int{1, 9900})
	for first := range pit {
		for last := first; last < len(pit); last++ {
			check(usual, pit, first, last, 30)
		}
	}
	for _, p := range limitPipes() {
		deep := min(p.Wall*99/100, 1<<20)
		for _, k := range []int{16, 64} {
			check(p, steps([2]int{1, deep}), 0, 0, k)
			check(p, steps([2]int{1000000, deep}), 0, 0, k)
			check(p, steps([2]int{500000, deep}, [2]int{1, 0}, [2]int{499999, deep}), 0, 2, k)
		}
	}
	d := newDice(23)
	for range 2000 {
		p, n := d.pipe(), d.from(1, 48)
		first := d.IntN(n)
		check(p, d.profile(n, p), first, d.from(first, n-1), d.from(10, 70))
	}
	checkBits(t, "Failure", func(k int) string { return failure(t, usual, pit, 0, 2, k).Text() })
}

// badProfiles are profiles with their errors.
func badProfiles() map[api.Errno][][]strength.Step {
	out := map[api.Errno][][]strength.Step{}
	add := func(e api.Errno, l ...strength.Step) { out[e] = append(out[e], l) }
	add(api.ErrSize)
	for _, depth := range []int{0, -1} { // of both errors that of the size comes first
		out[api.ErrSize] = append(out[api.ErrSize], steps(with(49, [2]int{1, 0}, 3, [2]int{1, depth})...))
		add(api.ErrOrder, strength.Step{From: 5, To: 5, Depth: depth})
		add(api.ErrOrder, strength.Step{From: 5, To: 4, Depth: depth})
		add(api.ErrOrder, strength.Step{From: 5, To: 7}, strength.Step{From: 8, To: 9, Depth: depth})
		add(api.ErrOrder, strength.Step{From: 5, To: 7}, strength.Step{From: 6, To: 9, Depth: depth})
		add(api.ErrOrder, strength.Step{From: 5, To: 7}, strength.Step{From: 6, To: 6, Depth: depth})
	}
	for _, x := range []int{-1, 1<<31 + 1, math.MinInt, math.MaxInt} {
		add(api.ErrArg, strength.Step{From: x, To: 5})
		add(api.ErrArg, strength.Step{From: 5, To: x})
		add(api.ErrArg, strength.Step{From: x, To: x})
		add(api.ErrArg, strength.Step{From: 5, To: 7}, strength.Step{From: x, To: 9})
	}
	for _, x := range []int{-1, 1<<20 + 1, math.MinInt, math.MaxInt} {
		add(api.ErrArg, strength.Step{From: 5, To: 7, Depth: x})
		add(api.ErrArg, strength.Step{From: 5, To: 7}, strength.Step{From: 7, To: 9, Depth: x})
		// The first step with an error decides.
		add(api.ErrArg, strength.Step{From: 5, To: 7, Depth: x}, strength.Step{From: 8, To: 9})
		add(api.ErrOrder, strength.Step{From: 7, To: 7}, strength.Step{From: 7, To: 9, Depth: x})
	}
	add(api.ErrArg, strength.Step{From: 0, To: 1000001})
	add(api.ErrArg, steps([2]int{999999, 0}, [2]int{2, 0})...)
	add(api.ErrArg, strength.Step{From: 0, To: 1 << 31})
	add(api.ErrOrder, strength.Step{From: 0, To: 1000001}, strength.Step{From: 1000002, To: 1000003})
	return out
}

// checkLoss fails the test if Failure and Least do not have an error.
func checkLoss(t *testing.T, p strength.Pipe, l []strength.Step, first, last int, want api.Errno) {
	t.Helper()
	if got, e := strength.Failure(p, l, first, last, 20); e != want || got.Text() != "[0,0]" {
		t.Errorf("Failure of %+v from %d to %d in %+v: %s %v, want %v", l, first, last, p, got.Text(), e, want)
	}
	if got, part, e := strength.Least(p, l, 20); e != want || got.Text() != "[0,0]" || part != [2]int{} {
		t.Errorf("Least of %+v in %+v: %s %v %v, want %v", l, p, got.Text(), part, e, want)
	}
}

func TestP9_1ErrorsOfPressures(t *testing.T) {
	burst := steps([2]int{1, 0}, [2]int{1, 9901}, [2]int{1, 0})
	for want, profiles := range badProfiles() {
		for _, l := range profiles {
			checkLoss(t, usual, l, 0, 0, want)
			checkLoss(t, usual, l, -1, 0, want)
			for _, p := range badPipes() {
				checkLoss(t, p, l, 0, 0, api.ErrArg)
			}
		}
	}
	for _, part := range [][2]int{{0, 0}, {0, 2}, {2, 1}, {-1, 9}} { // it bursts wherever it does
		checkLoss(t, usual, burst, part[0], part[1], api.ErrBurst)
		checkLoss(t, usual, append(burst, strength.Step{From: 3, To: 4, Depth: -1}), part[0], part[1], api.ErrArg)
		checkLoss(t, usual, append(burst, strength.Step{From: 3, To: 1000001}), part[0], part[1], api.ErrArg)
	}
	// In a wall of 1099 the depth 1088 is just not above 99 hundredths.
	thin := strength.Pipe{Diameter: 50, Wall: 1099, Flow: 1}
	failure(t, thin, steps([2]int{1, 1088}), 0, 0, 16)
	failure(t, usual, steps([2]int{1, 9900}), 0, 0, 16)
	checkLoss(t, thin, steps([2]int{1, 1089}), 0, 0, api.ErrBurst)
	checkLoss(t, usual, steps([2]int{1, 1 << 20}), 0, 0, api.ErrBurst)
}

func TestP9_1LimitsOfProfiles(t *testing.T) {
	for _, l := range [][]strength.Step{
		steps(with(48, [2]int{1, 0}, 0, [2]int{1, 1})...), steps([2]int{1000000, 9900}), steps([2]int{1, 0}, [2]int{999999, 0}),
		{{From: 1<<31 - 1000000, To: 1 << 31, Depth: 9900}}, {{From: 1<<31 - 1, To: 1 << 31}},
	} {
		failure(t, usual, l, 0, len(l)-1, 20)
		if _, _, e := strength.Least(usual, l, 20); e != api.OK {
			t.Errorf("Least of %+v: %v", l, e)
		}
	}
}

func TestP9_1ErrorsOfParts(t *testing.T) {
	l := steps([2]int{1, 0}, [2]int{1, 900}, [2]int{1, 0})
	for _, part := range [][2]int{{-1, 0}, {1, 0}, {2, 1}, {0, 3}, {3, 3}, {-1, -1}, {math.MinInt, 1}, {0, math.MaxInt}, {math.MaxInt, math.MaxInt}, {0, math.MinInt}} {
		if got, e := strength.Failure(usual, l, part[0], part[1], 20); e != api.ErrArg || got.Text() != "[0,0]" {
			t.Errorf("Failure from %d to %d: %s %v", part[0], part[1], got.Text(), e)
		}
	}
}

func TestP9_4Failure(t *testing.T) {
	d := newDice(24)
	for range 1000 {
		p, n, k := d.pipe(), d.from(1, 8), d.from(16, 64)
		deeper := d.profile(n, p)
		l := append([]strength.Step(nil), deeper...)
		for i, s := range l {
			l[i].Depth = d.from(s.Depth/d.from(1, 4), s.Depth)
		}
		a, b := failure(t, p, l, 0, n-1, k), failure(t, p, deeper, 0, n-1, k)
		if b.Lo().Cmp(a.Hi()) > 0 || a.Lo().Sign() < 0 {
			t.Fatalf("Failure of %+v is %s, of %+v, which is deeper, %s", l, a.Text(), deeper, b.Text())
		}
		weaker := p
		weaker.Flow = d.from(1, p.Flow)
		if w := failure(t, weaker, l, 0, n-1, k); w.Lo().Cmp(a.Hi()) > 0 {
			t.Fatalf("Failure in %+v is %s, in %+v, which is weaker, %s", p, a.Text(), weaker, w.Text())
		}
		for i := range l {
			l[i].Depth = 0
		}
		sound := frac(2*p.Flow*p.Wall, 1000*p.Diameter)
		if s := failure(t, p, l, 0, n-1, k); !sameEnds(s, floor(sound, k), ceil(sound, k)) {
			t.Fatalf("Failure without a loss in %+v is %s", p, s.Text())
		}
	}
}

// least returns the least pressure at which a part of a profile fails, and the part.
func least(t *testing.T, p strength.Pipe, l []strength.Step, k int) (dyad.Span, [2]int) {
	t.Helper()
	s, part, e := strength.Least(p, l, k)
	if e != api.OK {
		t.Fatalf("Least of %+v in %+v: %v", l, p, e)
	}
	return s, part
}

func TestP9_1Least(t *testing.T) {
	for _, c := range []struct {
		l    []strength.Step
		want [2]int
	}{
		{steps([2]int{10, 0}), [2]int{0, 0}},
		{steps([2]int{10, 0}, [2]int{10, 0}, [2]int{10, 0}), [2]int{0, 0}}, // all parts are equal
		// What is long bulges so much that the mean depth decides, and then the length.
		{steps([2]int{10000, 0}, [2]int{10000, 5000}, [2]int{10000, 0}), [2]int{1, 1}},
		{steps([2]int{10000, 0}, [2]int{10000, 0}, [2]int{10000, 5000}), [2]int{2, 2}},
		{steps([2]int{10000, 5000}, [2]int{10000, 0}, [2]int{10000, 5000}), [2]int{0, 0}}, // of equal ones the first
		{steps([2]int{10000, 5000}, [2]int{10000, 0}, [2]int{10000, 5001}), [2]int{2, 2}},
		{steps([2]int{10000, 5000}, [2]int{10000, 5000}, [2]int{10000, 0}), [2]int{0, 1}},
		{steps([2]int{10000, 0}, [2]int{10000, 5000}, [2]int{10000, 5000}), [2]int{1, 2}},
		{steps([2]int{10000, 5000}, [2]int{10000, 5000}, [2]int{10000, 5000}), [2]int{0, 2}},
		{steps([2]int{900000, 5000}, [2]int{10000, 8000}, [2]int{10, 9000}), [2]int{1, 2}},
		// What is short bulges so little that each millimetre more makes it weaker.
		{steps([2]int{10, 0}, [2]int{10, 900}, [2]int{10, 0}), [2]int{0, 2}},
		{steps([2]int{10, 900}, [2]int{500, 0}, [2]int{10, 900}), [2]int{0, 2}},
	} {
		got, part := least(t, usual, c.l, 60)
		if part != c.want || got.Text() != failure(t, usual, c.l, part[0], part[1], 60).Text() {
			t.Errorf("Least of %+v is %s at %v, want %v", c.l, got.Text(), part, c.want)
		}
	}
	checkBits(t, "Least", func(k int) string {
		got, _ := least(t, usual, steps([2]int{10, 777}, [2]int{100, 555}), k)
		return got.Text()
	})
}

func TestP9_5Least(t *testing.T) {
	d := newDice(25)
	for range 100 {
		p, n, k := d.pipe(), d.from(1, 12), d.from(0, 70)
		l := d.profile(n, p)
		if d.IntN(3) == 0 {
			// So several parts have the same pressure.
			for i := range l {
				l[i].Depth = 0
			}
			l[d.IntN(n)].Depth = d.from(0, 1)
		}
		got, part := least(t, p, l, k)
		for first := range n {
			for last := first; last < n; last++ {
				f := failure(t, p, l, first, last, k)
				same := [2]int{first, last} == part
				ahead := first < part[0] || first == part[0] && last < part[1]
				if c := f.Lo().Cmp(got.Lo()); c < 0 || c == 0 && ahead || same && f.Text() != got.Text() {
					t.Fatalf("Least of %+v in %+v is %s at %v, but Failure from %d to %d is %s", l, p, got.Text(), part, first, last, f.Text())
				}
			}
		}
	}
}

func TestP9_5OneMore(t *testing.T) {
	d := newDice(26)
	for range 100 {
		p, n, k := d.pipe(), d.from(3, 12), d.from(16, 64)
		l := d.profile(n, p)
		whole, _ := least(t, p, l, k)
		for _, fewer := range [][]strength.Step{l[1:], l[:n-1], l[1 : n-1]} {
			if got, _ := least(t, p, fewer, k); whole.Lo().Cmp(got.Lo()) > 0 {
				t.Fatalf("Least of %+v is %s, of %+v, which is shorter, %s", l, whole.Text(), fewer, got.Text())
			}
		}
	}
}

func TestP9_5Whole(t *testing.T) {
	d := newDice(27)
	l := d.profile(48, usual)
	got, part := least(t, usual, l, 64)
	if got.Text() != failure(t, usual, l, part[0], part[1], 64).Text() {
		t.Errorf("Least of %+v is %s at %v", l, got.Text(), part)
	}
	for first := range l {
		for last := first; last < len(l); last++ {
			if f := failure(t, usual, l, first, last, 64); f.Lo().Cmp(got.Lo()) < 0 {
				t.Fatalf("Least of %+v is %s, but Failure from %d to %d is %s", l, got.Text(), first, last, f.Text())
			}
		}
	}
}
