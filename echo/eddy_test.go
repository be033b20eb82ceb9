package echo_test

import (
	"math/big"
	"testing"

	"wallgauge/api"
	"wallgauge/dyad"
	"wallgauge/echo"
)

func TestP6_1Direction(t *testing.T) {
	for _, c := range []struct {
		a, b complex64
		want string
		err  api.Errno
	}{
		{1, 1 + 1i, "0:1", 0}, {1 + 1i, 1, "0:-1", 0}, {0, 3 - 0.5i, "3:-1/2", 0}, {2 + 3i, 5 + 7i, "3:4", 0}, {1, 1, "0:0", api.ErrNone}, {0, complex(minus, minus), "0:0", api.ErrNone}, {complex(huge, tiny), complex(huge, tiny), "0:0", api.ErrNone},
	} {
		if x, e := echo.Direction(c.a, c.b); text(x) != c.want || e != c.err {
			t.Errorf("Direction of %v and %v: %s %v, want %s %v", c.a, c.b, text(x), e, c.want, c.err)
		}
	}
	big, small := must[dyad.Num](t)(dyad.Float(float64(huge))), must[dyad.Num](t)(dyad.Float(float64(tiny)))
	if x, e := echo.Direction(complex(-huge, -tiny), complex(huge, huge)); !x.Same(dyad.Join(big.Add(big), big.Add(small))) || e != api.OK {
		t.Errorf("Direction of great impedances: %v", e)
	}
	for _, bad := range badSamples() {
		for _, ends := range [][2]complex64{{bad, 1}, {1, bad}, {bad, bad}} {
			if x, e := echo.Direction(ends[0], ends[1]); !x.Zero() || e != api.ErrArg {
				t.Errorf("Direction of %v: %s %v", ends, text(x), e)
			}
		}
	}
}

func TestP6_1Turned(t *testing.T) {
	for _, c := range []struct {
		z, zero      complex64
		lift         string
		k            int
		across, want string
	}{
		{3 + 5i, 1, "0:1", 0, "-2", "[5,5]"}, {3 + 5i, 1, "0:2", 0, "-4", "[2,3]"}, {3 + 5i, 1, "0:2", 1, "-4", "[5/2,5/2]"}, {3 + 5i, 1, "0:-1", 3, "2", "[-5,-5]"}, {3 + 5i, 1, "1:0", 0, "5", "[2,2]"}, {3 + 5i, 1, "1:1", 1, "3", "[7/2,7/2]"}, {3 + 5i, 1, "1:2", 2, "1", "[9/4,5/2]"},
		{1, 1, "3:-1/2", 9, "0", "[0,0]"}, {1.5, 1, "1:1", 2, "-1/2", "[1/4,1/4]"}, {0, 3 + 5i, "1:2", 0, "1", "[-3,-2]"}, {complex(minus, minus), 0, "1:2", 0, "0", "[0,0]"}, {1, 0, "1/2:1/2", 0, "-1/2", "[1,1]"},
	} {
		if x, e := echo.Across(c.z, c.zero, cnum(c.lift)); x.Text() != c.across || e != api.OK {
			t.Errorf("Across of %v with %v and %s: %s %v, want %s", c.z, c.zero, c.lift, x.Text(), e, c.across)
		}
		if s, e := echo.Along(c.z, c.zero, cnum(c.lift), c.k); s.Text() != c.want || e != api.OK {
			t.Errorf("Along of %v with %v, %s and %d bits: %s %v, want %s", c.z, c.zero, c.lift, c.k, s.Text(), e, c.want)
		}
	}
	for k, like := range manyBits() {
		want := must[dyad.Span](t)(echo.Along(1, 0, cnum("3:0"), like))
		if s, e := echo.Along(1, 0, cnum("3:0"), k); s.Text() != want.Text() || e != api.OK {
			t.Errorf("Along with %d bits: %s %v, with %d: %s", k, s.Text(), e, like, want.Text())
		}
	}
}

func TestP6_1TurnedErrors(t *testing.T) {
	check := func(z, zero complex64, lift dyad.Cnum, want api.Errno) {
		t.Helper()
		if x, e := echo.Across(z, zero, lift); !x.Zero() || e != want {
			t.Errorf("Across of %v with %v and %s: %s %v, want %v", z, zero, text(lift), x.Text(), e, want)
		}
		if s, e := echo.Along(z, zero, lift, 3); s.Text() != "[0,0]" || e != want {
			t.Errorf("Along of %v with %v and %s: %s %v, want %v", z, zero, text(lift), s.Text(), e, want)
		}
	}
	for _, bad := range badSamples() {
		for _, lift := range cnums("0:0 0:1") {
			check(bad, 1, lift, api.ErrArg)
			check(1, bad, lift, api.ErrArg)
			check(bad, bad, lift, api.ErrArg)
		}
	}
	check(3+5i, 1, dyad.Cnum{}, api.ErrZero)
	check(1, 1, dyad.Cnum{}, api.ErrZero)
}

// small returns an impedance that a complex64 can have.
func small(x dyad.Cnum) complex64 { return x.Near64() }

func TestP6_7LiftOff(t *testing.T) {
	d := newDice(12)
	for range 300 {
		z, zero, lift, n, k := d.cnum(), d.cnum(), d.cnum(), d.signed(3, 2), d.from(0, 9)
		if lift.Zero() {
			continue
		}
		moved := z.Add(lift.Mul(dyad.Join(n, dyad.Num{})))
		across := must[dyad.Num](t)(echo.Across(small(z), small(zero), lift))
		if x := must[dyad.Num](t)(echo.Across(small(moved), small(zero), lift)); !x.Same(across) {
			t.Fatalf("Across of %s is %s, moved by lift %s", text(z), across.Text(), x.Text())
		}
		along := must[dyad.Span](t)(echo.Along(small(z), small(zero), lift, k))
		further := must[dyad.Span](t)(echo.Along(small(moved), small(zero), lift, k))
		// Both spans have the exact number, and are at most one unit wide.
		if grown := along.Add(dyad.Only(n)); grown.Before(further) || further.Before(grown) || along.Width().Cmp(unit(k)) > 0 {
			t.Fatalf("Along of %s is %s, moved by %s times lift %s", text(z), along.Text(), n.Text(), further.Text())
		}
		step := z.Sub(zero)
		dot := new(big.Rat).Add(product(rat(step.Re()), rat(lift.Re())), product(rat(step.Im()), rat(lift.Im())))
		if exact := dot.Quo(dot, rat(lift.Norm())); !sameEnds(along, floor(exact, k), ceil(exact, k)) {
			t.Fatalf("Along of %s from %s with %s and %d bits: %s, want %s", text(z), text(zero), text(lift), k, along.Text(), exact)
		}
		if x := must[dyad.Num](t)(echo.Across(small(zero), small(zero), lift)); !x.Zero() {
			t.Fatalf("Across of zero is %s", x.Text())
		}
		more := d.num(3, 2).Add(unit(2))
		if x := must[dyad.Num](t)(echo.Across(small(z), small(zero), lift.Mul(dyad.Join(more, dyad.Num{})))); !x.Same(across.Mul(more)) {
			t.Fatalf("Across is %s, with %s times lift %s", across.Text(), more.Text(), x.Text())
		}
		if other := must[dyad.Num](t)(echo.Across(small(z.Add(lift.Mul(cnum("0:1")))), small(zero), lift)); !other.Same(across.Add(lift.Norm())) {
			t.Fatalf("Across is %s, a step to the left %s", across.Text(), other.Text())
		}
	}
}

func TestP6_1Between(t *testing.T) {
	for _, c := range []struct {
		z, a, b string
		want    bool
	}{
		{"1:1", "1:0", "0:1", true}, {"1:0", "1:0", "0:1", true}, {"0:1", "1:0", "0:1", true}, {"5:0", "1:0", "0:1", true}, {"1:-1/8", "1:0", "0:1", false}, {"-1/8:1", "1:0", "0:1", false}, {"-1:-1", "1:0", "0:1", false}, {"-1:0", "1:0", "0:1", false}, {"0:-1", "1:0", "0:1", false},
		{"0:-1", "1:-1/2", "-1:1", false}, {"0:1", "1:-1/2", "-1:1", true}, {"-1:-1", "-1:1", "1:-2", true}, {"1:1", "-1:1", "1:-2", false}, {"-2:1", "-1:1", "1:-2", true}, {"1/256:1/512", "2:1", "1:2", true}, {"513/131072:1/512", "2:1", "1:2", false},
	} {
		if got, e := echo.Between(cnum(c.z), cnum(c.a), cnum(c.b)); got != c.want || e != api.OK {
			t.Errorf("Between of %s with %s and %s: %v %v", c.z, c.a, c.b, got, e)
		}
	}
	for _, c := range []struct {
		z, a, b string
		want    api.Errno
	}{
		{"0:0", "1:0", "0:1", api.ErrZero}, {"0:0", "0:1", "1:0", api.ErrZero}, {"0:0", "0:0", "0:0", api.ErrZero}, {"1:1", "0:1", "1:0", api.ErrOrder}, {"1:1", "1:0", "1:0", api.ErrOrder}, {"1:1", "1:0", "2:0", api.ErrOrder}, {"1:1", "1:2", "-1:-2", api.ErrOrder}, {"1:1", "0:0", "1:0", api.ErrOrder}, {"1:1", "1:0", "0:0", api.ErrOrder}, {"1:1", "1:0", "-1:-1/1024", api.ErrOrder},
	} {
		if got, e := echo.Between(cnum(c.z), cnum(c.a), cnum(c.b)); got || e != c.want {
			t.Errorf("Between of %s with %s and %s: %v %v, want %v", c.z, c.a, c.b, got, e, c.want)
		}
	}
}

func TestP6_8Directions(t *testing.T) {
	d := newDice(13)
	inside := 0
	for range 500 {
		a, b, z := d.cnum(), d.cnum(), d.cnum()
		turn := a.Re().Mul(b.Im()).Sub(a.Im().Mul(b.Re()))
		if turn.Sign() <= 0 {
			if got, e := echo.Between(cnum("1:0"), a, b); got || e != api.ErrOrder {
				t.Fatalf("Between with %s and %s: %v %v", text(a), text(b), got, e)
			}
			continue
		}
		times := func(x dyad.Cnum) dyad.Cnum { return x.Mul(dyad.Join(d.num(3, 2).Add(unit(2)), dyad.Num{})) }
		for _, x := range []dyad.Cnum{a, b, times(a), times(b), a.Add(b), times(a).Add(times(b))} {
			if got, e := echo.Between(x, a, b); !got || e != api.OK {
				t.Fatalf("%s does not lie between %s and %s: %v", text(x), text(a), text(b), e)
			}
			if got, e := echo.Between(x.Neg(), a, b); got || e != api.OK {
				t.Fatalf("%s lies between %s and %s: %v", text(x.Neg()), text(a), text(b), e)
			}
		}
		if z.Zero() {
			continue
		}
		// Those between a and b are the sums of them with numbers that are not below 0: by Cramer's rule.
		p, q := z.Re().Mul(b.Im()).Sub(z.Im().Mul(b.Re())), a.Re().Mul(z.Im()).Sub(a.Im().Mul(z.Re()))
		want := p.Sign() >= 0 && q.Sign() >= 0
		if got, e := echo.Between(z, a, b); got != want || e != api.OK {
			t.Fatalf("Between of %s with %s and %s: %v %v", text(z), text(a), text(b), got, e)
		}
		if want {
			inside++
		}
	}
	if inside < 20 {
		t.Errorf("only %d directions lay between others", inside)
	}
}

// points returns a table of a text: each pair is a Signal and a Depth.
func points(s string) []echo.Point {
	var out []echo.Point
	for _, x := range cnums(s) {
		out = append(out, echo.Point{Signal: x.Re(), Depth: x.Im()})
	}
	return out
}

// steps returns a table of n points.
func steps(n int) []echo.Point {
	out := make([]echo.Point, n)
	for i := range out {
		out[i].Signal = dyad.Int(int64(i))
	}
	return out
}

func TestP6_1Depth(t *testing.T) {
	for _, c := range []struct {
		table, signal string
		k             int
		want          string
	}{
		{"0:0 4:6", "2", 0, "[3,3]"}, {"0:0 4:6", "1", 0, "[1,2]"}, {"0:0 4:6", "1", 1, "[3/2,3/2]"}, {"0:0 4:6", "0", 0, "[0,0]"}, {"0:0 4:6", "4", 0, "[6,6]"}, {"0:6 4:0", "1", 0, "[4,5]"}, {"-4:-6 0:0 3:1", "-2", 0, "[-3,-3]"}, {"-4:-6 0:0 3:1", "0", 0, "[0,0]"}, {"-4:-6 0:0 3:1", "1", 2, "[1/4,1/2]"}, {"-4:-6 0:0 3:1", "3", 2, "[1,1]"},
		// The depth of the point ahead is not rounded by itself, but the sum is.
		{"0:1/2 4:1/2", "1", 0, "[0,1]"}, {"0:1/2 4:3/2", "1", 0, "[0,2]"}, {"0:1/2 4:3/2", "2", 0, "[0,2]"}, {"0:1/2 4:3/2", "4", 0, "[1,2]"}, {"0:1/4 3:5/4", "1", 1, "[0,1]"},
		// Of two pairs the first one, whose rounding is another one.
		{"0:1/4 1:1 2:2", "1", 0, "[0,2]"}, {"0:1 1:2 2:5/2", "1", 0, "[2,2]"}, {"0:1 1:1/4 2:2", "1", 0, "[0,1]"},
	} {
		if s, e := echo.Depth(points(c.table), num(c.signal), c.k); s.Text() != c.want || e != api.OK {
			t.Errorf("Depth of %s by %s with %d bits: %s %v, want %s", c.signal, c.table, c.k, s.Text(), e, c.want)
		}
	}
	third := points("0:0 3:1")
	for k, like := range manyBits() {
		want := must[dyad.Span](t)(echo.Depth(third, num("1"), like))
		if s, e := echo.Depth(third, num("1"), k); s.Text() != want.Text() || e != api.OK {
			t.Errorf("Depth with %d bits: %s %v, with %d: %s", k, s.Text(), e, like, want.Text())
		}
	}
	if s, e := echo.Depth(steps(16), num("15"), 3); s.Text() != "[0,0]" || e != api.OK {
		t.Errorf("Depth by the longest table: %s %v", s.Text(), e)
	}
}

func TestP6_1DepthErrors(t *testing.T) {
	for _, c := range []struct {
		table  []echo.Point
		signal string
		want   api.Errno
	}{
		{nil, "0", api.ErrSize}, {[]echo.Point{}, "0", api.ErrSize}, {steps(1), "0", api.ErrSize}, {steps(17), "0", api.ErrSize}, {make([]echo.Point, 17), "-1", api.ErrSize},
		{points("0:0 0:1"), "0", api.ErrOrder}, {points("1:0 0:1"), "0", api.ErrOrder}, {points("0:0 1:1 1:2"), "0", api.ErrOrder}, {points("0:0 2:1 1:2"), "9", api.ErrOrder}, {points("0:0 2:1 3:2 4:0 4:0"), "-9", api.ErrOrder},
		{points("0:0 4:6"), "-1/1024", api.ErrNone}, {points("0:0 4:6"), "4097/1024", api.ErrNone}, {points("0:0 1:1 4:6"), "5", api.ErrNone}, {points("0:0 1:1 4:6"), "-5", api.ErrNone},
	} {
		if s, e := echo.Depth(c.table, num(c.signal), 3); s.Text() != "[0,0]" || e != c.want {
			t.Errorf("Depth of %s by %v: %s %v, want %v", c.signal, c.table, s.Text(), e, c.want)
		}
	}
}

// linear returns the depth for a signal between two points, and that depth enclosed step by step.
func linear(c, d echo.Point, signal dyad.Num, k int) (exact, lo, hi *big.Rat) {
	rise := product(new(big.Rat).Sub(rat(d.Depth), rat(c.Depth)), new(big.Rat).Sub(rat(signal), rat(c.Signal)))
	rise.Quo(rise, new(big.Rat).Sub(rat(d.Signal), rat(c.Signal)))
	from := rat(c.Depth)
	exact = new(big.Rat).Add(from, rise)
	return exact, floor(new(big.Rat).Add(from, floor(rise, k)), k), ceil(new(big.Rat).Add(from, ceil(rise, k)), k)
}

func TestP6_9Depths(t *testing.T) {
	d := newDice(14)
	for range 400 {
		k := d.from(0, 4)
		table := d.table(d.from(2, 16), 4, false)
		at := d.from(1, len(table)-1)
		near, far := table[at-1], table[at]
		signal := near.Signal.Add(far.Signal.Sub(near.Signal).Mul(d.num(0, 6)))
		if signal.Same(near.Signal) && at > 1 {
			continue
		}
		s := must[dyad.Span](t)(echo.Depth(table, signal, k))
		exact, lo, hi := linear(near, far, signal, k)
		if !sameEnds(s, lo, hi) || !has(s, exact) {
			t.Fatalf("Depth of %s with %d bits: %s, want [%s,%s]", signal.Text(), k, s.Text(), lo, hi)
		}
		both := dyad.Only(near.Depth).Hull(dyad.Only(far.Depth))
		room := unit(k).Add(unit(k))
		if s.Lo().Cmp(both.Lo().Sub(room)) < 0 || s.Hi().Cmp(both.Hi().Add(room)) > 0 {
			t.Fatalf("Depth between %s is %s with %d bits", both.Text(), s.Text(), k)
		}
	}
}

func TestP6_9Points(t *testing.T) {
	d := newDice(15)
	for range 300 {
		k := d.from(0, 6)
		table := d.table(d.from(2, 16), k, false)
		at := d.IntN(len(table))
		for i := range table {
			if i != at && i != at-1 {
				table[i].Depth = table[i].Depth.Add(unit(k + 2))
			}
		}
		p := table[at]
		if at == 0 {
			// Nothing is added to the first depth.
			table[1].Depth = table[1].Depth.Add(unit(k + 3))
		}
		if s := must[dyad.Span](t)(echo.Depth(table, p.Signal, k)); !s.Lo().Same(p.Depth) || !s.Hi().Same(p.Depth) {
			t.Fatalf("Depth at the point %d is %s, want %s", at, s.Text(), p.Depth.Text())
		}
	}
}

func TestP6_9Order(t *testing.T) {
	d := newDice(16)
	for range 400 {
		table, k := d.table(d.from(2, 16), 4, true), d.from(0, 4)
		all := dyad.Only(table[0].Signal).Hull(dyad.Only(table[len(table)-1].Signal))
		signals := d.within(all)
		if d.IntN(2) == 0 {
			// At a point, and a little above it.
			p := table[d.IntN(len(table)-1)]
			signals = dyad.Only(p.Signal).Hull(dyad.Only(p.Signal.Add(unit(9))))
		}
		lesser, greater := must[dyad.Span](t)(echo.Depth(table, signals.Lo(), k)), must[dyad.Span](t)(echo.Depth(table, signals.Hi(), k))
		if greater.Lo().Cmp(lesser.Lo()) < 0 {
			t.Fatalf("Depth of %s: %s, of %s: %s", signals.Lo().Text(), lesser.Text(), signals.Hi().Text(), greater.Text())
		}
	}
}
