package dyad_test

import (
	"math"
	"testing"

	"wallgauge/api"
	"wallgauge/dyad"
)

// same reports whether spans have the same ends.
func same(x, y dyad.Span) bool { return x.Lo().Same(y.Lo()) && x.Hi().Same(y.Hi()) }

func TestP1_1Make(t *testing.T) {
	s, e := dyad.Make(num("-1/2"), num("3"))
	if s.Text() != "[-1/2,3]" || s.Lo().Text() != "-1/2" || s.Hi().Text() != "3" || s.Width().Text() != "7/2" || e != api.OK {
		t.Errorf("Make: %s %v", s.Text(), e)
	}
	if s, e := dyad.Make(num("3"), num("3")); s.Text() != "[3,3]" || !s.Width().Zero() || e != api.OK {
		t.Errorf("Make of one number: %s %v", s.Text(), e)
	}
	if s, e := dyad.Make(num("3"), num("5/2")); s.Text() != "[0,0]" || e != api.ErrOrder {
		t.Errorf("Make out of order: %s %v", s.Text(), e)
	}
	if s := dyad.Only(num("-5/8")); s.Text() != "[-5/8,-5/8]" {
		t.Errorf("Only: %s", s.Text())
	}
	if s := (dyad.Span{}); s.Text() != "[0,0]" {
		t.Errorf("the zero value: %s", s.Text())
	}
}

func TestP1_1Quo(t *testing.T) {
	for _, c := range []struct {
		x, y string
		k    int
		want string
		err  api.Errno
	}{
		{"1", "3", 2, "[1/4,1/2]", 0}, {"-1", "3", 2, "[-1/2,-1/4]", 0}, {"1", "-3", 2, "[-1/2,-1/4]", 0}, {"-1", "-3", 2, "[1/4,1/2]", 0},
		{"1", "3", 0, "[0,1]", 0}, {"-1", "3", 0, "[-1,0]", 0}, {"1", "3", -5, "[0,1]", 0}, {"1", "3", math.MinInt, "[0,1]", 0},
		{"6", "3", 0, "[2,2]", 0}, {"3", "4", 2, "[3/4,3/4]", 0}, {"3", "4", 1, "[1/2,1]", 0}, {"0", "7", 3, "[0,0]", 0}, {"5/4", "1/1024", 0, "[1280,1280]", 0},
		{"1/1024", "5", 3, "[0,1/8]", 0}, {"1", "0", 3, "[0,0]", api.ErrZero}, {"0", "0", 0, "[0,0]", api.ErrZero},
		{"340282366920938463463374607431768211457", "18446744073709551617", 1, "[18446744073709551615,36893488147419103231/2]", 0},
	} {
		if s, e := dyad.Quo(num(c.x), num(c.y), c.k); s.Text() != c.want || e != c.err {
			t.Errorf("Quo of %s, %s with %d bits: %s %v, want %s", c.x, c.y, c.k, s.Text(), e, c.want)
		}
	}
	a, _ := dyad.Quo(num("1"), num("3"), 256)
	b, _ := dyad.Quo(num("1"), num("3"), 257)
	if !same(a, b) || !a.Width().Same(power(-256)) {
		t.Errorf("Quo with 257 bits: %s", b.Text())
	}
}

func TestP1_1RootOfNumber(t *testing.T) {
	for _, c := range []struct {
		x    string
		k    int
		want string
		err  api.Errno
	}{
		{"2", 2, "[5/4,3/2]", 0}, {"9/16", 2, "[3/4,3/4]", 0}, {"9/16", 1, "[1/2,1]", 0}, {"0", 0, "[0,0]", 0}, {"0", 256, "[0,0]", 0}, {"16", 0, "[4,4]", 0},
		{"15", 0, "[3,4]", 0}, {"17", 0, "[4,5]", 0}, {"1/2", 0, "[0,1]", 0}, {"1/1024", 3, "[0,1/8]", 0}, {"2", -1, "[1,2]", 0}, {"1/4", 0, "[0,1]", 0},
		{"-1", 2, "[0,0]", api.ErrArg}, {"-1/1024", 0, "[0,0]", api.ErrArg}, {"340282366920938463426481119284349108225", 0, "[18446744073709551615,18446744073709551615]", 0},
		{"340282366920938463426481119284349108224", 0, "[18446744073709551614,18446744073709551615]", 0},
	} {
		if s, e := dyad.Root(num(c.x), c.k); s.Text() != c.want || e != c.err {
			t.Errorf("Root of %s with %d bits: %s %v, want %s", c.x, c.k, s.Text(), e, c.want)
		}
	}
	a, _ := dyad.Root(num("2"), 256)
	b, _ := dyad.Root(num("2"), math.MaxInt)
	if !same(a, b) || !a.Width().Same(power(-256)) {
		t.Errorf("Root with many bits: %s", b.Text())
	}
}

func TestP1_1SpanArithmetic(t *testing.T) {
	for _, c := range []struct{ got, want string }{
		{span("-1", "2").Add(span("1/2", "3")).Text(), "[-1/2,5]"},
		{span("-1", "2").Sub(span("1/2", "3")).Text(), "[-4,3/2]"},
		{span("-1", "2").Mul(span("-1", "2")).Text(), "[-2,4]"},
		{span("-1", "2").Mul(span("-3", "-1")).Text(), "[-6,3]"},
		{span("1/2", "3").Mul(span("-1/4", "1/2")).Text(), "[-3/4,3/2]"},
		{span("-3", "-2").Mul(span("-5", "-4")).Text(), "[8,15]"},
		{span("-1", "2").Mul(dyad.Span{}).Text(), "[0,0]"},
		{span("-1", "2").Neg().Text(), "[-2,1]"},
		{span("-1", "2").Square().Text(), "[0,4]"},
		{span("-3", "2").Square().Text(), "[0,9]"},
		{span("-3", "-2").Square().Text(), "[4,9]"},
		{span("1/2", "2").Square().Text(), "[1/4,4]"},
		{span("-3/2", "0").Square().Text(), "[0,9/4]"},
		{span("0", "3/2").Square().Text(), "[0,9/4]"},
		{span("-5/8", "5/8").Round(2).Text(), "[-3/4,3/4]"},
		{span("-5/8", "5/8").Round(3).Text(), "[-5/8,5/8]"},
		{span("1/8", "5/8").Round(-7).Text(), "[0,1]"},
	} {
		if c.got != c.want {
			t.Errorf("%s, want %s", c.got, c.want)
		}
	}
}

func TestP1_1DivOfSpans(t *testing.T) {
	for _, c := range []struct {
		x, y dyad.Span
		k    int
		want string
		err  api.Errno
	}{
		{span("1", "2"), span("3", "4"), 2, "[1/4,3/4]", 0}, {span("-1", "2"), span("3", "4"), 2, "[-1/2,3/4]", 0}, {span("-2", "-1"), span("3", "4"), 2, "[-3/4,-1/4]", 0},
		{span("1", "2"), span("-4", "-3"), 2, "[-3/4,-1/4]", 0}, {span("-2", "-1"), span("-4", "-3"), 2, "[1/4,3/4]", 0}, {span("-1", "2"), span("-4", "-1"), 0, "[-2,1]", 0},
		{dyad.Span{}, span("3", "4"), 5, "[0,0]", 0}, {span("1", "1"), span("4", "4"), 2, "[1/4,1/4]", 0}, {span("1", "1"), span("4", "4"), -2, "[0,1]", 0},
		{span("1", "2"), span("-1", "2"), 2, "[0,0]", api.ErrZero}, {span("1", "2"), span("0", "2"), 2, "[0,0]", api.ErrZero}, {span("1", "2"), span("-2", "0"), 2, "[0,0]", api.ErrZero}, {span("0", "0"), dyad.Span{}, 2, "[0,0]", api.ErrZero},
	} {
		if s, e := c.x.Div(c.y, c.k); s.Text() != c.want || e != c.err {
			t.Errorf("%s by %s with %d bits: %s %v, want %s", c.x.Text(), c.y.Text(), c.k, s.Text(), e, c.want)
		}
	}
}

func TestP1_1RootOfSpan(t *testing.T) {
	for _, c := range []struct {
		x    dyad.Span
		k    int
		want string
		err  api.Errno
	}{
		{span("2", "9"), 2, "[5/4,3]", 0}, {span("2", "3"), 0, "[1,2]", 0}, {dyad.Span{}, 0, "[0,0]", 0}, {span("0", "1/2"), 1, "[0,1]", 0},
		{span("-1/8", "3"), 2, "[0,0]", api.ErrArg}, {span("-3", "-2"), 2, "[0,0]", api.ErrArg},
	} {
		if s, e := c.x.Root(c.k); s.Text() != c.want || e != c.err {
			t.Errorf("Root of %s with %d bits: %s %v, want %s", c.x.Text(), c.k, s.Text(), e, c.want)
		}
	}
}

func TestP1_1SpanOrder(t *testing.T) {
	x := span("-1", "2")
	for s, want := range map[string]bool{"-1": true, "2": true, "0": true, "-9/8": false, "17/8": false} {
		if x.Has(num(s)) != want {
			t.Errorf("%s has %s: %v", x.Text(), s, !want)
		}
	}
	for _, c := range []struct {
		y                 dyad.Span
		in, around, ahead bool
		hull, meet        string
		err               api.Errno
	}{
		{span("-1", "2"), true, true, false, "[-1,2]", "[-1,2]", 0}, {span("-2", "2"), true, false, false, "[-2,2]", "[-1,2]", 0}, {span("0", "1"), false, true, false, "[-1,2]", "[0,1]", 0},
		{span("2", "5"), false, false, false, "[-1,5]", "[2,2]", 0}, {span("17/8", "5"), false, false, true, "[-1,5]", "[0,0]", api.ErrNone}, {span("-5", "-2"), false, false, false, "[-5,2]", "[0,0]", api.ErrNone},
		{span("-5", "-1"), false, false, false, "[-5,2]", "[-1,-1]", 0}, {span("1", "3"), false, false, false, "[-1,3]", "[1,2]", 0}, {span("-1", "9"), true, false, false, "[-1,9]", "[-1,2]", 0},
	} {
		if x.In(c.y) != c.in || c.y.In(x) != c.around || x.Before(c.y) != c.ahead {
			t.Errorf("%s and %s: in %v, around %v, ahead %v", x.Text(), c.y.Text(), x.In(c.y), c.y.In(x), x.Before(c.y))
		}
		if m, e := x.Meet(c.y); m.Text() != c.meet || e != c.err {
			t.Errorf("%s meets %s: %s %v", x.Text(), c.y.Text(), m.Text(), e)
		}
		if x.Hull(c.y).Text() != c.hull || c.y.Hull(x).Text() != c.hull {
			t.Errorf("%s and %s have the hull %s", x.Text(), c.y.Text(), x.Hull(c.y).Text())
		}
	}
}

func TestP1_5Inclusion(t *testing.T) {
	for _, x := range spans() {
		for _, y := range spans() {
			sum, difference, product := x.Add(y), x.Sub(y), x.Mul(y)
			quotient, e := x.Div(y, 7)
			for _, a := range within(x) {
				for _, b := range within(y) {
					if !sum.Has(a.Add(b)) || !difference.Has(a.Sub(b)) || !product.Has(a.Mul(b)) {
						t.Fatalf("%s of %s and %s of %s", a.Text(), x.Text(), b.Text(), y.Text())
					}
					if e != api.OK {
						continue
					}
					if !hasQuotient(quotient, a, b) {
						t.Fatalf("%s of %s by %s of %s is not in %s", a.Text(), x.Text(), b.Text(), y.Text(), quotient.Text())
					}
				}
			}
		}
		for _, a := range within(x) {
			if !x.Square().Has(a.Mul(a)) || !x.Neg().Has(a.Neg()) {
				t.Fatalf("%s of %s", a.Text(), x.Text())
			}
			if r, e := x.Root(7); e == api.OK && (r.Lo().Mul(r.Lo()).Cmp(a) > 0 || r.Hi().Mul(r.Hi()).Cmp(a) < 0) {
				t.Fatalf("the root of %s of %s is not in %s", a.Text(), x.Text(), r.Text())
			}
		}
	}
}

// hasQuotient reports whether a/b is in a span.
func hasQuotient(s dyad.Span, a, b dyad.Num) bool {
	if b.Sign() < 0 {
		a, b = a.Neg(), b.Neg()
	}
	return s.Lo().Mul(b).Cmp(a) <= 0 && a.Cmp(s.Hi().Mul(b)) <= 0
}

func TestP1_5SpansInSpans(t *testing.T) {
	for _, x := range spans() {
		for _, y := range spans() {
			quotient, e := x.Div(y, 5)
			for _, a := range shrunk(x) {
				if !a.In(x) || !a.Add(y).In(x.Add(y)) || !a.Sub(y).In(x.Sub(y)) || !y.Sub(a).In(y.Sub(x)) || !a.Mul(y).In(x.Mul(y)) {
					t.Fatalf("%s of %s, and %s", a.Text(), x.Text(), y.Text())
				}
				if q, err := a.Div(y, 5); err != e || !q.In(quotient) {
					t.Fatalf("%s of %s by %s: %s %v", a.Text(), x.Text(), y.Text(), q.Text(), err)
				}
				if q, err := y.Div(a, 5); err == api.OK {
					if whole, err := y.Div(x, 5); err == api.OK && !q.In(whole) {
						t.Fatalf("%s by %s of %s: %s", y.Text(), a.Text(), x.Text(), q.Text())
					}
				}
			}
		}
		for _, a := range shrunk(x) {
			if !a.Square().In(x.Square()) || !a.Neg().In(x.Neg()) || !a.Round(3).In(x.Round(3)) {
				t.Fatalf("%s of %s", a.Text(), x.Text())
			}
			whole, e := x.Root(5)
			if part, err := a.Root(5); e == api.OK && (err != api.OK || !part.In(whole)) {
				t.Fatalf("the root of %s of %s: %s %v", a.Text(), x.Text(), part.Text(), err)
			}
		}
	}
}

func TestP1_5Tight(t *testing.T) {
	for _, x := range samples() {
		for _, k := range []int{0, 3, 66, 256} {
			unit := power(-k)
			for _, y := range samples() {
				q, e := dyad.Quo(x, y, k)
				if e != api.OK {
					continue
				}
				exact, err := x.Over(y)
				if err == api.OK && exact.Bits() <= k {
					if !same(q, dyad.Only(exact)) {
						t.Fatalf("%s by %s with %d bits is not exact: %s", x.Text(), y.Text(), k, q.Text())
					}
				} else if !hasQuotient(q, x, y) || !q.Width().Same(unit) || q.Lo().Bits() > k {
					t.Fatalf("%s by %s with %d bits: %s", x.Text(), y.Text(), k, q.Text())
				}
			}
			y := x.Abs()
			r, _ := dyad.Root(y, k)
			if lo := r.Lo().Mul(r.Lo()); lo.Cmp(y) > 0 || r.Lo().Sign() < 0 || r.Hi().Mul(r.Hi()).Cmp(y) < 0 || r.Lo().Bits() > k || !lo.Same(y) && !r.Width().Same(unit) {
				t.Fatalf("the root of %s with %d bits: %s", y.Text(), k, r.Text())
			}
			square := x.Down(k)
			if r, _ := dyad.Root(square.Mul(square), k); !same(r, dyad.Only(square.Abs())) {
				t.Fatalf("the root of the square of %s with %d bits is not exact: %s", square.Text(), k, r.Text())
			}
		}
	}
}
