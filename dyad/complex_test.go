package dyad_test

import (
	"math"
	"testing"

	"wallgauge/api"
	"wallgauge/dyad"
)

// words returns the texts of the parts of a complex number.
func words(x dyad.Cnum) string { return x.Re().Text() + " " + x.Im().Text() }

func TestP1_1ComplexArithmetic(t *testing.T) {
	a, b := dyad.Join(num("1/2"), num("3")), dyad.Join(num("-2"), num("5/4"))
	for _, c := range []struct{ got, want string }{
		{words(a), "1/2 3"}, {words(dyad.Cnum{}), "0 0"}, {words(a.Add(b)), "-3/2 17/4"}, {words(a.Sub(b)), "5/2 7/4"}, {words(a.Mul(b)), "-19/4 -43/8"},
		{words(a.Neg()), "-1/2 -3"}, {words(a.Conj()), "1/2 -3"}, {a.Norm().Text(), "37/4"},
	} {
		if c.got != c.want {
			t.Errorf("%s, want %s", c.got, c.want)
		}
	}
	if a.Zero() || dyad.Join(num("1"), num("0")).Zero() || dyad.Join(num("0"), num("1")).Zero() || !a.Sub(a).Zero() {
		t.Error("Zero is wrong")
	}
	if !a.Same(dyad.Join(num("1/2"), num("3"))) || a.Same(a.Conj()) || a.Same(a.Conj().Neg()) || a.Same(b) {
		t.Error("Same is wrong")
	}
}

func TestP1_1Complex(t *testing.T) {
	if x, e := dyad.Complex(complex(0.375, -1.5)); words(x) != "3/8 -3/2" || e != api.OK {
		t.Errorf("Complex: %s %v", words(x), e)
	}
	tiny := math.Float32frombits(1)
	if x, e := dyad.Complex(complex(tiny, -math.MaxFloat32)); !x.Re().Same(power(-149)) || !x.Im().Same(power(104).Sub(power(128))) || e != api.OK {
		t.Errorf("Complex of limits: %s %v", words(x), e)
	}
	inf, nan := float32(math.Inf(1)), float32(math.NaN())
	for _, c := range []complex64{complex(inf, 0), complex(0, inf), complex(-inf, 1), complex(1, -inf), complex(nan, 0), complex(0, nan), complex(nan, inf)} {
		if x, e := dyad.Complex(c); !x.Zero() || e != api.ErrArg {
			t.Errorf("Complex(%v): %s %v", c, words(x), e)
		}
	}
}

func TestP1_1NearOfComplex(t *testing.T) {
	third, _ := dyad.Quo(num("-1"), num("3"), 200)
	x := dyad.Join(third.Lo(), power(2000))
	if c := x.Near(); real(c) != -1.0/3 || !math.IsInf(imag(c), 1) {
		t.Errorf("Near: %v", c)
	}
	if c := x.Conj().Near64(); real(c) != -float32(1.0)/3 || !math.IsInf(float64(imag(c)), -1) {
		t.Errorf("Near64: %v", c)
	}
	x = dyad.Join(power(-2000).Neg(), power(-149))
	if c := x.Near(); c != complex(0, 0x1p-149) || math.Signbit(real(c)) {
		t.Errorf("Near of tiny parts: %v", c)
	}
	if c := x.Near64(); c != complex(0, 0x1p-149) || math.Signbit(float64(real(c))) {
		t.Errorf("Near64 of tiny parts: %v", c)
	}
}

func TestP1_1Dot(t *testing.T) {
	i, one := dyad.Join(num("0"), num("1")), dyad.Join(num("1"), num("0"))
	a := []dyad.Cnum{one.Add(i), one.Add(one)}
	if d, e := dyad.Dot(a, []dyad.Cnum{i, one}); words(d) != "3 -1" || e != api.OK {
		t.Errorf("Dot: %s %v", words(d), e)
	}
	for _, empty := range [][]dyad.Cnum{nil, {}} {
		if d, e := dyad.Dot(empty, nil); !d.Zero() || e != api.OK {
			t.Errorf("Dot of nothing: %s %v", words(d), e)
		}
		if d, e := dyad.Dot(a, empty); !d.Zero() || e != api.ErrSize {
			t.Errorf("Dot of two and nothing: %s %v", words(d), e)
		}
	}
	long := make([]dyad.Cnum, api.MaxDot+1)
	for k := range long {
		long[k] = one.Add(i)
	}
	if d, e := dyad.Dot(long[1:], long[1:]); words(d) != "8192 0" || e != api.OK {
		t.Errorf("Dot of 4096 elements: %s %v", words(d), e)
	}
	if d, e := dyad.Dot(long, long); !d.Zero() || e != api.ErrSize {
		t.Errorf("Dot of 4097 elements: %s %v", words(d), e)
	}
	if d, e := dyad.Dot(long[1:], long); !d.Zero() || e != api.ErrSize {
		t.Errorf("Dot of 4096 and 4097 elements: %s %v", words(d), e)
	}
}

func TestP1_2RingOfComplexNumbers(t *testing.T) {
	l := complexes()
	for _, x := range l {
		for _, y := range l {
			if !x.Add(y).Same(y.Add(x)) || !x.Mul(y).Same(y.Mul(x)) {
				t.Fatalf("%s and %s do not commute", words(x), words(y))
			}
			if !x.Add(y).Sub(y).Same(x) {
				t.Fatalf("Sub does not undo Add of %s and %s", words(x), words(y))
			}
			if !x.Mul(y).Norm().Same(x.Norm().Mul(y.Norm())) {
				t.Fatalf("the Norm of the product of %s and %s is %s", words(x), words(y), x.Mul(y).Norm().Text())
			}
			for _, z := range l {
				if !x.Add(y).Add(z).Same(x.Add(y.Add(z))) || !x.Mul(y).Mul(z).Same(x.Mul(y.Mul(z))) {
					t.Fatalf("%s, %s and %s do not associate", words(x), words(y), words(z))
				}
				if !x.Mul(y.Add(z)).Same(x.Mul(y).Add(x.Mul(z))) {
					t.Fatalf("%s, %s and %s do not distribute", words(x), words(y), words(z))
				}
			}
		}
	}
}

func TestP1_6Dots(t *testing.T) {
	l := complexes()
	for n := range len(l) {
		a, b := l[:n], l[len(l)-n:]
		d, e := dyad.Dot(a, b)
		exchanged, _ := dyad.Dot(b, a)
		if !exchanged.Same(d.Conj()) || e != api.OK {
			t.Errorf("Dot of exchanged lists: %s %s", words(d), words(exchanged))
		}
		own, _ := dyad.Dot(a, a)
		other, _ := dyad.Dot(b, b)
		var norms dyad.Num
		for _, x := range a {
			norms = norms.Add(x.Norm())
		}
		if !own.Re().Same(norms) || !own.Im().Zero() {
			t.Errorf("Dot with itself: %s, Norms %s", words(own), norms.Text())
		}
		if d.Norm().Cmp(own.Re().Mul(other.Re())) > 0 {
			t.Errorf("Dot is too great: %s", words(d))
		}
	}
	// Of lists that differ by a factor only, both sides are equal.
	factor := dyad.Join(num("3/4"), num("-5"))
	var turned []dyad.Cnum
	for _, x := range l {
		turned = append(turned, x.Mul(factor))
	}
	d, _ := dyad.Dot(l, turned)
	own, _ := dyad.Dot(l, l)
	other, _ := dyad.Dot(turned, turned)
	if !d.Norm().Same(own.Re().Mul(other.Re())) {
		t.Errorf("Dot of a multiple: %s", words(d))
	}
}
