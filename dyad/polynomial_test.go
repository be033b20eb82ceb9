package dyad_test

import (
	"math/big"
	"testing"

	"wallgauge/api"
	"wallgauge/dyad"
)

// times returns the product of polynomials whose product has a degree of at most MaxDegree.
func times(factors ...[]dyad.Num) []dyad.Num {
	p := list("1")
	for _, q := range factors {
		var e api.Errno
		if p, e = dyad.Times(p, q); e != api.OK {
			panic("the degree is too high")
		}
	}
	return p
}

// long returns a polynomial with one element more than allowed, all of which are 0.
func long() []dyad.Num { return make([]dyad.Num, api.MaxDegree+2) }

func TestP1_1ErrorsOfPolynomials(t *testing.T) {
	good := list("1 1")
	for _, bad := range [][]dyad.Num{nil, {}, long(), append(long(), dyad.Int(1))} {
		if x, e := dyad.At(bad, dyad.Int(1)); !x.Zero() || e != api.ErrSize {
			t.Errorf("At: %s %v", x.Text(), e)
		}
		for _, pair := range [][2][]dyad.Num{{bad, good}, {good, bad}, {bad, bad}} {
			if l, e := dyad.Plus(pair[0], pair[1]); len(l) != 0 || e != api.ErrSize {
				t.Errorf("Plus: %s %v", texts(l), e)
			}
			if l, e := dyad.Times(pair[0], pair[1]); len(l) != 0 || e != api.ErrSize {
				t.Errorf("Times: %s %v", texts(l), e)
			}
		}
		if l, e := dyad.Derive(bad); len(l) != 0 || e != api.ErrSize {
			t.Errorf("Derive: %s %v", texts(l), e)
		}
		if n, e := dyad.Zeros(bad, dyad.Int(2), dyad.Int(1)); n != 0 || e != api.ErrSize {
			t.Errorf("Zeros: %d %v", n, e)
		}
		if h, e := dyad.Hurwitz(bad); h || e != api.ErrSize {
			t.Errorf("Hurwitz: %v %v", h, e)
		}
		if s, e := dyad.Bounds(bad, span("1", "2"), 3); s.Text() != "[0,0]" || e != api.ErrSize {
			t.Errorf("Bounds: %s %v", s.Text(), e)
		}
	}
}

func TestP1_1At(t *testing.T) {
	for _, c := range []struct{ p, x, want string }{
		{"0 -1 0 1", "1/2", "-3/8"}, {"7", "100", "7"}, {"7 0 0", "100", "7"}, {"0", "3", "0"}, {"0 0", "3", "0"}, {"1/2 1/4", "-2", "0"}, {"1 1 1 1 1 1 1 1 1", "2", "511"},
		{"0 0 0 0 0 0 0 0 1", "-1/2", "1/256"},
	} {
		if x, e := dyad.At(list(c.p), num(c.x)); x.Text() != c.want || e != api.OK {
			t.Errorf("%s at %s: %s %v", c.p, c.x, x.Text(), e)
		}
	}
}

func TestP1_1Plus(t *testing.T) {
	for _, c := range []struct{ p, q, want string }{
		{"1 2", "3 4 5", "4 6 5"}, {"3 4 5", "1 2", "4 6 5"}, {"1 2 3", "1 2 -3", "2 4"}, {"1 2", "-1 -2", "0"}, {"0", "0 0 0", "0"}, {"1/2 0 0", "1/2", "1"},
		{"1 1 1 1 1 1 1 1 1", "0 0 0 0 0 0 0 0 -1", "1 1 1 1 1 1 1 1"}, {"0 0 1/4", "0", "0 0 1/4"},
	} {
		if l, e := dyad.Plus(list(c.p), list(c.q)); texts(l) != c.want || e != api.OK {
			t.Errorf("%s plus %s: %s %v", c.p, c.q, texts(l), e)
		}
	}
}

func TestP1_1Times(t *testing.T) {
	for _, c := range []struct {
		p, q, want string
		err        api.Errno
	}{
		{"1 1", "-1 1 0", "-1 0 1", 0}, {"0", "1 2 3", "0", 0}, {"1 2 3", "0 0", "0", 0}, {"1/2", "4 0 6", "2 0 3", 0}, {"0 1", "0 0 0 0 0 0 0 1", "0 0 0 0 0 0 0 0 1", 0},
		{"0 0 1", "0 0 0 0 0 0 0 1", "", api.ErrSize}, {"0 0 0 0 1 0 0 0 0", "0 0 0 0 1 0 0 0", "0 0 0 0 0 0 0 0 1", 0}, {"0 0 0 0 0 0 0 0 1", "0 0 0 0 0 0 0 0 1", "", api.ErrSize},
		{"0 0 0 0 0 0 0 0 1", "0 0 0 0 0 0 0 0 0", "0", 0}, {"0 0 0 0 0 0 0 0 1", "-3", "0 0 0 0 0 0 0 0 -3", 0}, {"1 1 1", "1 -1 1", "1 0 1 0 1", 0},
	} {
		if l, e := dyad.Times(list(c.p), list(c.q)); texts(l) != c.want || e != c.err {
			t.Errorf("%s times %s: %s %v", c.p, c.q, texts(l), e)
		}
	}
}

func TestP1_1Derive(t *testing.T) {
	for _, c := range []struct{ p, want string }{
		{"5", "0"}, {"0", "0"}, {"5 0 0", "0"}, {"1 2 3 4", "2 6 12"}, {"0 1/8 0", "1/8"}, {"0 0 0 0 0 0 0 0 1/8", "0 0 0 0 0 0 0 1"},
	} {
		if l, e := dyad.Derive(list(c.p)); texts(l) != c.want || e != api.OK {
			t.Errorf("Derive %s: %s %v", c.p, texts(l), e)
		}
	}
}

func TestP1_1BoundsExamples(t *testing.T) {
	for _, c := range []struct {
		p    string
		s    dyad.Span
		k    int
		want string
	}{
		{"0 0 1", span("-1", "1"), 0, "[-1,1]"}, {"7/2", span("-1", "1"), 3, "[7/2,7/2]"}, {"7/2", span("-1", "1"), -3, "[3,4]"}, {"0 0 0", span("-1", "1"), 0, "[0,0]"},
		{"1 2", span("1/2", "3"), 0, "[2,7]"}, {"1 -2", span("1/2", "3"), 0, "[-5,0]"}, {"0 0 1", span("3", "3"), 0, "[9,9]"}, {"0 0 1 0 0", span("-1", "1"), 0, "[-1,1]"},
		{"0 1 0 1", span("0", "1"), 8, "[0,2]"}, {"0 1 -1", span("0", "1"), 4, "[0,1/2]"}, {"0 0 1 -1", span("0", "1"), 2, "[0,1/2]"}, {"0 0 1 -1", span("0", "1"), 4, "[0,3/8]"}, {"0 0 -1 1", span("0", "1"), 4, "[-3/8,0]"},
	} {
		if b, e := dyad.Bounds(list(c.p), c.s, c.k); b.Text() != c.want || e != api.OK {
			t.Errorf("Bounds of %s over %s with %d bits: %s %v, want %s", c.p, c.s.Text(), c.k, b.Text(), e, c.want)
		}
	}
}

// bernstein returns Bernstein's coefficients of p over s, as the document describes them.
func bernstein(p []dyad.Num, s dyad.Span) []*big.Rat {
	n := 0
	for i, x := range p {
		if !x.Zero() {
			n = i
		}
	}
	lo, width := rat(s.Lo()), rat(s.Width())
	c := make([]*big.Rat, n+1)
	for j := range c {
		c[j] = new(big.Rat)
		for i := j; i <= n; i++ {
			term := new(big.Rat).SetInt(new(big.Int).Binomial(int64(i), int64(j)))
			term.Mul(term, rat(p[i]))
			for range i - j {
				term.Mul(term, lo)
			}
			for range j {
				term.Mul(term, width)
			}
			c[j].Add(c[j], term)
		}
	}
	out := make([]*big.Rat, n+1)
	for i := range out {
		out[i] = new(big.Rat)
		for j := range i + 1 {
			ways := new(big.Rat).SetFrac(new(big.Int).Binomial(int64(i), int64(j)), new(big.Int).Binomial(int64(n), int64(j)))
			out[i].Add(out[i], ways.Mul(ways, c[j]))
		}
	}
	return out
}

func TestP1_1Bounds(t *testing.T) {
	d := dice(11)
	for range 300 {
		p := d.polynomial(9, 70)
		ends := []dyad.Num{d.num(20), d.num(20)}
		s := dyad.Only(ends[0]).Hull(dyad.Only(ends[1]))
		k := d.next(80)
		b := must[dyad.Span](t)(dyad.Bounds(p, s, k))
		l := bernstein(p, s)
		least, greatest := l[0], l[0]
		for _, c := range l {
			if c.Cmp(least) < 0 {
				least = c
			}
			if c.Cmp(greatest) > 0 {
				greatest = c
			}
		}
		unit := rat(power(-k))
		below, above := new(big.Rat).Sub(least, rat(b.Lo())), new(big.Rat).Sub(rat(b.Hi()), greatest)
		if below.Sign() < 0 || above.Sign() < 0 || below.Cmp(unit) >= 0 || above.Cmp(unit) >= 0 || b.Lo().Bits() > k || b.Hi().Bits() > k {
			t.Fatalf("Bounds of %s over %s with %d bits: %s, coefficients from %s to %s", texts(p), s.Text(), k, b.Text(), least, greatest)
		}
	}
}

func TestP1_9Bounds(t *testing.T) {
	d := dice(12)
	for range 100 {
		p := d.polynomial(9, 30)
		for _, s := range spans()[:9] {
			k := d.next(20)
			b := must[dyad.Span](t)(dyad.Bounds(p, s, k))
			for _, x := range within(s) {
				v := must[dyad.Num](t)(dyad.At(p, x))
				if !b.Has(v) {
					t.Fatalf("%s at %s is %s, Bounds over %s: %s", texts(p), x.Text(), v.Text(), s.Text(), b.Text())
				}
			}
			for _, part := range shrunk(s) {
				if c := must[dyad.Span](t)(dyad.Bounds(p, part, k)); !c.In(b) {
					t.Fatalf("Bounds of %s over %s: %s, over %s: %s", texts(p), part.Text(), c.Text(), s.Text(), b.Text())
				}
			}
			if c := must[dyad.Span](t)(dyad.Bounds(p, s, k+1+d.next(9))); !c.In(b) {
				t.Fatalf("Bounds of %s over %s with %d bits: %s, with more: %s", texts(p), s.Text(), k, b.Text(), c.Text())
			}
		}
	}
}

func TestP1_9BoundsClampBits(t *testing.T) {
	p, s := list("0 0 1 -1"), span("0", "1/8")
	a := must[dyad.Span](t)(dyad.Bounds(p, s, 256))
	b := must[dyad.Span](t)(dyad.Bounds(p, s, 257))
	if !same(a, b) {
		t.Errorf("with 256 bits: %s, with 257: %s", a.Text(), b.Text())
	}
}

func TestR4ArgumentsStay(t *testing.T) {
	p := list("0 3 1/2 -1 0 9 9 9")
	q := list("-1 1 0 9 9 9")
	before := [2]string{texts(p), texts(q)}
	dyad.At(p[:5], num("3"))
	sum, _ := dyad.Plus(p[:5], q[:3])
	product, _ := dyad.Times(p[:5], q[:3])
	slope, _ := dyad.Derive(p[:5])
	dyad.Zeros(p[:5], num("0"), num("1"))
	dyad.Hurwitz(p[:5])
	dyad.Bounds(p[:5], span("0", "1"), 3)
	same, _ := dyad.Plus(p[:5], list("0"))
	for _, l := range [][]dyad.Num{sum, product, slope, same} {
		for i := range l {
			l[i] = num("77")
		}
		l = append(l, num("78"))
		_ = l
	}
	if after := [2]string{texts(p), texts(q)}; after != before {
		t.Errorf("%v became %v", before, after)
	}
	a := complexes()
	was := words(a[0]) + words(a[1])
	dyad.Dot(a[:2], a[1:3])
	if words(a[0])+words(a[1]) != was {
		t.Error("Dot changed its arguments")
	}
}
