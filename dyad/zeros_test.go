package dyad_test

import (
	"math/big"
	"testing"

	"wallgauge/api"
	"wallgauge/dyad"
)

// linear returns the polynomial x - a.
func linear(a dyad.Num) []dyad.Num { return []dyad.Num{a.Neg(), dyad.Int(1)} }

func TestP1_1ZerosExamples(t *testing.T) {
	for _, c := range []struct {
		p, a, b string
		want    int
	}{
		{"0 -1 0 1", "-2", "2", 3}, {"0 -1 0 1", "-1", "1", 2}, {"0 -1 0 1", "0", "1", 1}, {"0 -1 0 1", "1", "1", 0}, {"0 -1 0 1", "-1", "0", 1}, {"0 -1 0 1", "2", "9", 0},
		{"2 -3 0 1", "-3", "1", 2}, {"2 -3 0 1", "1", "3", 0}, {"2 -3 0 1", "-2", "1", 1}, {"2 -3 0 1", "-2", "0", 0}, {"2 -3 0 1", "-3", "-2", 1},
		{"5", "-100", "100", 0}, {"5 0 0", "-100", "100", 0}, {"1 0 1", "-100", "100", 0}, {"0 1", "0", "5", 0}, {"0 1", "-5", "0", 1}, {"0 1", "0", "0", 0},
		{"0 0 0 0 0 0 0 0 1", "-1", "1", 1}, {"0 0 0 0 0 0 0 0 1", "0", "1", 0}, {"0 0 0 0 0 0 0 0 1", "-1", "0", 1}, {"-1 0 0 0 0 0 0 0 1", "-1", "1", 1}, {"-1 0 0 0 0 0 0 0 1", "-2", "1", 2},
		{"-2 0 1", "1", "2", 1}, {"-2 0 1", "181/128", "3/2", 1}, {"-2 0 1", "91/64", "3/2", 0}, {"-1 2", "0", "1/2", 1}, {"-1 2", "1/2", "1", 0},
	} {
		if n, e := dyad.Zeros(list(c.p), num(c.a), num(c.b)); n != c.want || e != api.OK {
			t.Errorf("Zeros of %s above %s up to %s: %d %v, want %d", c.p, c.a, c.b, n, e, c.want)
		}
	}
}

func TestP1_1ErrorsOfZeros(t *testing.T) {
	for _, c := range []struct {
		p, a, b string
		err     api.Errno
	}{
		{"1 1", "1", "1/2", api.ErrOrder}, {"0", "1", "1/2", api.ErrOrder}, {"0", "0", "1", api.ErrNone}, {"0 0 0", "1", "1", api.ErrNone},
	} {
		if n, e := dyad.Zeros(list(c.p), num(c.a), num(c.b)); n != 0 || e != c.err {
			t.Errorf("Zeros of %s above %s up to %s: %d %v, want %v", c.p, c.a, c.b, n, e, c.err)
		}
	}
}

// TestP1_1ZerosByFactors counts the zeros of products whose zeros are known, several of them at the same place.
func TestP1_1ZerosByFactors(t *testing.T) {
	d := dice(21)
	places := list("-5/2 -1 -1/1024 0 1/4 1/2 3 18446744073709551617")
	none := [][]dyad.Num{list("1 0 1"), list("3 -1/2 1"), list("-7"), list("1/1024 0 0 0 1"), list("-1 -1 -1")}
	for range 300 {
		p := list("1")
		has := make([]bool, len(places))
		for len(p) <= api.MaxDegree-4 || d.next(3) > 0 {
			if q, e := dyad.Times(p, none[d.next(len(none))]); d.next(3) == 0 && e == api.OK {
				p = q
				continue
			}
			i := d.next(len(places))
			q, e := dyad.Times(p, linear(places[i]))
			if e != api.OK {
				break
			}
			p, has[i] = q, true
		}
		a, b := d.next(len(places)), d.next(len(places))
		if a > b {
			a, b = b, a
		}
		want := 0
		for i := a + 1; i <= b; i++ {
			if has[i] {
				want++
			}
		}
		if n, e := dyad.Zeros(p, places[a], places[b]); n != want || e != api.OK {
			t.Fatalf("Zeros of %s above %s up to %s: %d %v, want %d", texts(p), places[a].Text(), places[b].Text(), n, e, want)
		}
	}
}

// rests returns the number of changes of the sign at x in the chain of p's rests, calculated with fractions.
func rests(p []dyad.Num, x dyad.Num) int {
	var u, v []*big.Rat
	for i, c := range p {
		u = append(u, rat(c))
		if i > 0 {
			v = append(v, new(big.Rat).Mul(rat(c), big.NewRat(int64(i), 1)))
		}
	}
	u, v = cut(u), cut(v)
	n, last := 0, 0
	for len(u) > 0 {
		value := new(big.Rat)
		for i := range u {
			value.Mul(value, rat(x)).Add(value, u[len(u)-1-i])
		}
		if value.Sign()*last < 0 {
			n++
		}
		if value.Sign() != 0 {
			last = value.Sign()
		}
		u, v = v, negativeRest(u, v)
	}
	return n
}

// cut returns a list without the zeros at its end.
func cut(l []*big.Rat) []*big.Rat {
	for len(l) > 0 && l[len(l)-1].Sign() == 0 {
		l = l[:len(l)-1]
	}
	return l
}

// negativeRest returns the negative rest of u divided by v, none for a v without elements.
func negativeRest(u, v []*big.Rat) []*big.Rat {
	if len(v) == 0 {
		return nil
	}
	var r []*big.Rat
	for _, c := range u {
		r = append(r, new(big.Rat).Neg(c))
	}
	for len(r) >= len(v) {
		factor := new(big.Rat).Quo(r[len(r)-1], v[len(v)-1])
		for i := range v {
			at := len(r) - len(v) + i
			r[at].Sub(r[at], new(big.Rat).Mul(factor, v[i]))
		}
		r = cut(r[:len(r)-1])
	}
	return r
}

// TestP1_1ZerosBySturm counts the zeros of any polynomials between places that are none, by a chain of fractions.
func TestP1_1ZerosBySturm(t *testing.T) {
	d := dice(22)
	for range 400 {
		p := d.polynomial(9, 40)
		a, b := d.num(6), d.num(6)
		if a.Cmp(b) > 0 {
			a, b = b, a
		}
		atA, atB := must[dyad.Num](t)(dyad.At(p, a)), must[dyad.Num](t)(dyad.At(p, b))
		if atA.Zero() || atB.Zero() {
			continue
		}
		want := rests(p, a) - rests(p, b)
		if n, e := dyad.Zeros(p, a, b); n != want || e != api.OK {
			t.Fatalf("Zeros of %s above %s up to %s: %d %v, want %d", texts(p), a.Text(), b.Text(), n, e, want)
		}
	}
}

func TestP1_7Zeros(t *testing.T) {
	d := dice(23)
	places := list("-40 -3 -1 -1/2 0 3/8 1 2 50")
	for range 300 {
		p, q := d.polynomial(5, 4), d.polynomial(5, 4)
		i := d.next(len(places) - 2)
		k := i + d.next(len(places)-i)
		a, b, c := places[i], places[k], places[k+d.next(len(places)-k)]
		n, e := dyad.Zeros(p, a, b)
		if e == api.ErrNone {
			continue
		}
		further := must[int](t)(dyad.Zeros(p, b, c))
		all := must[int](t)(dyad.Zeros(p, a, c))
		if n+further != all {
			t.Fatalf("Zeros of %s: %d and %d, not %d", texts(p), n, further, all)
		}
		if m, e := dyad.Zeros(q, a, b); e == api.OK {
			both := must[int](t)(dyad.Zeros(times(p, q), a, b))
			if both > n+m || both < n || both < m {
				t.Fatalf("Zeros of %s and %s: %d and %d, of the product: %d", texts(p), texts(q), n, m, both)
			}
		}
		atA, atB := must[dyad.Num](t)(dyad.At(p, a)), must[dyad.Num](t)(dyad.At(p, b))
		if atA.Sign()*atB.Sign() < 0 && n == 0 {
			t.Fatalf("%s changes its sign from %s to %s without a zero", texts(p), a.Text(), b.Text())
		}
		slope := must[[]dyad.Num](t)(dyad.Derive(p))
		if m, e := dyad.Zeros(slope, a, b); e == api.OK && m < n-1 {
			t.Fatalf("%s has %d zeros, its derivative %d", texts(p), n, m)
		}
	}
}

func TestP1_1HurwitzExamples(t *testing.T) {
	for _, c := range []struct {
		p    string
		want bool
	}{
		{"2 3 1", true}, {"1 0 1", false}, {"-1 1", false}, {"1 1", true}, {"-2 -3 -1", true}, {"2 3 -1", false}, {"5", true}, {"-5", true}, {"5 0 0", true}, {"0 1", false}, {"0 0 1", false}, {"0 1 1", false},
		{"6 11 6 1", true}, {"7 1 1 1", false}, {"1 1 1 1", false}, {"1 2 1 1", true}, {"1 1 2 1", true}, {"6 11 6 1 0 0 0 0 0", true}, {"1 0 2 0 1", false}, {"1 1 0 1", false}, {"1 0 1 1", false},
		{"1 8 28 56 70 56 28 8 1", true}, {"1 8 28 56 70 56 28 -8 1", false}, {"1 1 1 1 1 1 1 1 1", false}, {"1/2 1/1024", true}, {"1/2 -1/1024", false}, {"1 1 1/1024", true}, {"1 0 0 0 1", false},
	} {
		if h, e := dyad.Hurwitz(list(c.p)); h != c.want || e != api.OK {
			t.Errorf("Hurwitz of %s: %v %v", c.p, h, e)
		}
	}
	for _, p := range []string{"0", "0 0 0 0 0 0 0 0 0"} {
		if h, e := dyad.Hurwitz(list(p)); h || e != api.ErrNone {
			t.Errorf("Hurwitz of %s: %v %v", p, h, e)
		}
	}
}

// minors reports whether all leading minors of Hurwitz's matrix of p are above 0, if its highest coefficient is.
func minors(p []dyad.Num) bool {
	var a []*big.Rat
	for _, c := range p {
		a = append(a, rat(c))
	}
	a = cut(a)
	n := len(a) - 1
	if a[n].Sign() < 0 {
		for _, c := range a {
			c.Neg(c)
		}
	}
	matrix := make([][]*big.Rat, n)
	for i := range matrix {
		for k := range n {
			c := new(big.Rat)
			if at := n - 1 - 2*k + i; at >= 0 && at <= n {
				c.Set(a[at])
			}
			matrix[i] = append(matrix[i], c)
		}
	}
	// The minors are all above 0 exactly if all pivots of an elimination without exchanges are.
	for i := range n {
		if matrix[i][i].Sign() <= 0 {
			return false
		}
		for r := i + 1; r < n; r++ {
			factor := new(big.Rat).Quo(matrix[r][i], matrix[i][i])
			for k := range n {
				matrix[r][k].Sub(matrix[r][k], new(big.Rat).Mul(factor, matrix[i][k]))
			}
		}
	}
	return true
}

// stable returns polynomials of each degree from 0 on that are Hurwitz, others that are nearly so, and others.
func stable(d *dice) []dyad.Num {
	factors := [][]dyad.Num{list("1 1"), list("3 1/2"), list("1/4 1"), list("1 1 1"), list("5 1/2 1"), list("9 1/16 2"), list("7"), list("-1/2")}
	rare := [][]dyad.Num{list("-1 1"), list("1 0 1"), list("0 1"), list("1 -1/2 1"), list("4 0 1")}
	p := list("1")
	for range d.next(6) {
		f := factors[d.next(len(factors))]
		if d.next(12) == 0 {
			f = rare[d.next(len(rare))]
		}
		if q, e := dyad.Times(p, f); e == api.OK {
			p = q
		}
	}
	if d.next(3) == 0 {
		if q, e := dyad.Plus(p, []dyad.Num{d.num(3)}); e == api.OK {
			p = q
		}
	}
	return p
}

func TestP1_1HurwitzByMinors(t *testing.T) {
	d := dice(31)
	counts := map[bool]int{}
	for i := range 1000 {
		p := stable(&d)
		if i%4 == 0 {
			p = d.polynomial(9, 8)
		}
		h, e := dyad.Hurwitz(p)
		if e == api.ErrNone {
			continue
		}
		if h != minors(p) || e != api.OK {
			t.Fatalf("Hurwitz of %s: %v %v", texts(p), h, e)
		}
		counts[h]++
	}
	if counts[true] < 100 || counts[false] < 100 {
		t.Errorf("too few of one sort: %v", counts)
	}
}

func TestP1_8Stability(t *testing.T) {
	d := dice(32)
	for range 500 {
		p, q := stable(&d), stable(&d)
		a, e := dyad.Hurwitz(p)
		b, err := dyad.Hurwitz(q)
		if e != api.OK || err != api.OK {
			continue
		}
		if product, e := dyad.Times(p, q); e == api.OK {
			if h := must[bool](t)(dyad.Hurwitz(product)); h != (a && b) {
				t.Fatalf("Hurwitz of %s and %s: %v and %v, of the product: %v", texts(p), texts(q), a, b, h)
			}
		}
		for _, factor := range list("-1 3 -5/64 18446744073709551616") {
			if h := must[bool](t)(dyad.Hurwitz(times(p, []dyad.Num{factor}))); h != a {
				t.Fatalf("Hurwitz of %s times %s: %v", texts(p), factor.Text(), h)
			}
		}
		if !p[0].Zero() {
			var back []dyad.Num
			for i := range p {
				back = append(back, p[len(p)-1-i])
			}
			if h := must[bool](t)(dyad.Hurwitz(back)); h != a {
				t.Fatalf("Hurwitz of %s: %v, of the opposite order: %v", texts(p), a, h)
			}
		}
		if !a {
			continue
		}
		for _, c := range p {
			if c.Sign() != p[0].Sign() || c.Zero() {
				t.Fatalf("%s is Hurwitz with different signs", texts(p))
			}
		}
		if n := must[int](t)(dyad.Zeros(p, dyad.Int(-1).Mul(power(-60)), power(60))); n != 0 {
			t.Fatalf("%s is Hurwitz with %d zeros from 0 on", texts(p), n)
		}
	}
}
