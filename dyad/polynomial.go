package dyad

import (
	"slices"

	"wallgauge/api"
)

// checkPolynomial returns the error of a polynomial.
func checkPolynomial(p []Num) api.Errno {
	if len(p) == 0 || len(p) > api.MaxDegree+1 {
		return api.ErrSize
	}
	return api.OK
}

// checkPolynomials returns the error of p, and then that of q.
func checkPolynomials(p, q []Num) api.Errno {
	if e := checkPolynomial(p); e != api.OK {
		return e
	}
	return checkPolynomial(q)
}

// trimmed returns a copy of p with just degree + 1 elements, or with the element 0 alone.
func trimmed(p []Num) []Num {
	n := len(p)
	for n > 0 && p[n-1].Zero() {
		n--
	}
	if n == 0 {
		return make([]Num, 1)
	}
	return slices.Clone(p[:n])
}

// isZero reports whether a trimmed polynomial is 0.
func isZero(p []Num) bool { return len(p) == 1 && p[0].Zero() }

// value returns the value of p at x.
func value(p []Num, x Num) Num {
	var v Num
	for i := range p {
		v = v.Mul(x).Add(p[len(p)-1-i])
	}
	return v
}

// product returns p q, trimmed.
func product(p, q []Num) []Num {
	out := make([]Num, len(p)+len(q)-1)
	for i := range p {
		for k := range q {
			out[i+k] = out[i+k].Add(p[i].Mul(q[k]))
		}
	}
	return trimmed(out)
}

// derivative returns the derivative of p, trimmed.
func derivative(p []Num) []Num {
	out := make([]Num, len(p)-1)
	for i := range out {
		out[i] = p[i+1].Mul(Int(int64(i + 1)))
	}
	return trimmed(out)
}

// At returns the value of a polynomial.
func At(p []Num, x Num) (Num, api.Errno) {
	if e := checkPolynomial(p); e != api.OK {
		return Num{}, e
	}
	return value(p, x), api.OK
}

// Plus returns the sum of two polynomials.
func Plus(p, q []Num) ([]Num, api.Errno) {
	if e := checkPolynomials(p, q); e != api.OK {
		return nil, e
	}
	out := make([]Num, max(len(p), len(q)))
	copy(out, p)
	for i := range q {
		out[i] = out[i].Add(q[i])
	}
	return trimmed(out), api.OK
}

// Times returns the product of two polynomials.
func Times(p, q []Num) ([]Num, api.Errno) {
	if e := checkPolynomials(p, q); e != api.OK {
		return nil, e
	}
	out := product(trimmed(p), trimmed(q))
	if len(out) > api.MaxDegree+1 {
		return nil, api.ErrSize
	}
	return out, api.OK
}

// Derive returns the derivative of a polynomial.
func Derive(p []Num) ([]Num, api.Errno) {
	if e := checkPolynomial(p); e != api.OK {
		return nil, e
	}
	return derivative(p), api.OK
}

// Bounds returns a span of the values of a polynomial over a span.
func Bounds(p []Num, s Span, k int) (Span, api.Errno) {
	if e := checkPolynomial(p); e != api.OK {
		return Span{}, e
	}
	p = trimmed(p)
	coefficients := bernstein(stretched(p, s))
	all := hull(coefficients[0], coefficients[1:]...)
	// The coefficients are divided by the factorial of the degree only here, since the quotients need not be dyadic.
	return all.Div(Only(Int(factorial(len(p)-1))), k)
}

// stretched returns the coefficients, as many as p has, of the polynomial in t that p is at Lo + t (Hi - Lo).
func stretched(p []Num, s Span) []Num {
	line := []Num{s.lo, s.Width()}
	c := make([]Num, 1)
	for i := range p {
		c = product(c, line)
		c[0] = c[0].Add(p[len(p)-1-i])
	}
	out := make([]Num, len(p))
	copy(out, c)
	return out
}

// bernstein returns Bernstein's coefficients of the polynomial c, multiplied by the factorial of its degree n. The number of ways to choose j of i, divided by that to choose j of n, is i! (n - j)! divided by (i - j)! n!.
func bernstein(c []Num) []Num {
	n := len(c) - 1
	out := make([]Num, n+1)
	for i := range out {
		weights := make([]Num, i+1)
		for j := range weights {
			weights[j] = Int(factorial(i) / factorial(i-j) * factorial(n-j))
		}
		out[i] = inner(c[:i+1], weights)
	}
	return out
}

// factorial returns the product of the integers from 1 to n.
func factorial(n int) int64 {
	f := int64(1)
	for i := range n {
		f *= int64(i + 1)
	}
	return f
}
