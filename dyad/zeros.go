package dyad

import (
	"slices"

	"wallgauge/api"
)

// Zeros returns how many zeros a polynomial has above a, and up to b.
func Zeros(p []Num, a, b Num) (int, api.Errno) {
	if e := checkPolynomial(p); e != api.OK {
		return 0, e
	}
	if a.Cmp(b) > 0 {
		return 0, api.ErrOrder
	}
	p = trimmed(p)
	if isZero(p) {
		return 0, api.ErrNone
	}
	// Sturm's chain counts also the zeros of a polynomial that has several ones at the same place, unless that place is an end.
	inside := without(without(p, a), b)
	list := chain(inside)
	n := changes(list, a) - changes(list, b)
	if a.Cmp(b) < 0 && value(p, b).Zero() {
		n++
	}
	return n, api.OK
}

// without returns p, which is not 0, divided by x - a as often as a is a zero.
func without(p []Num, a Num) []Num {
	for value(p, a).Zero() {
		quotient := make([]Num, len(p)-1)
		var carry Num
		for i := range quotient {
			k := len(p) - 1 - i
			carry = carry.Mul(a).Add(p[k])
			quotient[k-1] = carry
		}
		p = quotient
	}
	return p
}

// changes returns how often the sign changes from one value to the next, but for zeros, if all polynomials of a list are taken at x.
func changes(list [][]Num, x Num) int {
	n, last := 0, 0
	for _, p := range list {
		sign := value(p, x).Sign()
		if sign*last < 0 {
			n++
		}
		if sign != 0 {
			last = sign
		}
	}
	return n
}

// chain returns Sturm's chain of p, which is not 0: p, its derivative, and then always the negative rest of the division of the last two, until it is 0. The rests are multiplied by numbers above 0, of which they are freed again as far as it is known that they can be divided (Collins's subresultants), since otherwise they would grow too long.
func chain(p []Num) [][]Num {
	list := [][]Num{p}
	if len(p) == 1 {
		return list
	}
	u, v := p, derivative(p)
	lead, scale := Int(1), Int(1)
	for !isZero(v) {
		list = append(list, v)
		if len(v) == 1 {
			break
		}
		gap := len(u) - len(v)
		next := reduced(scaledRest(u, v), lead.Mul(power(scale, gap)))
		u, v = v, next
		lead = u[len(u)-1].Abs()
		scale = ratio(power(lead, gap), power(scale, gap-1))
	}
	return list
}

// scaledRest returns the rest of u divided by v, multiplied by the absolute value of the highest coefficient of v once more than their degrees differ. The degree of v is at least 1, and not above that of u.
func scaledRest(u, v []Num) []Num {
	r := slices.Clone(u)
	n := len(v) - 1
	lead := v[n].Abs()
	for i := range len(u) - n {
		at := len(u) - 1 - n - i
		factor := r[at+n]
		if v[n].Sign() < 0 {
			factor = factor.Neg()
		}
		for k := range r {
			r[k] = r[k].Mul(lead)
		}
		for k := range v {
			r[at+k] = r[at+k].Sub(factor.Mul(v[k]))
		}
	}
	return trimmed(r[:n])
}

// reduced returns -r, divided by a number that divides all its coefficients.
func reduced(r []Num, by Num) []Num {
	out := make([]Num, len(r))
	for i := range out {
		out[i] = ratio(r[i].Neg(), by)
	}
	return out
}

// ratio returns x/y, which is known to be dyadic.
func ratio(x, y Num) Num {
	quotient, _ := x.Over(y)
	return quotient
}

// power returns x to the power n.
func power(x Num, n int) Num {
	out := Int(1)
	for range n {
		out = out.Mul(x)
	}
	return out
}

// routhWidth is the number of coefficients of the longest row of a Routh table.
const routhWidth = api.MaxDegree/2 + 1

// Hurwitz reports whether all zeros of a polynomial have a real part below 0.
func Hurwitz(p []Num) (bool, api.Errno) {
	if e := checkPolynomial(p); e != api.OK {
		return false, e
	}
	p = trimmed(p)
	if isZero(p) {
		return false, api.ErrNone
	}
	rows := routh(p)
	for range len(p) - 1 {
		if rows[1][0].Sign() <= 0 {
			return false, api.OK
		}
		next := below(rows)
		rows[0], rows[1] = rows[1], next
	}
	return true, api.OK
}

// routh returns the first two rows of the Routh table of p, or of -p, so that it begins with a number above 0.
func routh(p []Num) [2][routhWidth]Num {
	var rows [2][routhWidth]Num
	negative := p[len(p)-1].Sign() < 0
	for i := range p {
		c := p[len(p)-1-i]
		if negative {
			c = c.Neg()
		}
		rows[i%2][i/2] = c
	}
	return rows
}

// below returns the row below two rows of a Routh table, multiplied by the first number of the second one, which is above 0: so nothing is divided.
func below(rows [2][routhWidth]Num) [routhWidth]Num {
	var next [routhWidth]Num
	for i := range routhWidth - 1 {
		next[i] = rows[1][0].Mul(rows[0][i+1]).Sub(rows[0][0].Mul(rows[1][i+1]))
	}
	return next
}
