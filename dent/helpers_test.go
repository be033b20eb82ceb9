package dent_test

import (
	"math"
	"math/big"
	"math/rand/v2"
	"testing"

	"wallgauge/api"
	"wallgauge/dent"
	"wallgauge/dyad"
)

// num returns the number with a text.
func num(s string) dyad.Num {
	x, e := dyad.Parse(s)
	if e != api.OK {
		panic("no number: " + s)
	}
	return x
}

// unit returns 2^-k, for a k from 0 to 256.
func unit(k int) dyad.Num {
	x, e := dyad.New(1, k)
	if e != api.OK {
		panic("too many bits")
	}
	return x
}

// great returns 2^1024.
func great() dyad.Num {
	x := dyad.Int(1)
	for range 4 {
		x, _ = x.Shift(api.MaxBits)
	}
	return x
}

// must returns x, and fails the test if there is an error.
func must[T any](t *testing.T) func(x T, e api.Errno) T {
	return func(x T, e api.Errno) T {
		t.Helper()
		if e != api.OK {
			t.Fatalf("error %v", e)
		}
		return x
	}
}

// rat returns the value of a number.
func rat(x dyad.Num) *big.Rat {
	r, ok := new(big.Rat).SetString(x.Text())
	if !ok {
		panic("no text of a number: " + x.Text())
	}
	return r
}

// frac returns a/b.
func frac(a, b int) *big.Rat { return big.NewRat(int64(a), int64(b)) }

// sum returns the sum of fractions.
func sum(terms ...*big.Rat) *big.Rat {
	out := new(big.Rat)
	for _, x := range terms {
		out.Add(out, x)
	}
	return out
}

// product returns the product of fractions.
func product(factors ...*big.Rat) *big.Rat {
	out := big.NewRat(1, 1)
	for _, x := range factors {
		out.Mul(out, x)
	}
	return out
}

// quotient returns x/y.
func quotient(x, y *big.Rat) *big.Rat { return new(big.Rat).Quo(x, y) }

// greater returns the greater one of two fractions.
func greater(x, y *big.Rat) *big.Rat {
	if x.Cmp(y) >= 0 {
		return x
	}
	return y
}

// floor returns the greatest multiple of 2^-k that is not above x.
func floor(x *big.Rat, k int) *big.Rat {
	scale := new(big.Rat).SetInt(new(big.Int).Lsh(big.NewInt(1), uint(k)))
	up := product(x, scale)
	// Div rounds down, since the denominator is above 0.
	whole := new(big.Int).Div(up.Num(), up.Denom())
	return quotient(new(big.Rat).SetInt(whole), scale)
}

// ceil returns the least multiple of 2^-k that is not below x.
func ceil(x *big.Rat, k int) *big.Rat {
	return new(big.Rat).Neg(floor(new(big.Rat).Neg(x), k))
}

// sameEnds tells whether a span has these ends.
func sameEnds(s dyad.Span, lo, hi *big.Rat) bool {
	return rat(s.Lo()).Cmp(lo) == 0 && rat(s.Hi()).Cmp(hi) == 0
}

// around tells whether a span is that of a fraction, rounded outward to k bits.
func around(s dyad.Span, x *big.Rat, k int) bool { return sameEnds(s, floor(x, k), ceil(x, k)) }

// manyBits are numbers of bits that count as others.
func manyBits() map[int]int {
	return map[int]int{-1: 0, math.MinInt: 0, 257: 256, math.MaxInt: 256}
}

// checkBits fails the test if a span does not hold the limits of its bits.
func checkBits(t *testing.T, what string, of func(k int) (dyad.Span, api.Errno)) {
	t.Helper()
	for k, same := range manyBits() {
		got, want := must[dyad.Span](t)(of(k)), must[dyad.Span](t)(of(same))
		if got.Text() != want.Text() {
			t.Errorf("%s with %d bits is %s, with %d bits %s", what, k, got.Text(), same, want.Text())
		}
	}
}

// dice makes numbers that look random, but are always the same.
type dice struct{ *rand.Rand }

func newDice(seed uint64) dice { return dice{rand.New(rand.NewPCG(seed, 7))} }

// from returns a number from lo to hi.
func (d dice) from(lo, hi int) int { return lo + d.IntN(hi-lo+1) }

// ints returns n numbers from lo to hi.
func (d dice) ints(n, lo, hi int) []int {
	out := make([]int, n)
	for i := range out {
		out[i] = d.from(lo, hi)
	}
	return out
}

// most returns a limit for numbers: sometimes small, sometimes the greatest one.
func (d dice) most(greatest int) int { return min(greatest, 1<<d.from(0, 25)) }

// ring returns the radii of a calliper.
func (d dice) ring() []int { return d.ints(2*d.from(2, 32), 1, d.most(1<<21)) }

// profile returns a profile.
func (d dice) profile() []int {
	most := d.most(1 << 21)
	return d.ints(d.from(3, 12), -most, most)
}

// part returns a number from 0 to 1: often an end.
func (d dice) part() dyad.Num {
	switch d.IntN(5) {
	case 0:
		return dyad.Int(0)
	case 1:
		return dyad.Int(1)
	}
	x, _ := dyad.New(d.Int64N(1<<10+1), 10)
	return x
}

// vector returns a vector whose components are at most so great.
func (d dice) vector(most int) dent.Vector {
	return dent.Vector{X: d.from(-most, most), Y: d.from(-most, most), Z: d.from(-most, most)}
}

// steps returns n steps of a line.
func (d dice) steps(n int) []dent.Vector {
	most := d.most(1 << 20)
	out := make([]dent.Vector, n)
	for i := range out {
		out[i] = d.vector(most)
	}
	return out
}

// ties returns ties of a line; between neighbouring ones it misses no more than so much for each step.
func (d dice) ties(steps []dent.Vector, most int) []dent.Tie {
	at := d.Perm(len(steps))[:d.from(1, min(len(steps), 8))]
	chosen := make([]bool, len(steps)+1)
	for _, i := range at {
		chosen[i+1] = true
	}
	var out []dent.Tie
	var place, miss dent.Vector
	ahead := 0
	for i, step := range steps {
		place = plus(place, step)
		if chosen[i+1] {
			miss = plus(miss, d.vector(most*(i+1-ahead)))
			out = append(out, dent.Tie{Step: i + 1, At: plus(place, miss)})
			ahead = i + 1
		}
	}
	return out
}

func plus(a, b dent.Vector) dent.Vector { return dent.Vector{X: a.X + b.X, Y: a.Y + b.Y, Z: a.Z + b.Z} }

func times(n int, v dent.Vector) dent.Vector {
	return dent.Vector{X: n * v.X, Y: n * v.Y, Z: n * v.Z}
}

func minus(a, b dent.Vector) dent.Vector { return plus(a, times(-1, b)) }

// parts returns the components of a vector.
func parts(v dent.Vector) [3]int { return [3]int{v.X, v.Y, v.Z} }

// axes are the vectors of length 1 along the axes, in both directions.
func axes() []dent.Vector {
	return []dent.Vector{{X: 1}, {Y: 1}, {Z: 1}, {X: -1}, {Y: -1}, {Z: -1}}
}

// dot returns the sum of the products of the components.
func dot(a, b dent.Vector) *big.Rat {
	out := new(big.Rat)
	for i, x := range parts(a) {
		out = sum(out, product(frac(x, 1), frac(parts(b)[i], 1)))
	}
	return out
}

// coordinates returns the coordinates of a place.
func coordinates(p dent.Place) [3]*big.Rat {
	return [3]*big.Rat{frac(p.X, p.Under), frac(p.Y, p.Under), frac(p.Z, p.Under)}
}

// isLowest tells whether a place is in lowest terms.
func isLowest(p dent.Place) bool {
	gcd := big.NewInt(int64(p.Under))
	for _, x := range [3]int{p.X, p.Y, p.Z} {
		gcd.GCD(nil, nil, gcd, new(big.Int).Abs(big.NewInt(int64(x))))
	}
	return p.Under > 0 && gcd.IsInt64() && gcd.Int64() == 1
}

// samePlace tells whether a place has these coordinates, in lowest terms.
func samePlace(p dent.Place, want [3]*big.Rat) bool {
	if !isLowest(p) {
		return false
	}
	for i, x := range coordinates(p) {
		if x.Cmp(want[i]) != 0 {
			return false
		}
	}
	return true
}

// with returns a list of n times x, in which the element at is y.
func with[T any](n int, x T, at int, y T) []T {
	out := make([]T, n)
	for i := range out {
		out[i] = x
	}
	out[at] = y
	return out
}
