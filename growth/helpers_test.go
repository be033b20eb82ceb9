package growth_test

import (
	"math"
	"math/big"
	"math/rand/v2"
	"slices"
	"testing"

	"wallgauge/api"
	"wallgauge/dyad"
	"wallgauge/growth"
)

// num returns the number with a text.
func num(s string) dyad.Num {
	x, e := dyad.Parse(s)
	if e != api.OK {
		panic("no number: " + s)
	}
	return x
}

// span returns the span with the ends lo and hi.
func span(lo, hi string) dyad.Span { return between(num(lo), num(hi)) }

// between returns the span from lo to hi.
func between(lo, hi dyad.Num) dyad.Span {
	s, e := dyad.Make(lo, hi)
	if e != api.OK {
		panic("no span: " + lo.Text() + ", " + hi.Text())
	}
	return s
}

// unit returns 2^-k, for a k from 0 to 256.
func unit(k int) dyad.Num {
	x, e := dyad.New(1, k)
	if e != api.OK {
		panic("too many bits")
	}
	return x
}

// great returns 2^1024.
func great() dyad.Num {
	x := dyad.Int(1)
	for range 4 {
		x, _ = x.Shift(api.MaxBits)
	}
	return x
}

// must returns x, and fails the test if there is an error.
func must[T any](t *testing.T) func(x T, e api.Errno) T {
	return func(x T, e api.Errno) T {
		t.Helper()
		if e != api.OK {
			t.Fatalf("error %v", e)
		}
		return x
	}
}

// rat returns the value of a number.
func rat(x dyad.Num) *big.Rat {
	r, ok := new(big.Rat).SetString(x.Text())
	if !ok {
		panic("no text of a number: " + x.Text())
	}
	return r
}

// frac returns a/b.
func frac(a, b int) *big.Rat { return big.NewRat(int64(a), int64(b)) }

// sum returns x + y.
func sum(x, y *big.Rat) *big.Rat { return new(big.Rat).Add(x, y) }

// product returns x y.
func product(x, y *big.Rat) *big.Rat { return new(big.Rat).Mul(x, y) }

// quotient returns x/y.
func quotient(x, y *big.Rat) *big.Rat { return new(big.Rat).Quo(x, y) }

// floor returns the greatest multiple of 2^-k that is not above x.
func floor(x *big.Rat, k int) *big.Rat {
	scale := new(big.Rat).SetInt(new(big.Int).Lsh(big.NewInt(1), uint(k)))
	up := product(x, scale)
	// Div rounds down, since the denominator is above 0.
	whole := new(big.Int).Div(up.Num(), up.Denom())
	return quotient(new(big.Rat).SetInt(whole), scale)
}

// ceil returns the least multiple of 2^-k that is not below x.
func ceil(x *big.Rat, k int) *big.Rat {
	return new(big.Rat).Neg(floor(new(big.Rat).Neg(x), k))
}

// sameEnds tells whether a span has these ends.
func sameEnds(s dyad.Span, lo, hi *big.Rat) bool {
	return rat(s.Lo()).Cmp(lo) == 0 && rat(s.Hi()).Cmp(hi) == 0
}

// holds tells whether a span has a number.
func holds(s dyad.Span, x *big.Rat) bool { return rat(s.Lo()).Cmp(x) <= 0 && x.Cmp(rat(s.Hi())) <= 0 }

// checkBits fails the test if a span does not hold the limits of its bits.
func checkBits(t *testing.T, what string, of func(k int) (dyad.Span, api.Errno)) {
	t.Helper()
	for k, same := range map[int]int{-1: 0, math.MinInt: 0, 257: 256, math.MaxInt: 256} {
		got, want := must[dyad.Span](t)(of(k)), must[dyad.Span](t)(of(same))
		if got.Text() != want.Text() {
			t.Errorf("%s with %d bits is %s, with %d bits %s", what, k, got.Text(), same, want.Text())
		}
	}
}

// texts returns the texts of spans.
func texts(l []dyad.Span) []string {
	var out []string
	for _, s := range l {
		out = append(out, s.Text())
	}
	return out
}

// numbers returns the texts of numbers.
func numbers(l []dyad.Num) []string {
	var out []string
	for _, x := range l {
		out = append(out, x.Text())
	}
	return out
}

// at returns a finding at a place.
func at(place, clock int) api.Finding { return api.Finding{At: place, Clock: clock} }

// deep returns a finding of a depth.
func deep(lo, hi int) api.Finding { return api.Finding{Depth: api.Range{Lo: lo, Hi: hi}} }

// invalid are findings with their errors.
func invalid() map[api.Finding]api.Errno {
	out := map[api.Finding]api.Errno{deep(2, 1): api.ErrOrder, deep(1<<20, 0): api.ErrOrder}
	for _, x := range []int{-1, math.MinInt, 1<<30 + 1, math.MaxInt} {
		for _, f := range []api.Finding{{At: x}, {Clock: x}, {Long: x}, {Wide: x}, deep(x, 1), deep(1, x)} {
			out[f] = api.ErrArg
		}
		// Of both errors ErrArg comes first.
		for _, f := range []api.Finding{{At: x}, {Clock: x}, {Long: x}, {Wide: x}} {
			f.Depth = api.Range{Lo: 2, Hi: 1}
			out[f] = api.ErrArg
		}
	}
	out[at(0, 720)], out[deep(0, 1<<20+1)], out[deep(1<<20+1, 0)] = api.ErrArg, api.ErrArg, api.ErrArg
	return out
}

// limits are findings with numbers at their limits.
func limits() []api.Finding {
	return []api.Finding{
		{}, at(1<<30, 0), at(0, 719), {Long: 1 << 30}, {Wide: 1 << 30}, deep(0, 1<<20), deep(1<<20, 1<<20),
		{At: 1 << 30, Clock: 719, Long: 1 << 30, Wide: 1 << 30, Depth: api.Range{Lo: 1 << 20, Hi: 1 << 20}},
	}
}

// badRules are rules with the error ErrArg.
func badRules() []growth.Rule {
	var out []growth.Rule
	for _, x := range []int{-1, math.MinInt, 1<<20 + 1, math.MaxInt} {
		out = append(out, growth.Rule{Far: x}, growth.Rule{Turn: x}, growth.Rule{Step: x}, growth.Rule{Alone: x})
	}
	return append(out, growth.Rule{Turn: 361}, growth.Rule{Step: 1<<10 + 1})
}

// with returns a list of n times x, in which the element at is y.
func with[T any](n int, x T, at int, y T) []T {
	out := slices.Repeat([]T{x}, n)
	out[at] = y
	return out
}

// dice makes numbers that look random, but are always the same.
type dice struct{ *rand.Rand }

func newDice(seed uint64) dice { return dice{rand.New(rand.NewPCG(seed, 8))} }

// from returns a number from lo to hi.
func (d dice) from(lo, hi int) int { return lo + d.IntN(hi-lo+1) }

// runs returns findings of two runs that are at most so far apart.
func (d dice) runs(first, second, far int) (a, b []api.Finding) {
	start, turns := d.from(0, 1<<30-far), d.from(1, 720)
	some := func(n int) []api.Finding {
		l := make([]api.Finding, n)
		for i := range l {
			l[i] = at(start+d.from(0, far), d.IntN(turns))
			l[i].Long, l[i].Wide, l[i].Depth = d.from(0, 1<<30), d.from(0, 1<<30), d.depth()
		}
		return l
	}
	return some(first), some(second)
}

// depth returns a depth.
func (d dice) depth() api.Range {
	most := 1 << d.from(0, 20)
	lo := d.from(0, most)
	return api.Range{Lo: lo, Hi: d.from(lo, most)}
}

// rule returns a rule for findings that are at most so far apart.
func (d dice) rule(far int) growth.Rule {
	return growth.Rule{Far: d.from(0, far), Turn: d.from(0, 360), Step: d.from(0, 1<<d.from(0, 10)), Alone: d.from(0, min(2*far, 1<<20))}
}

// pairs returns pairs of indices of two lists, in which none occurs twice, in any order.
func (d dice) pairs(first, second int) [][2]int {
	i, k := d.Perm(first), d.Perm(second)
	var out [][2]int
	for n := range d.from(0, min(first, second)) {
		out = append(out, [2]int{i[n], k[n]})
	}
	return out
}

// number returns a number that is not below 0: small or great, with many bits or few.
func (d dice) number() dyad.Num {
	x, _ := dyad.New(d.Int64N(1<<d.from(0, 40)), d.from(0, 20))
	return x
}

// span returns a span of numbers that are not below 0.
func (d dice) span() dyad.Span {
	x := d.number()
	return between(x, x.Add(d.number()))
}

// spans returns n spans of small numbers, so that many ends are the same.
func (d dice) spans(n int) []dyad.Span {
	out := make([]dyad.Span, n)
	for i := range out {
		lo := d.from(-2, 10)
		x, _ := dyad.New(int64(lo), 1)
		y, _ := dyad.New(int64(d.from(lo, 12)), 1)
		out[i] = between(x, y)
	}
	return out
}

// inside returns a number of a span: often an end.
func (d dice) inside(s dyad.Span) dyad.Num {
	switch d.IntN(3) {
	case 0:
		return s.Lo()
	case 1:
		return s.Hi()
	}
	part, _ := dyad.New(d.Int64N(1<<8+1), 8)
	return s.Lo().Add(s.Width().Mul(part))
}

// part returns a part of a whole.
func (d dice) part() (part, of int) {
	of = d.from(1, 1<<d.from(0, 9))
	return d.from(0, of), of
}
