package strength_test

import (
	"math"
	"math/big"
	"math/rand/v2"
	"slices"
	"testing"

	"wallgauge/api"
	"wallgauge/dyad"
	"wallgauge/strength"
)

// num returns the number with a text.
func num(s string) dyad.Num {
	x, e := dyad.Parse(s)
	if e != api.OK {
		panic("no number: " + s)
	}
	return x
}

// span returns the span with the ends lo and hi.
func span(lo, hi string) dyad.Span { return between(num(lo), num(hi)) }

// between returns the span from lo to hi.
func between(lo, hi dyad.Num) dyad.Span {
	s, e := dyad.Make(lo, hi)
	if e != api.OK {
		panic("no span: " + lo.Text() + ", " + hi.Text())
	}
	return s
}

// unit returns 2^-k, for a k from 0 to 256.
func unit(k int) dyad.Num {
	x, e := dyad.New(1, k)
	if e != api.OK {
		panic("too many bits")
	}
	return x
}

// great returns 2^1024.
func great() dyad.Num {
	x := dyad.Int(1)
	for range 4 {
		x, _ = x.Shift(api.MaxBits)
	}
	return x
}

// must returns x, and fails the test if there is an error.
func must[T any](t *testing.T) func(x T, e api.Errno) T {
	return func(x T, e api.Errno) T {
		t.Helper()
		if e != api.OK {
			t.Fatalf("error %v", e)
		}
		return x
	}
}

// rat returns the value of a number.
func rat(x dyad.Num) *big.Rat {
	r, ok := new(big.Rat).SetString(x.Text())
	if !ok {
		panic("no text of a number: " + x.Text())
	}
	return r
}

// frac returns a/b.
func frac(a, b int) *big.Rat { return big.NewRat(int64(a), int64(b)) }

// sum returns x + y.
func sum(x, y *big.Rat) *big.Rat { return new(big.Rat).Add(x, y) }

// less returns x - y.
func less(x, y *big.Rat) *big.Rat { return new(big.Rat).Sub(x, y) }

// product returns x y.
func product(x, y *big.Rat) *big.Rat { return new(big.Rat).Mul(x, y) }

// quotient returns x/y.
func quotient(x, y *big.Rat) *big.Rat { return new(big.Rat).Quo(x, y) }

// scale returns 2^k.
func scale(k int) *big.Rat {
	return new(big.Rat).SetInt(new(big.Int).Lsh(big.NewInt(1), uint(k)))
}

// whole returns the greatest integer that is not above x.
func whole(x *big.Rat) *big.Int {
	// Div rounds down, since the denominator is above 0.
	return new(big.Int).Div(x.Num(), x.Denom())
}

// floor returns the greatest multiple of 2^-k that is not above x.
func floor(x *big.Rat, k int) *big.Rat {
	return quotient(new(big.Rat).SetInt(whole(product(x, scale(k)))), scale(k))
}

// ceil returns the least multiple of 2^-k that is not below x.
func ceil(x *big.Rat, k int) *big.Rat {
	return new(big.Rat).Neg(floor(new(big.Rat).Neg(x), k))
}

// rootFloor returns the greatest multiple of 2^-k whose square is not above x, which is not below 0.
func rootFloor(x *big.Rat, k int) *big.Rat {
	root := new(big.Int).Sqrt(whole(product(x, scale(2*k))))
	return quotient(new(big.Rat).SetInt(root), scale(k))
}

// rootCeil returns the least multiple of 2^-k that is not below 0, and whose square is not below x.
func rootCeil(x *big.Rat, k int) *big.Rat {
	root := rootFloor(x, k)
	if product(root, root).Cmp(x) == 0 {
		return root
	}
	return sum(root, quotient(frac(1, 1), scale(k)))
}

// sameEnds tells whether a span has these ends.
func sameEnds(s dyad.Span, lo, hi *big.Rat) bool {
	return rat(s.Lo()).Cmp(lo) == 0 && rat(s.Hi()).Cmp(hi) == 0
}

// holds tells whether a span has a number.
func holds(s dyad.Span, x *big.Rat) bool { return rat(s.Lo()).Cmp(x) <= 0 && x.Cmp(rat(s.Hi())) <= 0 }

// bits returns what a number of bits counts as.
func bits(k int) int {
	switch {
	case k < 16:
		return 16
	case k > 64:
		return 64
	}
	return k
}

// checkBits fails the test if the limits of bits do not hold. What is told must not be the same with 16 and 17, or 63 and 64 bits.
func checkBits(t *testing.T, what string, of func(k int) string) {
	t.Helper()
	for k, same := range map[int]int{0: 16, 15: 16, -1: 16, math.MinInt: 16, 65: 64, 256: 64, math.MaxInt: 64} {
		if got, want := of(k), of(same); got != want {
			t.Errorf("%s with %d bits is %s, with %d bits %s", what, k, got, same, want)
		}
	}
	if of(16) == of(17) || of(63) == of(64) {
		t.Errorf("%s is the same with other bits", what)
	}
}

// texts returns the texts of spans.
func texts(l []dyad.Span) []string {
	var out []string
	for _, s := range l {
		out = append(out, s.Text())
	}
	return out
}

// at returns a finding from one place to another one.
func at(from, to, clock, depth int) api.Finding {
	return api.Finding{At: from, Clock: clock, Long: to - from, Depth: api.Range{Hi: depth}}
}

// deep returns a finding of a depth.
func deep(lo, hi int) api.Finding { return api.Finding{Long: 1, Depth: api.Range{Lo: lo, Hi: hi}} }

// invalid are findings with their errors.
func invalid() map[api.Finding]api.Errno {
	out := map[api.Finding]api.Errno{deep(2, 1): api.ErrOrder, deep(1<<20, 0): api.ErrOrder}
	for _, depth := range []api.Range{{}, {Lo: 2, Hi: 1}} { // of both errors ErrArg comes first
		for _, x := range []int{-1, math.MinInt, 1<<30 + 1, math.MaxInt} {
			for _, f := range []api.Finding{{At: x, Long: 1}, {Clock: x, Long: 1}, {Long: x}} {
				f.Depth = depth
				out[f] = api.ErrArg
			}
		}
		for _, f := range []api.Finding{{}, {Long: 1000001}, {Long: 1, Wide: -1}, {Long: 1, Wide: math.MinInt}, {Long: 1, Clock: 720}} {
			f.Depth = depth
			out[f] = api.ErrArg
		}
	}
	for _, x := range []int{-1, math.MinInt, 1<<20 + 1, math.MaxInt} {
		out[deep(x, 1)], out[deep(1, x)], out[deep(x, x)] = api.ErrArg, api.ErrArg, api.ErrArg
	}
	return out
}

// limits are findings with numbers at their limits.
func limits() []api.Finding {
	return []api.Finding{
		{Long: 1}, {Long: 1000000}, {At: 1 << 30, Long: 1}, {Clock: 719, Long: 1}, {Long: 1, Wide: math.MaxInt}, deep(0, 1<<20), deep(1<<20, 1<<20),
		{At: 1 << 30, Clock: 719, Long: 1000000, Wide: math.MaxInt, Depth: api.Range{Lo: 1 << 20, Hi: 1 << 20}},
	}
}

// badRules are rules with the error ErrArg.
func badRules() []strength.Rule {
	var out []strength.Rule
	for _, x := range []int{-1, math.MinInt, 1000001, math.MaxInt} {
		out = append(out, strength.Rule{Along: x}, strength.Rule{Around: x})
	}
	return append(out, strength.Rule{Around: 721}, strength.Rule{Along: -1, Around: 721})
}

// with returns a list of n times x, in which the element at is y.
func with[T any](n int, x T, at int, y T) []T {
	out := slices.Repeat([]T{x}, n)
	out[at] = y
	return out
}

// dice makes numbers that look random, but are always the same.
type dice struct{ *rand.Rand }

func newDice(seed uint64) dice { return dice{rand.New(rand.NewPCG(seed, 9))} }

// from returns a number from lo to hi.
func (d dice) from(lo, hi int) int { return lo + d.IntN(hi-lo+1) }

// small returns a number from 0 to most: often a small one.
func (d dice) small(most int) int { return d.from(0, min(most, 1<<d.from(0, 20))) }

// findings returns n findings that begin at most so far apart.
func (d dice) findings(n, far int) []api.Finding {
	start, turns, most := d.from(0, 1<<30-far), d.from(1, 720), 1<<d.from(0, 20)
	l := make([]api.Finding, n)
	for i := range l {
		lo := d.from(0, most)
		l[i] = api.Finding{At: start + d.from(0, far), Clock: d.IntN(turns), Long: d.from(1, max(far/2, 1)), Wide: d.from(0, 1<<30), Depth: api.Range{Lo: lo, Hi: d.from(lo, most)}}
	}
	return l
}

// rule returns a rule for findings that begin at most so far apart.
func (d dice) rule(far int) strength.Rule {
	return strength.Rule{Along: d.from(0, far/4), Around: d.small(720)}
}

// pipe returns a pipe.
func (d dice) pipe() strength.Pipe {
	return strength.Pipe{Diameter: d.from(50, 2000), Wall: 1000 + d.small(99000), Flow: 1 + d.small(1<<20-1)}
}

// profile returns a profile of n steps that does not burst in a pipe.
func (d dice) profile(n int, p strength.Pipe) []strength.Step {
	place, most, steepest := d.from(0, 1<<31-1000000), 1<<d.from(0, 14), d.from(0, min(p.Wall*99/100, 1<<20))
	l := make([]strength.Step, n)
	for i := range l {
		next := place + d.from(1, most)
		l[i] = strength.Step{From: place, To: next, Depth: d.from(0, steepest)}
		place = next
	}
	return l
}

// number returns a number that is not below 0: small or great, with many bits or few.
func (d dice) number() dyad.Num {
	x, _ := dyad.New(d.Int64N(1<<d.from(0, 30)), d.from(0, 20))
	return x
}

// span returns a span of numbers that are not below 0.
func (d dice) span() dyad.Span {
	x := d.number()
	return between(x, x.Add(d.number()))
}
