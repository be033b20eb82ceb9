package echo_test

import (
	"math"
	"math/big"
	"math/rand/v2"
	"strings"
	"testing"

	"wallgauge/api"
	"wallgauge/dyad"
	"wallgauge/echo"
)

var (
	inf  = float32(math.Inf(1))
	nan  = float32(math.NaN())
	tiny = math.Float32frombits(1)
	huge = float32(math.MaxFloat32)
	// minus is the 0 with a sign.
	minus = float32(math.Copysign(0, -1))
)

// num returns the number with a text.
func num(s string) dyad.Num {
	x, e := dyad.Parse(s)
	if e != api.OK {
		panic("no number: " + s)
	}
	return x
}

// nums returns the numbers of a text.
func nums(s string) []dyad.Num {
	var out []dyad.Num
	for _, word := range strings.Fields(s) {
		out = append(out, num(word))
	}
	return out
}

// span returns the span with a text.
func span(s string) dyad.Span {
	lo, hi, _ := strings.Cut(strings.Trim(s, "[]"), ",")
	out, e := dyad.Make(num(lo), num(hi))
	if e != api.OK {
		panic("no span: " + s)
	}
	return out
}

// cnum returns the complex number whose parts are separated by a colon.
func cnum(s string) dyad.Cnum {
	re, im, _ := strings.Cut(s, ":")
	return dyad.Join(num(re), num(im))
}

// cnums returns the complex numbers of a text.
func cnums(s string) []dyad.Cnum {
	var out []dyad.Cnum
	for _, word := range strings.Fields(s) {
		out = append(out, cnum(word))
	}
	return out
}

// text returns the parts of a complex number, separated by a colon.
func text(x dyad.Cnum) string { return x.Re().Text() + ":" + x.Im().Text() }

// texts returns the texts of all elements, separated by spaces.
func texts[T any](l []T, of func(T) string) string {
	var words []string
	for _, x := range l {
		words = append(words, of(x))
	}
	return strings.Join(words, " ")
}

// unit returns 2^-k, for a k from 0 to 256.
func unit(k int) dyad.Num {
	x, e := dyad.New(1, k)
	if e != api.OK {
		panic("too many bits")
	}
	return x
}

// great returns 2^1024.
func great() dyad.Num {
	x := dyad.Int(1)
	for range 4 {
		x, _ = x.Shift(api.MaxBits)
	}
	return x
}

// must returns x, and fails the test if there is an error.
func must[T any](t *testing.T) func(x T, e api.Errno) T {
	return func(x T, e api.Errno) T {
		t.Helper()
		if e != api.OK {
			t.Fatalf("error %v", e)
		}
		return x
	}
}

// rat returns the value of a number.
func rat(x dyad.Num) *big.Rat {
	r, ok := new(big.Rat).SetString(x.Text())
	if !ok {
		panic("no text of a number: " + x.Text())
	}
	return r
}

// has tells whether a fraction is in a span.
func has(s dyad.Span, x *big.Rat) bool { return rat(s.Lo()).Cmp(x) <= 0 && x.Cmp(rat(s.Hi())) <= 0 }

// product returns the product of fractions.
func product(factors ...*big.Rat) *big.Rat {
	out := big.NewRat(1, 1)
	for _, x := range factors {
		out.Mul(out, x)
	}
	return out
}

// floor returns the greatest multiple of 2^-k that is not above x.
func floor(x *big.Rat, k int) *big.Rat {
	scale := new(big.Rat).SetInt(new(big.Int).Lsh(big.NewInt(1), uint(k)))
	up := product(x, scale)
	// Div rounds down, since the denominator is above 0.
	whole := new(big.Int).Div(up.Num(), up.Denom())
	return new(big.Rat).Quo(new(big.Rat).SetInt(whole), scale)
}

// ceil returns the least multiple of 2^-k that is not below x.
func ceil(x *big.Rat, k int) *big.Rat {
	return new(big.Rat).Neg(floor(new(big.Rat).Neg(x), k))
}

// sameEnds tells whether a span has these ends.
func sameEnds(s dyad.Span, lo, hi *big.Rat) bool {
	return rat(s.Lo()).Cmp(lo) == 0 && rat(s.Hi()).Cmp(hi) == 0
}

// manyBits are numbers of bits that count as others.
func manyBits() map[int]int {
	return map[int]int{-1: 0, math.MinInt: 0, 257: 256, math.MaxInt: 256}
}

// dice makes numbers that look random, but are always the same.
type dice struct{ *rand.Rand }

func newDice(seed uint64) dice { return dice{rand.New(rand.NewPCG(seed, 6))} }

// from returns a number from lo to hi.
func (d dice) from(lo, hi int) int { return lo + d.IntN(hi-lo+1) }

// num returns a number from 0 to 2^size, with at most so many bits behind the point.
func (d dice) num(size, bits int) dyad.Num {
	x, e := dyad.New(d.Int64N(1<<(size+bits)+1), bits)
	if e != api.OK {
		panic("too many bits")
	}
	return x
}

// signed returns a number from -2^size to 2^size, with at most so many bits behind the point.
func (d dice) signed(size, bits int) dyad.Num {
	return d.num(size+1, bits).Sub(dyad.Int(1 << size))
}

// cnum returns a complex number whose parts are from -8 to 8.
func (d dice) cnum() dyad.Cnum { return dyad.Join(d.signed(3, 2), d.signed(3, 2)) }

// inside returns a number of a span: often an end.
func (d dice) inside(s dyad.Span) dyad.Num {
	switch d.IntN(4) {
	case 0:
		return s.Lo()
	case 1:
		return s.Hi()
	}
	return s.Lo().Add(s.Width().Mul(d.num(0, 10)))
}

// within returns a span that lies in s.
func (d dice) within(s dyad.Span) dyad.Span {
	return dyad.Only(d.inside(s)).Hull(dyad.Only(d.inside(s)))
}

// speed returns a span of numbers above 0.
func (d dice) speed() dyad.Span {
	return dyad.Only(d.num(3, 3).Add(unit(3))).Hull(dyad.Only(d.num(3, 3).Add(unit(3))))
}

// sample returns a sample with small parts, so that sums of them are exact.
func (d dice) sample() complex64 {
	return complex(float32(d.from(-20, 20))/4, float32(d.from(-20, 20))/4)
}

// block returns a list of samples.
func (d dice) block(n int) []complex64 {
	out := make([]complex64, n)
	for i := range out {
		out[i] = d.sample()
	}
	return out
}

// envelope returns a list of numbers from 0 to 8.
func (d dice) envelope(n int) []dyad.Num {
	out := make([]dyad.Num, n)
	for i := range out {
		out[i] = d.num(3, 1)
	}
	return out
}

// table returns a table of n points whose depths have at most so many bits; if it rises, no depth is less than the one ahead.
func (d dice) table(n, bits int, rises bool) []echo.Point {
	signal, depth := d.signed(3, 2), d.signed(3, bits)
	var out []echo.Point
	for range n {
		out = append(out, echo.Point{Signal: signal, Depth: depth})
		signal = signal.Add(d.num(2, 3)).Add(unit(3))
		if rises {
			depth = depth.Add(d.num(3, bits))
		} else {
			depth = d.signed(3, bits)
		}
	}
	return out
}

// badSamples returns samples that are no numbers.
func badSamples() []complex64 {
	var out []complex64
	for _, bad := range []float32{inf, -inf, nan} {
		out = append(out, complex(bad, 1), complex(1, bad), complex(bad, bad))
	}
	return out
}

// with returns a list of n zeros, in which the element at is x.
func with[T any](n, at int, x T) []T {
	out := make([]T, n)
	out[at] = x
	return out
}
