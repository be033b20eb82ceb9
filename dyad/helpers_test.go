package dyad_test

import (
	"math/big"
	"strings"
	"testing"

	"wallgauge/api"
	"wallgauge/dyad"
)

// num returns the number with a text.
func num(s string) dyad.Num {
	x, e := dyad.Parse(s)
	if e != api.OK {
		panic("no number: " + s)
	}
	return x
}

// list returns the numbers with texts that are separated by spaces.
func list(s string) []dyad.Num {
	var out []dyad.Num
	for _, word := range strings.Fields(s) {
		out = append(out, num(word))
	}
	return out
}

// span returns the span with the ends lo and hi.
func span(lo, hi string) dyad.Span {
	s, e := dyad.Make(num(lo), num(hi))
	if e != api.OK {
		panic("no span: " + lo + ", " + hi)
	}
	return s
}

// texts returns the texts of a list, separated by spaces.
func texts(l []dyad.Num) string {
	var words []string
	for _, x := range l {
		words = append(words, x.Text())
	}
	return strings.Join(words, " ")
}

// rat returns the value of a number.
func rat(x dyad.Num) *big.Rat {
	r, ok := new(big.Rat).SetString(x.Text())
	if !ok {
		panic("no text of a number: " + x.Text())
	}
	return r
}

// power returns 2^n.
func power(n int) dyad.Num {
	x := dyad.Int(1)
	for n != 0 {
		step := min(max(n, -api.MaxBits), api.MaxBits)
		x, _ = x.Shift(step)
		n -= step
	}
	return x
}

// samples returns numbers of many sizes, among them neighbours of powers of two, and numbers with many bits.
func samples() []dyad.Num {
	l := list("0 1 -1 1/2 -1/2 3 -3 3/4 -5/8 7/16 100 -1000000007/1024 18446744073709551615 -18446744073709551616 18446744073709551617/2")
	return append(l, power(130), power(-130), power(300).Sub(power(-5)), power(64).Sub(power(-64)).Neg(),
		num("123456789012345678901234567890123456789/128"), power(-300).Sub(power(-301)))
}

// complexes returns some complex numbers.
func complexes() []dyad.Cnum {
	l := list("0 1 -1/2 3/4 -7 340282366920938463463374607431768211457/256")
	var out []dyad.Cnum
	for i, re := range l {
		out = append(out, dyad.Join(re, l[(i+2)%len(l)]), dyad.Join(l[(i*i)%len(l)], re), dyad.Join(re, dyad.Num{}))
	}
	return out
}

// spans returns spans below, above and around 0, and of one number.
func spans() []dyad.Span {
	return []dyad.Span{
		{}, span("0", "1/2"), span("-3/4", "0"), span("-1", "2"), span("-5/4", "7/8"), span("1/4", "3"), span("-9", "-7/16"),
		span("5", "5"), span("-1/8", "-1/8"), span("2", "18446744073709551616"), span("3/1024", "5/512"),
	}
}

// within returns some numbers of a span, its ends among them.
func within(s dyad.Span) []dyad.Num {
	var out []dyad.Num
	for _, part := range list("0 1/8 1/2 11/16 1") {
		out = append(out, s.Lo().Add(s.Width().Mul(part)))
	}
	return out
}

// shrunk returns spans that lie in s.
func shrunk(s dyad.Span) []dyad.Span {
	var out []dyad.Span
	l := within(s)
	for i := range l {
		for k := i; k < len(l); k++ {
			part, _ := dyad.Make(l[i], l[k])
			out = append(out, part)
		}
	}
	return out
}

// dice makes numbers that look random, but are always the same.
type dice uint64

func (d *dice) next(n int) int {
	*d ^= *d << 13
	*d ^= *d >> 7
	*d ^= *d << 17
	return int(uint64(*d) >> 11 % uint64(n))
}

// num returns a number with at most so many bits, some of them behind the point.
func (d *dice) num(bits int) dyad.Num {
	var x dyad.Num
	for range d.next(bits) + 1 {
		x = x.Add(x).Add(dyad.Int(int64(d.next(2))))
	}
	if d.next(2) == 0 {
		x = x.Neg()
	}
	x, _ = x.Shift(-d.next(min(bits, api.MaxBits) + 1))
	return x
}

// polynomial returns a polynomial with up to so many coefficients, some of which are 0.
func (d *dice) polynomial(size, bits int) []dyad.Num {
	p := make([]dyad.Num, d.next(size)+1)
	for i := range p {
		if d.next(4) > 0 {
			p[i] = d.num(bits)
		}
	}
	return p
}

// must returns x, and fails the test if there is an error.
func must[T any](t *testing.T) func(x T, e api.Errno) T {
	t.Helper()
	return func(x T, e api.Errno) T {
		t.Helper()
		if e != api.OK {
			t.Fatalf("error %v", e)
		}
		return x
	}
}
