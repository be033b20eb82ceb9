package drive_test

import (
	"math/big"
	"math/rand/v2"
	"slices"
	"strings"
	"testing"

	"wallgauge/api"
	"wallgauge/drive"
	"wallgauge/dyad"
)

// num returns the number with a text.
func num(s string) dyad.Num {
	x, e := dyad.Parse(s)
	if e != api.OK {
		panic("no number: " + s)
	}
	return x
}

// nums returns the numbers with texts that are separated by spaces.
func nums(s string) []dyad.Num {
	var out []dyad.Num
	for _, word := range strings.Fields(s) {
		out = append(out, num(word))
	}
	return out
}

// span returns the span with a text.
func span(s string) dyad.Span {
	lo, hi, _ := strings.Cut(strings.Trim(s, "[]"), ",")
	out, e := dyad.Make(num(lo), num(hi))
	if e != api.OK {
		panic("no span: " + s)
	}
	return out
}

// spans returns the spans with texts that are separated by spaces.
func spans(s string) []dyad.Span {
	var out []dyad.Span
	for _, word := range strings.Fields(s) {
		out = append(out, span(word))
	}
	return out
}

// texts returns the texts of numbers or spans, separated by spaces.
func texts[T interface{ Text() string }](l []T) string {
	var words []string
	for _, x := range l {
		words = append(words, x.Text())
	}
	return strings.Join(words, " ")
}

// must returns x, and fails the test if there is an error.
func must[T any](t *testing.T) func(x T, e api.Errno) T {
	return func(x T, e api.Errno) T {
		t.Helper()
		if e != api.OK {
			t.Fatalf("error %v", e)
		}
		return x
	}
}

// rat returns the value of a number.
func rat(x dyad.Num) *big.Rat {
	r, ok := new(big.Rat).SetString(x.Text())
	if !ok {
		panic("no text of a number: " + x.Text())
	}
	return r
}

// dice makes numbers that look random, but are always the same.
type dice struct{ *rand.Rand }

func newDice(seed uint64) dice { return dice{rand.New(rand.NewPCG(seed, 3))} }

// num returns a number from 0 to 2^size, with at most so many bits behind the point.
func (d dice) num(size, bits int) dyad.Num {
	x, e := dyad.New(d.Int64N(1<<(size+bits)+1), bits)
	if e != api.OK {
		panic("too many bits")
	}
	return x
}

// signed returns a number from -2^size to 2^size.
func (d dice) signed(size, bits int) dyad.Num {
	if d.IntN(2) == 0 {
		return d.num(size, bits).Neg()
	}
	return d.num(size, bits)
}

// wide returns a span that has x.
func (d dice) wide(x dyad.Num, size, bits int) dyad.Span {
	return dyad.Only(x.Sub(d.num(size, bits))).Hull(dyad.Only(x.Add(d.num(size, bits))))
}

// inside returns a number of a span: often an end.
func (d dice) inside(s dyad.Span) dyad.Num {
	switch d.IntN(4) {
	case 0:
		return s.Lo()
	case 1:
		return s.Hi()
	}
	return s.Lo().Add(s.Width().Mul(d.num(0, 10)))
}

// within returns a span that lies in s.
func (d dice) within(s dyad.Span) dyad.Span {
	return dyad.Only(d.inside(s)).Hull(dyad.Only(d.inside(s)))
}

// list returns between least and most numbers, some of which are 0.
func (d dice) list(least, most, size, bits int) []dyad.Num {
	out := make([]dyad.Num, least+d.IntN(most-least+1))
	for i := range out {
		if d.IntN(4) > 0 {
			out[i] = d.signed(size, bits)
		}
	}
	return out
}

// value returns the value of p at x.
func value(p []dyad.Num, x dyad.Num) dyad.Num {
	var out dyad.Num
	for _, c := range slices.Backward(p) {
		out = out.Mul(x).Add(c)
	}
	return out
}

// unit returns 2^-k, for a k from 0 to 256.
func unit(k int) dyad.Num {
	x, e := dyad.New(1, k)
	if e != api.OK {
		panic("too many bits")
	}
	return x
}

// long returns one coefficient more than a polynomial may have, all 0 but for the first one.
func long() []dyad.Num {
	return append(nums("1"), make([]dyad.Num, api.MaxDegree+1)...)
}

// control returns a control with these pushes, and the other numbers of the document's example.
func control(pushes string) drive.Control {
	return drive.Control{Pushes: nums(pushes), Gain: num("1/2"), Low: num("2"), High: num("6")}
}

// badControls returns controls with their errors; where one has several, the one named first is told.
func badControls() map[api.Errno][]drive.Control {
	one := control("4")
	with := func(c drive.Control, gain, low, high string) drive.Control {
		c.Gain, c.Low, c.High = num(gain), num(low), num(high)
		return c
	}
	none, nine := control(""), control("1 2 3 4 5 6 7 8 9")
	return map[api.Errno][]drive.Control{
		api.ErrSize:  {{}, none, nine, with(none, "0", "3", "2"), with(nine, "-1", "3", "2"), with(nine, "1", "3", "2")},
		api.ErrArg:   {with(one, "0", "1", "2"), with(one, "-1/4", "1", "2"), with(one, "0", "2", "1")},
		api.ErrOrder: {with(one, "1", "2", "1"), with(one, "1", "1/1024", "0"), with(one, "1", "-1", "-2")},
	}
}
