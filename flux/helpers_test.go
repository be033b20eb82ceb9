package flux_test

import (
	"math"
	"math/big"
	"math/rand/v2"
	"slices"
	"strings"
	"testing"

	"wallgauge/api"
	"wallgauge/dyad"
	"wallgauge/flux"
)

var (
	inf  = float32(math.Inf(1))
	nan  = float32(math.NaN())
	tiny = math.Float32frombits(1)
	huge = float32(math.MaxFloat32)
	// minus is the 0 with a sign.
	minus = float32(math.Copysign(0, -1))
)

// num returns the number with a text.
func num(s string) dyad.Num {
	x, e := dyad.Parse(s)
	if e != api.OK {
		panic("no number: " + s)
	}
	return x
}

// span returns the span with a text.
func span(s string) dyad.Span {
	lo, hi, _ := strings.Cut(strings.Trim(s, "[]"), ",")
	out, e := dyad.Make(num(lo), num(hi))
	if e != api.OK {
		panic("no span: " + s)
	}
	return out
}

// unit returns 2^-k, for a k from 0 to 256.
func unit(k int) dyad.Num {
	x, e := dyad.New(1, k)
	if e != api.OK {
		panic("too many bits")
	}
	return x
}

// must returns x, and fails the test if there is an error.
func must[T any](t *testing.T) func(x T, e api.Errno) T {
	return func(x T, e api.Errno) T {
		t.Helper()
		if e != api.OK {
			t.Fatalf("error %v", e)
		}
		return x
	}
}

// rat returns the value of a number.
func rat(x dyad.Num) *big.Rat {
	r, ok := new(big.Rat).SetString(x.Text())
	if !ok {
		panic("no text of a number: " + x.Text())
	}
	return r
}

// ratio returns the amplitude of a finite reading.
func ratio(v float32, r flux.Reading) *big.Rat {
	value := func(f float32) *big.Rat { return new(big.Rat).SetFloat64(float64(f)) }
	loss, full := new(big.Rat).Sub(value(v), value(r.Zero)), new(big.Rat).Sub(value(r.Full), value(r.Zero))
	return loss.Quo(loss, full)
}

// finite tells whether a reading is a number that is not infinite.
func finite(v float32) bool { return v-v == 0 }

// dice makes numbers that look random, but are always the same.
type dice struct{ *rand.Rand }

func newDice(seed uint64) dice { return dice{rand.New(rand.NewPCG(seed, 5))} }

// from returns a number from lo to hi.
func (d dice) from(lo, hi int) int { return lo + d.IntN(hi-lo+1) }

// num returns a number from 0 to 2^size, with at most so many bits behind the point.
func (d dice) num(size, bits int) dyad.Num {
	x, e := dyad.New(d.Int64N(1<<(size+bits)+1), bits)
	if e != api.OK {
		panic("too many bits")
	}
	return x
}

// inside returns a number of a span: often an end.
func (d dice) inside(s dyad.Span) dyad.Num {
	switch d.IntN(4) {
	case 0:
		return s.Lo()
	case 1:
		return s.Hi()
	}
	return s.Lo().Add(s.Width().Mul(d.num(0, 10)))
}

// within returns a span that lies in s.
func (d dice) within(s dyad.Span) dyad.Span {
	return dyad.Only(d.inside(s)).Hull(dyad.Only(d.inside(s)))
}

// reading returns a reading that often is a small one, and now and then none that is finite.
func (d dice) reading() float32 {
	switch d.IntN(24) {
	case 0:
		return []float32{inf, -inf, nan}[d.IntN(3)]
	case 1:
		return []float32{tiny, -tiny, huge, -huge, 0, minus}[d.IntN(6)]
	}
	return float32(d.from(-20, 20)) / 4
}

// rings returns rings of readings.
func (d dice) rings(rings, sensors int) [][]float32 {
	out := make([][]float32, rings)
	for i := range out {
		out[i] = make([]float32, sensors)
		for k := range out[i] {
			out[i][k] = d.reading()
		}
	}
	return out
}

// references returns references of sensors, some of which fall with the loss.
func (d dice) references(sensors int) []flux.Reading {
	out := make([]flux.Reading, sensors)
	for i := range out {
		for out[i].Zero == out[i].Full {
			out[i] = flux.Reading{Zero: float32(d.from(-8, 8)) / 2, Full: float32(d.from(-12, 12))}
		}
	}
	return out
}

// flags returns a list, of which about one element of so many is set.
func (d dice) flags(n, of int) []bool {
	out := make([]bool, n)
	for i := range out {
		out[i] = d.IntN(of) == 0
	}
	return out
}

// marks returns marks, of which about one element of so many is set.
func (d dice) marks(rings, sensors, of int) [][]bool {
	out := make([][]bool, rings)
	for i := range out {
		out[i] = d.flags(sensors, of)
	}
	return out
}

// set returns a set of sensors that has at least one.
func (d dice) set(sensors int) uint64 {
	set := uint64(1) << d.IntN(sensors)
	for range d.IntN(4) {
		set |= 1 << d.IntN(sensors)
	}
	return set
}

// spots returns spots over some rings.
func (d dice) spots(n, rings, sensors int) []flux.Spot {
	var out []flux.Spot
	for range n {
		first := d.IntN(rings)
		out = append(out, flux.Spot{First: first, Last: min(first+d.IntN(4), rings-1), Sensors: d.set(sensors)})
	}
	return out
}

// moved returns a list whose elements are moved around the pipe.
func moved[T any](l []T, by int) []T {
	by %= len(l)
	return slices.Concat(l[len(l)-by:], l[:len(l)-by])
}

// movedRows returns rings, each of which is moved around the pipe.
func movedRows[T any](rows [][]T, by int) [][]T {
	var out [][]T
	for _, row := range rows {
		out = append(out, moved(row, by))
	}
	return out
}

// movedSet returns a set of sensors that is moved around the pipe.
func movedSet(set uint64, by, sensors int) uint64 {
	var out uint64
	for k := range sensors {
		if set>>k&1 == 1 {
			out |= 1 << ((k + by) % sensors)
		}
	}
	return out
}

// picture returns the marks of a picture: the rings are separated by spaces, and a mark is #.
func picture(s string) [][]bool {
	var out [][]bool
	for _, word := range strings.Fields(s) {
		var row []bool
		for _, r := range word {
			row = append(row, r == '#')
		}
		out = append(out, row)
	}
	return out
}

// ascending returns spots, ascending by First, then by Last, then by Sensors.
func ascending(l []flux.Spot) []flux.Spot {
	out := slices.Clone(l)
	slices.SortFunc(out, func(a, b flux.Spot) int {
		if a.First != b.First {
			return a.First - b.First
		}
		if a.Last != b.Last {
			return a.Last - b.Last
		}
		if a.Sensors < b.Sensors {
			return -1
		}
		if a.Sensors > b.Sensors {
			return 1
		}
		return 0
	})
	return out
}

// digits tells for each character of a word whether it is a 1.
func digits(word string) []bool {
	var out []bool
	for _, r := range word {
		out = append(out, r == '1')
	}
	return out
}
