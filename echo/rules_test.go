package echo_test

import (
	"math"
	"slices"
	"testing"

	"wallgauge/api"
	"wallgauge/dyad"
	"wallgauge/echo"
)

// spoil changes a list, and what is behind its end.
func spoil[T any](l []T) {
	clear(l[:cap(l)])
}

// used are arguments, of which the lists have something behind their ends.
type used struct {
	block, pulse []complex64
	blocks       [][]complex64
	numbers      []dyad.Cnum
	envelope     []dyad.Num
	arrivals     []int
	table        []echo.Point
}

func newUsed() *used {
	return &used{
		block: []complex64{1, 2i, 0, 3, 77}, pulse: []complex64{1, 1i, 77}, blocks: [][]complex64{{1, 2i, 0, 3}, {1, 1i}, {77}}, numbers: cnums("1:0 0:2 77:77"), envelope: nums("0 5 6 0 5 5 77"), arrivals: []int{3, 5, 77}, table: points("0:0 4:6 77:77"),
	}
}

func (u *used) same(v *used) bool {
	samePoint := func(a, b echo.Point) bool { return a.Signal.Same(b.Signal) && a.Depth.Same(b.Depth) }
	return slices.Equal(u.block, v.block) && slices.Equal(u.pulse, v.pulse) && slices.EqualFunc(u.blocks, v.blocks, slices.Equal) && slices.EqualFunc(u.numbers, v.numbers, dyad.Cnum.Same) &&
		slices.EqualFunc(u.envelope, v.envelope, dyad.Num.Same) && slices.Equal(u.arrivals, v.arrivals) && slices.EqualFunc(u.table, v.table, samePoint)
}

func TestR4Memory(t *testing.T) {
	u := newUsed()
	level := num("5")
	filtered, _ := echo.Filter(u.block[:4], u.pulse[:2])
	spoil(filtered)
	squares, _ := echo.Envelope(u.numbers[:2])
	spoil(squares)
	floats, _ := echo.Report(u.numbers[:2])
	spoil(floats)
	echo.First(u.envelope[:6], level, 1, 5)
	echo.Peak(u.envelope[:6], 1, 5)
	arrivals, _ := echo.Arrivals(u.envelope[:6], level, 3)
	spoil(arrivals)
	echo.Wall(u.arrivals[:2], num("1/2"), span("[2,2]"), span("[4,4]"), 3)
	count, _ := echo.Scan(u.blocks[:2], u.pulse[:2], level, 1)
	spoil(count.Lost)
	echo.Depth(u.table[:2], num("1"), 3)
	if !u.same(newUsed()) {
		t.Errorf("the arguments became %+v", u)
	}
}

// zeroSpan fails the test if there is an error, but not the zero value of a span.
func zeroSpan(t *testing.T, what string, s dyad.Span, e api.Errno) {
	t.Helper()
	if e != api.OK && s.Text() != "[0,0]" {
		t.Errorf("%s: %s %v", what, s.Text(), e)
	}
}

func TestP1AnySamples(t *testing.T) {
	samples := []complex64{0, 1, complex(-2.5, 1), complex(tiny, -huge), complex(huge, minus)}
	lists := [][]complex64{nil, {}, samples[:1], samples, slices.Concat(samples, badSamples()), make([]complex64, 33), make([]complex64, 300)}
	levels := []dyad.Num{{}, num("-1"), num("3/8"), great(), great().Neg()}
	for _, block := range lists {
		for _, pulse := range lists {
			l, e := echo.Filter(block, pulse)
			if e != api.OK && len(l) > 0 {
				t.Errorf("Filter: %v", e)
			}
			echo.Report(l)
			squares, _ := echo.Envelope(l)
			for _, level := range levels {
				for _, apart := range []int{math.MinInt, -1, 0, 1, 7, math.MaxInt} {
					if arrivals, e := echo.Arrivals(squares, level, apart); e != api.OK && len(arrivals) > 0 {
						t.Errorf("Arrivals: %v", e)
					}
					if count, e := echo.Scan([][]complex64{block, nil, pulse}, pulse, level, apart); e != api.OK && (count.Inspected != 0 || len(count.Lost) > 0) {
						t.Errorf("Scan: %v", e)
					}
				}
			}
		}
	}
	for _, z := range lists[4] {
		for _, zero := range lists[4] {
			lift, e := echo.Direction(z, zero)
			if e != api.OK && !lift.Zero() {
				t.Errorf("Direction: %v", e)
			}
			for _, k := range []int{math.MinInt, 0, math.MaxInt} {
				s, e := echo.Along(z, zero, lift, k)
				zeroSpan(t, "Along", s, e)
			}
			if x, e := echo.Across(z, zero, lift); e != api.OK && !x.Zero() {
				t.Errorf("Across: %v", e)
			}
		}
	}
}

// All functions end without a panic, whatever the arguments are, and have zero values with an error.
func TestP1AnyNumbers(t *testing.T) {
	numbers := []dyad.Num{{}, num("-1"), num("3/8"), num("1"), great(), great().Neg(), num("1").Add(unit(256))}
	ints := []int{math.MinInt, -1, 0, 1, 2, 1 << 20, 1<<20 + 1, math.MaxInt}
	for _, x := range numbers {
		for _, y := range numbers {
			both, z := dyad.Only(x).Hull(dyad.Only(y)), dyad.Join(x, y)
			s, e := echo.Lost(x, both)
			zeroSpan(t, "Lost", s, e)
			for _, w := range numbers {
				if got, e := echo.Between(z, dyad.Join(w, x), dyad.Join(y, w)); e != api.OK && got {
					t.Errorf("Between: %v", e)
				}
			}
			for _, i := range ints {
				s, e = echo.Depth([]echo.Point{{Signal: x, Depth: y}, {Signal: y, Depth: x}}, x, i)
				zeroSpan(t, "Depth", s, e)
				for _, k := range ints {
					s, e = echo.Way(i, k, x, both, i)
					zeroSpan(t, "Way", s, e)
					above, below, e := echo.Wall([]int{i, k, i}, x, both, both, k)
					zeroSpan(t, "Wall", above, e)
					zeroSpan(t, "Wall", below, e)
					if at, e := echo.First([]dyad.Num{x, y}, x, i, k); e != api.OK && at != 0 {
						t.Errorf("First: %v", e)
					}
					if peak, e := echo.Peak([]dyad.Num{x, y}, i, k); e != api.OK && (!peak.Size.Zero() || peak.At != 0) {
						t.Errorf("Peak: %v", e)
					}
					if class, e := echo.Classify(echo.Beam{Size: x, At: i}, echo.Beam{Size: y, At: k}, x, echo.Rules{Least: y, Straight: x, Apart: i}); e != api.OK && class != 0 {
						t.Errorf("Classify: %v", e)
					}
				}
			}
		}
	}
}
