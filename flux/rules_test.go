package flux_test

import (
	"math"
	"slices"
	"testing"

	"wallgauge/api"
	"wallgauge/dyad"
	"wallgauge/flux"
)

// spoil changes a list, and what is behind its end.
func spoil[T any](l []T) {
	clear(l[:cap(l)])
}

// used are arguments, of which the lists have something behind their ends.
type used struct {
	rings [][]float32
	l     []flux.Reading
	dead  []bool
	marks [][]bool
	spots []flux.Spot
	table []flux.Entry
	digs  []flux.Dig
}

func newUsed() *used {
	return &used{
		rings: [][]float32{{4, 1, 2, 9, 77}, {1, 8, 8, 3, 77}, {2, 2, 5, 5, 77}, {77}}, l: []flux.Reading{{0, 8}, {8, 0}, {0, 8}, {1, 2}, {77, 77}}, dead: digits("00011"), marks: append(picture("#..#. ....# #.... ..#.."), nil),
		spots: []flux.Spot{{5, 6, 2}, {0, 1, 1}, {2, 3, 2}, {77, 77, 77}}, table: entries("0:[0,10] 1/2:[20,40] 77:[77,77]"), digs: []flux.Dig{{span("[1,2]"), num("1")}, {span("[77,77]"), num("77")}},
	}
}

func (u *used) same(v *used) bool {
	sameEntry := func(a, b flux.Entry) bool { return a.From.Same(b.From) && a.Depth.Text() == b.Depth.Text() }
	sameDig := func(a, b flux.Dig) bool { return a.Measured.Same(b.Measured) && a.Told.Text() == b.Told.Text() }
	return slices.EqualFunc(u.rings, v.rings, slices.Equal) && slices.Equal(u.l, v.l) && slices.Equal(u.dead, v.dead) && slices.EqualFunc(u.marks, v.marks, slices.Equal) &&
		slices.Equal(u.spots, v.spots) && slices.EqualFunc(u.table, v.table, sameEntry) && slices.EqualFunc(u.digs, v.digs, sameDig)
}

func TestR4Memory(t *testing.T) {
	u := newUsed()
	rings := [][]float32{u.rings[0][:4], u.rings[1][:4], u.rings[2][:4]}
	flux.Check(rings)
	dead, _ := flux.Dead(rings, 9, 1)
	spoil(dead)
	flux.Longest(u.dead[:4])
	flux.Base(rings[0], u.dead[:4])
	marks, _ := flux.Marks(rings, u.l[:4], u.dead[:4], num("1/2"))
	again, _ := flux.Marks(rings, u.l[:4], u.dead[:4], num("1/2"))
	spoil(marks[1])
	if !slices.Equal(marks[0], again[0]) || !slices.Equal(marks[2], again[2]) || count(again[1:2]) == 0 {
		t.Errorf("the rows of Marks share memory: %v, %v", marks, again)
	}
	flux.Peak(rings, u.l[:4], u.dead[:4], flux.Spot{Last: 2, Sensors: 7}, 3)
	spots, _ := flux.Spots(u.marks[:4])
	spoil(spots)
	for _, along := range []int{0, 5} {
		merged, _ := flux.Merge(u.spots[:3], 8, along, 0)
		spoil(merged)
		merged, _ = flux.Merge(u.spots[:1], 8, along, 0)
		spoil(merged)
	}
	flux.CheckTable(u.table[:2])
	flux.Sized(u.table[:2], span("[0,1]"))
	flux.Inside(u.digs[:1])
	if !u.same(newUsed()) {
		t.Errorf("the arguments became %+v", u)
	}
}

// All functions end without a panic, whatever the arguments are, and have zero values with an error.
func TestP1AnyArguments(t *testing.T) {
	great := dyad.Int(1)
	for range 4 {
		great, _ = great.Shift(api.MaxBits)
	}
	numbers := []dyad.Num{{}, num("-1"), num("3/8"), num("1"), great, great.Neg(), num("1").Add(unit(256))}
	ints := []int{math.MinInt, -1, 0, 1, 2, 8, 64, 300, 1 << 30, math.MaxInt}
	floats := []float32{0, minus, 1, -2.5, tiny, -huge, huge, inf, -inf, nan}
	lists := [][][]float32{nil, {}, {nil}, {floats}, {floats, moved(floats, 3)}, {floats, nil}, table(129, 65)}
	var spots []flux.Spot
	for _, a := range ints {
		for _, b := range ints {
			for _, set := range []uint64{0, 1, 129, math.MaxUint64} {
				spots = append(spots, flux.Spot{First: a, Last: b, Sensors: set})
			}
		}
	}
	var references []flux.Reading
	for _, a := range floats {
		for _, b := range floats {
			references = append(references, flux.Reading{Zero: a, Full: b})
			for _, v := range floats {
				if s, e := flux.Equal(v, flux.Reading{Zero: a, Full: b}, 3); e != api.OK && s.Text() != "[0,0]" {
					t.Errorf("Equal: %s %v", s.Text(), e)
				}
			}
		}
	}
	for _, rings := range lists {
		flux.Check(rings)
		for _, full := range floats {
			for _, n := range ints {
				if dead, e := flux.Dead(rings, full, n); e != api.OK && len(dead) > 0 {
					t.Errorf("Dead: %v", e)
				}
			}
		}
		for n := range 12 {
			l, dead := references[n:2*n], make([]bool, n)
			for _, x := range numbers {
				if marks, e := flux.Marks(rings, l, dead, x); e != api.OK && len(marks) > 0 {
					t.Errorf("Marks: %v", e)
				}
			}
			for _, s := range spots {
				if peak, ring, sensor, e := flux.Peak(rings, []flux.Reading{{0, 1}, {1, 0}, {0, 1}, {0, 2}, {huge, -huge}, {0, tiny}, {tiny, 0}, {1, 2}, {2, 1}, {0, 1}}, dead, s, n); e != api.OK && (peak.Text() != "[0,0]" || ring != 0 || sensor != 0) {
					t.Errorf("Peak: %v", e)
				}
			}
			if len(rings) > 0 {
				flux.Base(rings[0], dead)
			}
			flux.Longest(dead)
		}
	}
	for i, s := range spots {
		for _, n := range ints {
			if width, e := flux.Width(s, n); e != api.OK && width != 0 {
				t.Errorf("Width: %d %v", width, e)
			}
			if merged, e := flux.Merge([]flux.Spot{s, spots[len(spots)-1-i]}, n, n, i); e != api.OK && len(merged) > 0 {
				t.Errorf("Merge: %v", e)
			}
		}
	}
	for _, x := range numbers {
		for _, y := range numbers {
			both := dyad.Only(x).Hull(dyad.Only(y))
			l := []flux.Entry{{x, both}, {y, both}}
			flux.CheckTable(l)
			for n := range 3 {
				if s, e := flux.Sized(l[:n], both); e != api.OK && s.Text() != "[0,0]" {
					t.Errorf("Sized: %s %v", s.Text(), e)
				}
			}
			for _, n := range ints {
				for _, within := range ints {
					flux.Refused(n, within, x, y)
				}
				flux.Least(n, x, y)
			}
		}
	}
}
