package dent_test

import (
	"math"
	"slices"
	"testing"

	"wallgauge/api"
	"wallgauge/dent"
	"wallgauge/dyad"
)

// spoil changes a list, and what is behind its end.
func spoil[T any](l []T) {
	clear(l[:cap(l)])
}

// used are arguments, of which the lists have something behind their ends.
type used struct {
	radii, profile, welds []int
	steps                 []dent.Vector
	ties                  []dent.Tie
}

func newUsed() *used {
	return &used{
		radii: []int{100, 110, 100, 90, 77, 77}, profile: []int{0, -4, -4, 0, 77}, welds: []int{40, 20, 77},
		steps: []dent.Vector{{2, 0, 0}, {2, 0, 0}, {7, 7, 7}}, ties: []dent.Tie{tie(1, 2, 1, 0), tie(2, 4, 2, 0), tie(3, 7, 7, 7)},
	}
}

func (u *used) same(v *used) bool {
	return slices.Equal(u.radii, v.radii) && slices.Equal(u.profile, v.profile) && slices.Equal(u.welds, v.welds) && slices.Equal(u.steps, v.steps) && slices.Equal(u.ties, v.ties)
}

func TestR4Memory(t *testing.T) {
	u := newUsed()
	radii, l, steps, ties := u.radii[:4], u.profile[:4], u.steps[:2], u.ties[:2]
	dent.Oval(radii, 3)
	dent.Middle(radii)
	dents, _ := dent.Dented(radii, 10)
	spoil(dents)
	second, _ := dent.Second(l)
	spoil(second)
	dent.Chord(l, 3)
	dent.Piece(l, 1)
	dent.Value(l, 1, num("1/2"))
	dent.Slopes(l, 1, 4, 3)
	dent.Curve(l, 1, 4, 3)
	dent.Strain(l, 4, 8, 3)
	line, _ := dent.Line(steps)
	spoil(line)
	misses, _ := dent.Miss(steps, ties)
	spoil(misses)
	dent.Drift(steps, ties)
	closed, _ := dent.Closed(steps, ties)
	spoil(closed)
	dent.OnWeld(u.welds[:2], 19, 20, 1)
	if len(dents) != 1 || len(second) != 2 || len(line) != 3 || len(misses) != 2 || len(closed) != 3 {
		t.Errorf("there are %d dents, %d second differences, %d places, %d misses, %d closed places", len(dents), len(second), len(line), len(misses), len(closed))
	}
	if !u.same(newUsed()) {
		t.Errorf("the arguments became %+v", u)
	}
}

// arbitrary are ints with all limits of this layer among them.
func arbitrary() []int {
	return []int{math.MinInt, -1<<30 - 1, -1<<21 - 1, -1 << 20, -1, 0, 1, 2, 3, 360, 361, 719, 720, 1 << 20, 1<<20 + 1, 1 << 21, 1 << 24, 1<<24 + 1, 1 << 30, 1<<30 + 1, math.MaxInt}
}

// All functions end without a panic, whatever the arguments are, and have zero values with an error.
func TestP1AnyHeights(t *testing.T) {
	numbers := []dyad.Num{{}, num("-1"), num("3/8"), num("1"), great(), great().Neg(), num("1").Add(unit(256))}
	for _, x := range arbitrary() {
		for _, y := range arbitrary() {
			for _, l := range [][]int{nil, {}, {x}, {x, y, x}, {y, 1, 2, x}, {1, x, x, y, 1}, {1, 2, 3, 4}} {
				if s, e := dent.Oval(l, x); e != api.OK && s.Text() != "[0,0]" {
					t.Errorf("Oval: %s %v", s.Text(), e)
				}
				if dents, e := dent.Dented(l, y); e != api.OK && len(dents) > 0 {
					t.Errorf("Dented: %v %v", dents, e)
				}
				ofProfile(t, l, x, y, x, numbers[len(l)])
				ofProfile(t, l, 1, x, y, numbers[len(l)])
				if at, e := dent.OnWeld(l, x, y, y); e != api.OK && at != 0 {
					t.Errorf("OnWeld: %d %v", at, e)
				}
			}
			for _, z := range arbitrary() {
				if m, e := dent.Clock(x, y, z); e != api.OK && m != 0 {
					t.Errorf("Clock: %d %v", m, e)
				}
			}
			if is, e := dent.Restrained(x, y); e != api.OK && is {
				t.Errorf("Restrained: %v", e)
			}
		}
	}
}

func TestP1AnySteps(t *testing.T) {
	for _, x := range arbitrary() {
		for _, y := range arbitrary() {
			v, w := dent.Vector{X: x, Y: y, Z: x}, dent.Vector{X: y, Y: x}
			for _, steps := range []vectors{nil, {}, {v}, {v, w}, {{}, w, {}, {Z: y}}, make(vectors, 64)} {
				for _, ties := range [][]dent.Tie{nil, {}, {{}}, {{Step: x, At: w}}, {{Step: 1, At: v}, {Step: y}}, {{Step: 1, At: w}, {Step: 2, At: v}}} {
					ofLine(t, steps, ties)
				}
			}
			for _, z := range arbitrary() {
				if s, e := dent.Turn(v, w, z); e != api.OK && s.Text() != "[0,0]" {
					t.Errorf("Turn: %s %v", s.Text(), e)
				}
				if s, e := dent.Bent(v, w, z, y, z); e != api.OK && s.Text() != "[0,0]" {
					t.Errorf("Bent: %s %v", s.Text(), e)
				}
				if s, e := dent.Bent(w, dent.Vector{X: 1}, x, z, y); e != api.OK && s.Text() != "[0,0]" {
					t.Errorf("Bent: %s %v", s.Text(), e)
				}
			}
		}
	}
}
