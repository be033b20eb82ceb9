package line_test

import (
	"math"
	"math/big"
	"math/rand/v2"
	"testing"

	"wallgauge/api"
	"wallgauge/line"
)

// goodTool passes the example.
func goodTool() line.Tool {
	return line.Tool{Stiff: 1200000, Thick: 500000, Least: 560000, Seal: 1600000}
}

func TestP2_1Passes(t *testing.T) {
	for _, c := range []struct {
		name   string
		change func(x *line.Tool)
		want   int
	}{
		{"good", func(x *line.Tool) {}, -1},
		{"stiff", func(x *line.Tool) { x.Stiff = 2000000 }, 1},
		{"seal", func(x *line.Tool) { x.Seal = 1500000 }, 2},
		{"seal, just enough", func(x *line.Tool) { x.Seal = 1500001 }, -1},
		{"stiff and seal", func(x *line.Tool) { x.Stiff, x.Seal = 2000000, 1 }, 1},
		{"cups as wide as the bore", func(x *line.Tool) { x.Least = 590000 }, -1},
		{"cups", func(x *line.Tool) { x.Least = 590001 }, 0},
		{"body as thick as the bore", func(x *line.Tool) { x.Thick, x.Stiff = 590000, 1 }, 1},
		{"body", func(x *line.Tool) { x.Thick = 590001 }, 0},
		{"least", func(x *line.Tool) { *x = line.Tool{Stiff: 1, Thick: 1, Least: 1, Seal: 1 << 24} }, -1},
		{"greatest", func(x *line.Tool) { *x = line.Tool{Stiff: 1 << 24, Thick: 1 << 24, Least: 1 << 24, Seal: 1 << 24} }, 0},
	} {
		tool := goodTool()
		c.change(&tool)
		if n, e := line.Passes(example(), tool); n != c.want || e != api.OK {
			t.Errorf("%s: %d %v", c.name, n, e)
		}
	}
}

func TestP2_1PassesErrors(t *testing.T) {
	for _, n := range []int{0, -1, 1<<24 + 1, math.MaxInt, math.MinInt} {
		for i, change := range []func(x *line.Tool){
			func(x *line.Tool) { x.Stiff = n }, func(x *line.Tool) { x.Thick = n }, func(x *line.Tool) { x.Least = n }, func(x *line.Tool) { x.Seal = n },
		} {
			tool := goodTool()
			change(&tool)
			if n, e := line.Passes(example(), tool); n != 0 || e != api.ErrFit {
				t.Errorf("field %d is %d: %d %v", i, n, n, e)
			}
		}
	}
}

// In this bend (2 R - b + 2 Thick)^2 + Stiff^2 can be just (2 R + b)^2: 3, 4 and 5 are the sides of a right triangle.
func TestP2_1PassesBend(t *testing.T) {
	l := line.Line{Items: []line.Item{{Kind: line.Bend, Length: 1000, Outer: 202, Wall: 1, Radius: 400}}}
	for _, c := range []struct{ stiff, thick, want int }{
		{600, 100, -1}, {601, 100, 0}, {600, 101, 0}, {599, 100, -1}, {600, 99, -1}, {1, 200, 0}, {1, 199, -1}, {64, 199, 0},
	} {
		if n, e := line.Passes(l, line.Tool{Stiff: c.stiff, Thick: c.thick, Least: 1, Seal: 1}); n != c.want || e != api.OK {
			t.Errorf("stiff %d, thick %d: %d %v", c.stiff, c.thick, n, e)
		}
	}
}

// passes says what the document says of a tool and an item.
func passes(x line.Item, t line.Tool) bool {
	b := x.Outer - 2*x.Wall
	if t.Thick > b || t.Least > b {
		return false
	}
	square := func(n int) *big.Int { return new(big.Int).Mul(big.NewInt(int64(n)), big.NewInt(int64(n))) }
	ends := new(big.Int).Add(square(2*x.Radius-b+2*t.Thick), square(t.Stiff))
	return (x.Kind != line.Valve || t.Seal > 1000*x.Length) && (x.Kind != line.Bend || ends.Cmp(square(2*x.Radius+b)) <= 0)
}

// tools returns tools of which some pass the short lines.
func tools() []line.Tool {
	r := rand.New(rand.NewPCG(7, 7))
	out := []line.Tool{goodTool(), {Stiff: 1, Thick: 1, Least: 1, Seal: 1}, {Stiff: 1, Thick: 1, Least: 1, Seal: 1 << 24}}
	for range 12 {
		out = append(out, line.Tool{Stiff: 1 + r.IntN(1000000), Thick: 1 + r.IntN(400000), Least: 1 + r.IntN(500000), Seal: 1 + r.IntN(8000)})
	}
	return out
}

func TestP2_7FirstItem(t *testing.T) {
	for _, l := range shorts(t) {
		for _, tool := range tools() {
			want := -1
			for i, x := range l.Items {
				if want < 0 && !passes(x, tool) {
					want = i
				}
			}
			if n, e := line.Passes(l, tool); n != want || e != api.OK {
				t.Fatalf("%v, %v: %d %v, want %d", l, tool, n, e, want)
			}
		}
	}
}

func TestP2_7Tools(t *testing.T) {
	for _, l := range shorts(t) {
		for i, x := range tools() {
			first, _ := line.Passes(l, x)
			less := line.Tool{Stiff: max(x.Stiff-i, 1), Thick: max(x.Thick-i*i, 1), Least: x.Least - x.Least/(i+2), Seal: min(x.Seal+i, 1<<24)}
			if n, e := line.Passes(l, less); e != api.OK || n >= 0 && (first < 0 || n < first) {
				t.Fatalf("%v: %v stops at %d, and %v, which is smaller, at %d (%v)", l, x, first, less, n, e)
			}
		}
	}
}

func TestP2_7WiderBends(t *testing.T) {
	for _, l := range shorts(t) {
		wide := deep(l)
		for i, x := range wide.Items {
			if x.Kind == line.Bend {
				wide.Items[i].Radius += 1 + 1000*x.Length
			}
		}
		for _, x := range tools() {
			first, _ := line.Passes(l, x)
			if n, e := line.Passes(wide, x); e != api.OK || n >= 0 && (first < 0 || n < first) {
				t.Fatalf("%v: %v stops at %d, with wider bends at %d (%v)", l, x, first, n, e)
			}
		}
	}
}
