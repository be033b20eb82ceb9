package drive_test

import (
	"math"
	"slices"
	"testing"

	"wallgauge/api"
	"wallgauge/drive"
	"wallgauge/dyad"
)

func TestP3_1Loop(t *testing.T) {
	for _, c := range []struct{ plant, under, control, below, want string }{
		{"1", "0 1", "2", "1", "2 1"}, {"1 2", "3 4", "5", "7", "26 38"}, {"1", "1", "1", "0 1", "1 1"}, {"0", "1 2", "5", "3 1", "3 7 2"}, {"1 2", "0 0", "3 0 1 0", "7 7", "3 6 1 2"},
		{"1 1", "1 1", "-1 0", "1", "0"}, {"0 1", "1 1", "-1", "1", "1"}, {"0", "0", "0", "0 0 0", "0"}, {"0 0 0 0 1", "0 0 0 0 1/2", "0 0 0 0 1", "0 0 0 0 1/2", "0 0 0 0 0 0 0 0 5/4"},
		{"0 0 0 0 0 0 0 0 0", "1", "1 1 1 1 1 1 1 1 1", "2", "2"},
	} {
		if p, e := drive.Loop(nums(c.plant), nums(c.under), nums(c.control), nums(c.below)); texts(p) != c.want || e != api.OK {
			t.Errorf("Loop of %s over %s with %s over %s: %s %v, want %s", c.plant, c.under, c.control, c.below, texts(p), e, c.want)
		}
	}
}

func TestP3_1LoopErrors(t *testing.T) {
	one, five, four := nums("1"), nums("0 0 0 0 0 1"), nums("1 0 0 0 1")
	for _, c := range [][4][]dyad.Num{
		{nil, one, one, one}, {one, nil, one, one}, {one, one, nil, one}, {one, one, one, nil}, {nil, nil, nil, nil},
		{long(), one, one, one}, {one, long(), one, one}, {one, one, long(), one}, {one, one, one, long()},
		{one, five, one, four}, {five, one, four, one}, {one, four, one, five}, {four, five, five, four}, {{}, five, one, four},
	} {
		if p, e := drive.Loop(c[0], c[1], c[2], c[3]); len(p) != 0 || e != api.ErrSize {
			t.Errorf("Loop of %s over %s with %s over %s: %s %v", texts(c[0]), texts(c[1]), texts(c[2]), texts(c[3]), texts(p), e)
		}
	}
	if _, e := drive.Loop(four, four, four, four); e != api.OK {
		t.Errorf("Loop of the degree 8: %v", e)
	}
}

func TestP3_4Loop(t *testing.T) {
	d := newDice(21)
	for range 500 {
		plant, under, control, below := d.list(1, 5, 9, 4), d.list(1, 5, 9, 4), d.list(1, 5, 9, 4), d.list(1, 5, 9, 4)
		p := must[[]dyad.Num](t)(drive.Loop(plant, under, control, below))
		if n := len(p); n == 0 || n > 1 && p[n-1].Zero() {
			t.Fatalf("Loop has a 0 at its end: %s", texts(p))
		}
		for range 4 {
			x := d.signed(4, 4)
			want := value(under, x).Mul(value(below, x)).Add(value(plant, x).Mul(value(control, x)))
			if !value(p, x).Same(want) {
				t.Fatalf("Loop of %s over %s with %s over %s is %s", texts(plant), texts(under), texts(control), texts(below), texts(p))
			}
		}
	}
}

func TestP3_1Corners(t *testing.T) {
	for _, c := range []struct {
		box  string
		want [4]string
	}{
		{"[1,2] [3,4] [5,6]", [4]string{"1 3 6", "2 4 5", "1 4 6", "2 3 5"}}, {"[-1,1] [1,1]", [4]string{"-1 1", "1 1", "-1 1", "1 1"}}, {"[1,2] [-4,-3]", [4]string{"1 -4", "2 -3", "1 -3", "2 -4"}},
		{"[0,1] [2,3] [4,5] [6,7] [8,9] [10,11] [12,13] [14,15] [16,17]", [4]string{"0 2 5 7 8 10 13 15 16", "1 3 4 6 9 11 12 14 17", "0 3 5 6 8 11 13 14 16", "1 2 4 7 9 10 12 15 17"}},
	} {
		four, e := drive.Corners(spans(c.box))
		for i, p := range four {
			if texts(p) != c.want[i] || e != api.OK {
				t.Errorf("Corners of %s: number %d is %s %v, want %s", c.box, i, texts(p), e, c.want[i])
			}
		}
	}
}

func TestP3_1BoxErrors(t *testing.T) {
	nine := "[1,1] [1,1] [1,1] [1,1] [1,1] [1,1] [1,1] [1,1] [1,1]"
	for _, c := range []struct {
		box  string
		want api.Errno
	}{
		{"", api.ErrSize}, {"[1,2]", api.ErrSize}, {"[0,0]", api.ErrSize}, {nine + " [1,1]", api.ErrSize}, {nine + " [0,0]", api.ErrSize},
		{"[1,2] [0,0]", api.ErrArg}, {"[1,2] [-1,1]", api.ErrArg}, {"[1,2] [0,1]", api.ErrArg}, {"[1,2] [-1,0]", api.ErrArg}, {"[1,2] [1,2] [0,1/1024]", api.ErrArg},
		{"[0,0] [1,1]", api.OK}, {"[0,0] [1/1024,1]", api.OK}, {"[0,0] [-1,-1/1024]", api.OK}, {nine, api.OK},
	} {
		four, e := drive.Corners(spans(c.box))
		none := true
		for _, p := range four {
			none = none && len(p) == 0
		}
		if e != c.want || none != (e != api.OK) {
			t.Errorf("Corners of %s: %v %v, want %v", c.box, four, e, c.want)
		}
		if ok, i, e := drive.Stable(spans(c.box)); e != c.want || e != api.OK && (ok || i != 0) {
			t.Errorf("Stable of %s: %v %d %v, want %v", c.box, ok, i, e, c.want)
		}
	}
}

func TestP3_1Stable(t *testing.T) {
	for _, c := range []struct {
		box  string
		want int
	}{
		{"[1,2] [3,4] [5,6]", -1}, {"[-2,-1] [-4,-3] [-6,-5]", -1}, {"[1,1] [2,3]", -1}, {"[1,1] [-3,-2]", 0}, {"[-1,1] [1,1]", 0}, {"[0,1] [1,1]", 0}, {"[-1,0] [-1,-1]", 1},
		{"[1/8,1/8] [1,1] [-1,1] [1,1]", 1}, {"[7,8] [10,10] [12,12] [12,12] [3,4]", 1}, {"[2,3] [3,3] [8,8] [10,11]", 1}, {"[5,5] [9,9] [12,13] [10,10] [3,3] [1,2]", 2}, {"[3,4] [4,4] [11,12] [9,10] [7,7] [3,4] [1,1]", 2},
		{"[5,6] [9,9] [3,4] [4,5]", 3}, {"[8,9] [9,10] [9,10] [8,9] [1,1]", 3}, {"[1,2] [1,2] [8,8] [5,6] [2,2] [1,1]", 3}, {"[-6,-5] [-9,-9] [-4,-3] [-5,-4]", 2},
	} {
		ok, i, e := drive.Stable(spans(c.box))
		if ok != (c.want < 0) || i != c.want || e != api.OK {
			t.Errorf("Stable of %s: %v %d %v, want %d", c.box, ok, i, e, c.want)
		}
	}
}

// hurwitz reports whether p is Hurwitz.
func hurwitz(t *testing.T, p []dyad.Num) bool {
	t.Helper()
	return must[bool](t)(dyad.Hurwitz(p))
}

// box returns a box around a product of stable factors, so that it is often stable.
func (d dice) box(t *testing.T) []dyad.Span {
	p := nums("1")
	for range 2 + d.IntN(3) {
		q := []dyad.Num{d.num(3, 2).Add(num("1/4")), d.num(2, 2).Add(num("1/4")), num("1")}
		if d.IntN(3) == 0 {
			q = q[1:]
		}
		p = must[[]dyad.Num](t)(dyad.Times(p, q))
	}
	share := d.num(-1, 10)
	var out []dyad.Span
	for _, c := range p {
		out = append(out, dyad.Only(c).Hull(dyad.Only(c.Sub(c.Mul(share)))))
	}
	return out
}

func TestP3_4StableBoxes(t *testing.T) {
	d := newDice(22)
	stable, unstable := 0, 0
	for range 300 {
		box := d.box(t)
		ok, at, e := drive.Stable(box)
		four, f := drive.Corners(box)
		if e != api.OK || f != api.OK {
			t.Fatalf("%s: %v %v", texts(box), e, f)
		}
		first := slices.IndexFunc(four[:], func(p []dyad.Num) bool { return !hurwitz(t, p) })
		if ok != (first < 0) || at != first {
			t.Fatalf("Stable of %s: %v %d, want %d", texts(box), ok, at, first)
		}
		if !ok {
			unstable++
			continue
		}
		stable++
		for range 30 {
			p, ends, part := make([]dyad.Num, len(box)), make([]dyad.Num, len(box)), make([]dyad.Span, len(box))
			for i, s := range box {
				p[i], ends[i], part[i] = d.inside(s), []dyad.Num{s.Lo(), s.Hi()}[d.IntN(2)], d.within(s)
			}
			if !hurwitz(t, p) || !hurwitz(t, ends) {
				t.Fatalf("the box %s has %s and %s", texts(box), texts(p), texts(ends))
			}
			if ok, at, e := drive.Stable(part); !ok || at != -1 || e != api.OK {
				t.Fatalf("the box %s is stable, its part %s not: %d %v", texts(box), texts(part), at, e)
			}
		}
	}
	if stable < 50 || unstable < 50 {
		t.Fatalf("%d boxes are stable, %d not", stable, unstable)
	}
}

// A control whose loop has a stable box is stable with each plant of its box.
func TestP3_4PlantsOfABox(t *testing.T) {
	gain, lag, slope := span("[2,5]"), span("[1/2,3/4]"), span("[1,3]")
	// The plant is gain over slope x + lag x^2, the control 1 + x/2.
	half := dyad.Only(num("1/2"))
	loop := []dyad.Span{gain, slope.Add(gain.Mul(half)), lag}
	if ok, at, e := drive.Stable(loop); !ok || at != -1 || e != api.OK {
		t.Fatalf("the loop %s: %v %d %v", texts(loop), ok, at, e)
	}
	d := newDice(23)
	for range 200 {
		p := must[[]dyad.Num](t)(drive.Loop([]dyad.Num{d.inside(gain)}, []dyad.Num{{}, d.inside(slope), d.inside(lag)}, nums("1 1/2"), nums("1")))
		if !hurwitz(t, p) {
			t.Fatalf("the loop %s is not stable", texts(p))
		}
	}
}

func TestP3_1Moved(t *testing.T) {
	for _, c := range []struct{ p, by, want string }{
		{"2 1", "2", "0 1"}, {"2 1", "0", "2 1"}, {"2 1", "-2", "4 1"}, {"5", "7", "5"}, {"0", "7", "0"}, {"0 0 0", "7", "0"}, {"5 0", "1/2", "5"}, {"0 0 1", "1", "1 -2 1"}, {"0 0 1 0 0 0 0 0 0", "1", "1 -2 1"},
		{"-1 0 3/4", "1/2", "-13/16 -3/4 3/4"}, {"0 0 0 0 0 0 0 0 1", "-1", "1 8 28 56 70 56 28 8 1"}, {"0 0 0 0 0 0 0 0 1", "1", "1 -8 28 -56 70 -56 28 -8 1"}, {"1 2 1", "1", "0 0 1"},
	} {
		if p, e := drive.Moved(nums(c.p), num(c.by)); texts(p) != c.want || e != api.OK {
			t.Errorf("%s Moved by %s: %s %v, want %s", c.p, c.by, texts(p), e, c.want)
		}
	}
	for _, bad := range [][]dyad.Num{nil, {}, long(), make([]dyad.Num, 10)} {
		if p, e := drive.Moved(bad, num("1")); len(p) != 0 || e != api.ErrSize {
			t.Errorf("%s Moved: %s %v", texts(bad), texts(p), e)
		}
	}
}

func TestP3_5Moved(t *testing.T) {
	d := newDice(24)
	for range 500 {
		p, a, b := d.list(1, 9, 9, 5), d.signed(5, 5), d.signed(5, 5)
		once := must[[]dyad.Num](t)(drive.Moved(p, a))
		twice := must[[]dyad.Num](t)(drive.Moved(once, b))
		both := must[[]dyad.Num](t)(drive.Moved(p, a.Add(b)))
		if texts(twice) != texts(both) {
			t.Fatalf("%s Moved by %s and %s: %s, by both %s", texts(p), a.Text(), b.Text(), texts(twice), texts(both))
		}
		if x := d.signed(5, 5); !value(once, x).Same(value(p, x.Sub(a))) || len(once) > 1 && once[len(once)-1].Zero() {
			t.Fatalf("%s Moved by %s: %s", texts(p), a.Text(), texts(once))
		}
	}
}

func TestP3_1Margin(t *testing.T) {
	for _, c := range []struct {
		p    string
		k    int
		want string
	}{
		{"2 1", 0, "[1,2]"}, {"2 1", 2, "[7/4,2]"}, {"-2 -1 0 0", 2, "[7/4,2]"}, {"1 2", 0, "[0,1]"}, {"1 2", 1, "[0,1/2]"}, {"1 2", 2, "[1/4,1/2]"}, {"1 3", 3, "[1/4,3/8]"}, {"1 1073741824", 20, "[0,1/1048576]"},
		{"2 2 1", 0, "[0,1]"}, {"2 2 1", 3, "[7/8,1]"}, {"5 2 1", 3, "[7/8,1]"}, {"6 5 1", 0, "[1,2]"}, {"6 5 1", 1, "[3/2,2]"}, {"1 8 28 56 70 56 28 8 1", 2, "[3/4,1]"},
		{"5", 0, "[1024,1025]"}, {"-1/2 0 0", 3, "[1024,8193/8]"}, {"2049 2", 0, "[1024,1025]"}, {"1025 1", 1, "[1024,2049/2]"}, {"1024 1", 0, "[1023,1024]"}, {"1024 1", 2, "[4095/4,1024]"}, {"2047 2", 0, "[1023,1024]"}, {"99999 1", 0, "[1024,1025]"},
		{"2 1", -5, "[1,2]"}, {"2 1", math.MinInt, "[1,2]"}, {"1 3", 20, "[349525/1048576,174763/524288]"}, {"1 3", 21, "[349525/1048576,174763/524288]"}, {"1 3", math.MaxInt, "[349525/1048576,174763/524288]"}, {"1 3", 19, "[87381/262144,174763/524288]"},
	} {
		if s, e := drive.Margin(nums(c.p), c.k); s.Text() != c.want || e != api.OK {
			t.Errorf("Margin of %s with %d bits: %s %v, want %s", c.p, c.k, s.Text(), e, c.want)
		}
	}
}

func TestP3_1MarginErrors(t *testing.T) {
	for _, c := range []struct {
		p    []dyad.Num
		want api.Errno
	}{
		{nil, api.ErrSize}, {long(), api.ErrSize}, {make([]dyad.Num, 10), api.ErrSize}, {nums("0"), api.ErrNone}, {nums("0 0 0"), api.ErrNone},
		{nums("-1 1"), api.ErrNone}, {nums("0 1"), api.ErrNone}, {nums("1 0 1"), api.ErrNone}, {nums("1 1 1 1"), api.ErrNone}, {nums("1 -1"), api.ErrNone}, {nums("-2 1 1"), api.ErrNone},
	} {
		if s, e := drive.Margin(c.p, 3); s.Text() != "[0,0]" || e != c.want {
			t.Errorf("Margin of %s: %s %v, want %v", texts(c.p), s.Text(), e, c.want)
		}
	}
}

func TestP3_5Margins(t *testing.T) {
	d := newDice(25)
	factor := func() []dyad.Num {
		switch d.IntN(6) {
		case 0:
			return nums("-3/4")
		case 1:
			return []dyad.Num{d.num(11, 3).Add(num("1/8")), num("1")}
		}
		return []dyad.Num{d.num(8, 3).Add(num("1/8")), d.num(5, 3).Add(num("1/8")), num("1/2")}[d.IntN(2):]
	}
	for range 300 {
		p, q, k := factor(), must[[]dyad.Num](t)(dyad.Times(factor(), factor())), d.IntN(21)
		a := must[dyad.Span](t)(drive.Margin(p, k))
		b := must[dyad.Span](t)(drive.Margin(q, k))
		both := must[dyad.Span](t)(drive.Margin(must[[]dyad.Num](t)(dyad.Times(p, q)), k))
		less := a
		if b.Lo().Cmp(a.Lo()) < 0 {
			less = b
		}
		if both.Text() != less.Text() {
			t.Fatalf("Margin of %s: %s, of %s: %s, of the product: %s", texts(p), a.Text(), texts(q), b.Text(), both.Text())
		}
		if !both.Width().Same(unit(k)) || both.Lo().Bits() > k || both.Lo().Sign() < 0 {
			t.Fatalf("Margin with %d bits: %s", k, both.Text())
		}
		at := must[[]dyad.Num](t)(drive.Moved(q, b.Lo()))
		behind := must[[]dyad.Num](t)(drive.Moved(q, b.Hi()))
		if !hurwitz(t, at) || hurwitz(t, behind) && !b.Lo().Same(num("1024")) {
			t.Fatalf("Margin of %s: %s", texts(q), b.Text())
		}
	}
}
