package dent_test

import (
	"math"
	"math/big"
	"slices"
	"testing"

	"wallgauge/api"
	"wallgauge/dent"
	"wallgauge/dyad"
)

// basin is the profile of the document's examples.
func basin() []int { return []int{0, -4, -4, 0} }

// line returns n heights on a straight line.
func line(n, first, slope int) []int {
	out := make([]int, n)
	for i := range out {
		out[i] = first + slope*i
	}
	return out
}

// added returns the sums of two profiles, point by point.
func added(a, b []int) []int {
	out := slices.Clone(a)
	for i, y := range b {
		out[i] += y
	}
	return out
}

// opposite returns the profile that is upside down.
func opposite(l []int) []int {
	var out []int
	for _, y := range l {
		out = append(out, -y)
	}
	return out
}

// rises returns the differences at the ends of a piece.
func rises(l []int, i int) (ahead, behind int) { return l[i] - l[i-1], l[i+1] - l[i] }

// pieces returns the number of pieces of a profile.
func pieces(l []int) int { return len(l) - 2 }

func TestP7_1ProfileOfExamples(t *testing.T) {
	l := basin()
	if got := must[[]int](t)(dent.Second(l)); !slices.Equal(got, []int{4, 4}) {
		t.Errorf("Second %v", got)
	}
	if depth, at, e := dent.Chord(l, 3); e != api.OK || depth.Text() != "[4,4]" || at != 1 {
		t.Errorf("Chord %s at %d, %v", depth.Text(), at, e)
	}
	c := must[[3]dyad.Num](t)(dent.Piece(l, 1))
	if c[0].Text() != "-2" || c[1].Text() != "-4" || c[2].Text() != "-4" {
		t.Errorf("Piece %v", c)
	}
	if got := must[dyad.Num](t)(dent.Value(l, 1, num("1/2"))); got.Text() != "-7/2" {
		t.Errorf("Value %s", got.Text())
	}
	if got := must[dyad.Span](t)(dent.Slopes(l, 1, 4, 4)); got.Text() != "[-1,0]" {
		t.Errorf("Slopes %s", got.Text())
	}
	if got := must[dyad.Span](t)(dent.Curve(l, 1, 4, 4)); got.Text() != "[1/16,1/4]" {
		t.Errorf("Curve %s", got.Text())
	}
	if got, piece, e := dent.Strain(l, 4, 8, 4); e != api.OK || got.Text() != "[1/4,1]" || piece != 1 {
		t.Errorf("Strain %s at %d, %v", got.Text(), piece, e)
	}
}

func TestP7_1Second(t *testing.T) {
	for _, c := range []struct{ l, want []int }{
		{[]int{1, 2, 3}, []int{0}},
		{[]int{5, 0, 5}, []int{10}},
		{[]int{0, 5, 1, 7}, []int{-9, 10}},
		{[]int{1 << 21, -1 << 21, 1 << 21}, []int{1 << 23}},
		{[]int{-1 << 21, 1 << 21, -1 << 21, -1 << 21}, []int{-1 << 23, 1 << 22}},
	} {
		if got := must[[]int](t)(dent.Second(c.l)); !slices.Equal(got, c.want) {
			t.Errorf("Second of %v is %v, want %v", c.l, got, c.want)
		}
	}
	d := newDice(11)
	for range 100 {
		l := d.profile()
		for i, s := range must[[]int](t)(dent.Second(l)) {
			ahead, behind := rises(l, i+1)
			if s != behind-ahead {
				t.Errorf("Second of %v at %d is %d", l, i+1, s)
			}
		}
	}
}

func TestP7_1Chord(t *testing.T) {
	for _, c := range []struct {
		l     []int
		k, at int
		depth string
	}{
		{[]int{0, -4, -4, 0}, 0, 1, "[4,4]"},          // of equal depths the first one
		{[]int{3, 9, 4}, 5, 0, "[0,0]"},               // no height is below the line: its beginning is on it
		{[]int{0, 1, 2, 3}, 5, 0, "[0,0]"},            // all are on the line
		{[]int{0, 0, 0, 1}, 2, 2, "[1/2,3/4]"},        // 2/3
		{[]int{0, -1, -1, -3, -3}, 8, 3, "[3/4,3/4]"}, // 1/4, -1/2, 3/4
		{[]int{0, 0, -1}, 0, 0, "[0,0]"},              // above the line
	} {
		depth, at, e := dent.Chord(c.l, c.k)
		if e != api.OK || depth.Text() != c.depth || at != c.at {
			t.Errorf("Chord of %v is %s at %d, %v, want %s at %d", c.l, depth.Text(), at, e, c.depth, c.at)
		}
	}
	d := newDice(12)
	for range 300 {
		l, k := d.profile(), d.from(0, 30)
		best, first, m := new(big.Rat), 0, len(l)-1
		for i := range l {
			part := frac(i, m)
			straight := sum(frac(l[0], 1), product(part, frac(l[m]-l[0], 1)))
			if below := sum(straight, frac(-l[i], 1)); below.Cmp(best) > 0 {
				best, first = below, i
			}
		}
		depth, at, e := dent.Chord(l, k)
		if e != api.OK || at != first || !around(depth, best, k) {
			t.Errorf("Chord of %v is %s at %d, %v, want %v at %d", l, depth.Text(), at, e, best, first)
		}
	}
	checkBits(t, "Chord", func(k int) (dyad.Span, api.Errno) {
		depth, _, e := dent.Chord([]int{0, 0, 0, 1}, k)
		return depth, e
	})
}

func TestP7_1PieceAndValue(t *testing.T) {
	d := newDice(13)
	for range 100 {
		l := d.profile()
		for i := 1; i <= pieces(l); i++ {
			c := must[[3]dyad.Num](t)(dent.Piece(l, i))
			want := [3]*big.Rat{frac(l[i-1]+l[i], 2), frac(l[i], 1), frac(l[i]+l[i+1], 2)}
			for j := range c {
				if rat(c[j]).Cmp(want[j]) != 0 {
					t.Errorf("Piece %d of %v has %s at %d, want %v", i, l, c[j].Text(), j, want[j])
				}
			}
			at := d.part()
			u := rat(at)
			v := sum(frac(1, 1), new(big.Rat).Neg(u))
			height := sum(product(v, v, want[0]), product(frac(2, 1), u, v, want[1]), product(u, u, want[2]))
			if got := must[dyad.Num](t)(dent.Value(l, i, at)); rat(got).Cmp(height) != 0 {
				t.Errorf("Value of piece %d of %v at %s is %s, want %v", i, l, at.Text(), got.Text(), height)
			}
		}
	}
	// All bits of t count.
	if got := must[dyad.Num](t)(dent.Value([]int{0, 0, 2}, 1, unit(256))); got.Cmp(unit(256).Mul(unit(256))) != 0 {
		t.Errorf("Value at 2^-256 is %s", got.Text())
	}
}

func TestP7_1Slopes(t *testing.T) {
	for _, c := range []struct {
		l    []int
		k    int
		want string
	}{
		{[]int{0, 1, 0}, 2, "[-1/2,1/2]"}, // 1/3 and -1/3
		{[]int{0, 1, 2}, 2, "[1/4,1/2]"},  // 1/3 alone
		{[]int{2, 1, 0}, 1, "[-1/2,0]"},
		{[]int{0, 9, 9}, 0, "[0,3]"},
	} {
		if got := must[dyad.Span](t)(dent.Slopes(c.l, 1, 3, c.k)); got.Text() != c.want {
			t.Errorf("Slopes of %v are %s, want %s", c.l, got.Text(), c.want)
		}
	}
	d := newDice(14)
	for range 100 {
		l, step, k := d.profile(), d.from(1, d.most(1<<24)), d.from(0, 30)
		for i := 1; i <= pieces(l); i++ {
			ahead, behind := rises(l, i)
			lo, hi := floor(frac(min(ahead, behind), step), k), ceil(frac(max(ahead, behind), step), k)
			if got := must[dyad.Span](t)(dent.Slopes(l, i, step, k)); !sameEnds(got, lo, hi) {
				t.Errorf("Slopes of piece %d of %v are %s, want %v to %v", i, l, got.Text(), lo, hi)
			}
		}
	}
	checkBits(t, "Slopes", func(k int) (dyad.Span, api.Errno) { return dent.Slopes([]int{0, 1, 0}, 1, 3, k) })
}

// bounds returns the bounds of the curvature of a piece, multiplied by times.
func bounds(l []int, i, step int, times *big.Rat) (lo, hi *big.Rat) {
	ahead, behind := rises(l, i)
	second := behind - ahead
	c := product(frac(max(second, -second), step), frac(1, step), times)
	q := frac(max(ahead, -ahead, behind, -behind), step)
	stretch := sum(frac(1, 1), product(q, q))
	return quotient(c, product(stretch, stretch)), c
}

func TestP7_1Curve(t *testing.T) {
	d := newDice(15)
	for range 100 {
		l, step, k := d.profile(), d.from(1, d.most(1<<24)), d.from(0, 60)
		for i := 1; i <= pieces(l); i++ {
			lo, hi := bounds(l, i, step, frac(1, 1))
			if got := must[dyad.Span](t)(dent.Curve(l, i, step, k)); !sameEnds(got, floor(lo, k), ceil(hi, k)) {
				t.Errorf("Curve of piece %d of %v with the step %d is %s, want %v to %v", i, l, step, got.Text(), lo, hi)
			}
		}
	}
	checkBits(t, "Curve", func(k int) (dyad.Span, api.Errno) { return dent.Curve([]int{0, 1, 0}, 1, 3, k) })
}

func TestP7_1Strain(t *testing.T) {
	d := newDice(16)
	for n := range 300 {
		l, step, wall, k := d.profile(), d.from(1, d.most(1<<24)), d.from(1, d.most(1<<24)), d.from(0, 60)
		if n%2 == 0 {
			l = d.ints(d.from(3, 12), -2, 2) // so that many pieces bend the same
		}
		most, piece := new(big.Rat), 1
		for i := 1; i <= pieces(l); i++ {
			if _, hi := bounds(l, i, step, frac(1, 1)); hi.Cmp(most) > 0 {
				most, piece = hi, i
			}
		}
		lo, hi := bounds(l, piece, step, frac(wall, 2))
		got, at, e := dent.Strain(l, step, wall, k)
		if e != api.OK || at != piece || !sameEnds(got, floor(lo, k), ceil(hi, k)) {
			t.Errorf("Strain of %v with the step %d and the wall %d is %s at %d, %v, want %v to %v at %d", l, step, wall, got.Text(), at, e, lo, hi, piece)
		}
	}
	checkBits(t, "Strain", func(k int) (dyad.Span, api.Errno) {
		strain, _, e := dent.Strain([]int{0, 1, 0}, 3, 1, k)
		return strain, e
	})
}

// ofProfile returns the errors of all functions of a profile, and fails the test if there is no zero value with an error.
func ofProfile(t *testing.T, l []int, i, step, wall int, at dyad.Num) [7]api.Errno {
	t.Helper()
	second, a := dent.Second(l)
	chord, deepest, b := dent.Chord(l, 3)
	piece, c := dent.Piece(l, i)
	value, d := dent.Value(l, i, at)
	slopes, e := dent.Slopes(l, i, step, 3)
	curve, f := dent.Curve(l, i, step, 3)
	strain, bent, g := dent.Strain(l, step, wall, 3)
	switch {
	case a != api.OK && len(second) > 0,
		b != api.OK && (chord.Text() != "[0,0]" || deepest != 0),
		c != api.OK && !(piece[0].Zero() && piece[1].Zero() && piece[2].Zero()),
		d != api.OK && !value.Zero(),
		e != api.OK && slopes.Text() != "[0,0]",
		f != api.OK && curve.Text() != "[0,0]",
		g != api.OK && (strain.Text() != "[0,0]" || bent != 0):
		t.Errorf("of %v, the piece %d, the step %d, the wall %d and %s there is a value with an error", l, i, step, wall, at.Text())
	}
	return [7]api.Errno{a, b, c, d, e, f, g}
}

func TestP7_1ErrorsOfProfiles(t *testing.T) {
	half := num("1/2")
	all := func(e api.Errno) [7]api.Errno { return [7]api.Errno{e, e, e, e, e, e, e} }
	for n := range 70 {
		want := all(api.ErrSize)
		if n >= 3 && n <= 64 {
			want = all(api.OK)
		}
		if got := ofProfile(t, make([]int, n), 1, 1, 1, half); got != want {
			t.Errorf("errors of %d heights %v, want %v", n, got, want)
		}
	}
	for at := range 4 {
		for _, bad := range []int{1<<21 + 1, -1<<21 - 1, math.MinInt, math.MaxInt} {
			if got := ofProfile(t, with(4, 5, at, bad), 1, 1, 1, half); got != all(api.ErrArg) {
				t.Errorf("errors of the height %d: %v", bad, got)
			}
		}
		for _, good := range []int{1 << 21, -1 << 21} {
			if got := ofProfile(t, with(4, 5, at, good), 1, 1, 1, half); got != all(api.OK) {
				t.Errorf("errors of the height %d: %v", good, got)
			}
		}
	}
	// The errors of the profile come first.
	if got := ofProfile(t, with(65, 5, 0, 1<<22), 0, 0, 0, num("-1")); got != all(api.ErrSize) {
		t.Errorf("errors of a long profile, and of all else: %v", got)
	}
}

func TestP7_1ErrorsOfPieces(t *testing.T) {
	l, half := basin(), num("1/2")
	for i := -2; i <= 5; i++ {
		var want [7]api.Errno
		if i < 1 || i > 2 {
			want = [7]api.Errno{2: api.ErrArg, 3: api.ErrArg, 4: api.ErrArg, 5: api.ErrArg}
		}
		if got := ofProfile(t, l, i, 1, 1, half); got != want {
			t.Errorf("errors of the piece %d: %v, want %v", i, got, want)
		}
	}
	for _, i := range []int{math.MinInt, math.MaxInt} {
		if got := ofProfile(t, l, i, 1, 1, half); got != [7]api.Errno{2: api.ErrArg, 3: api.ErrArg, 4: api.ErrArg, 5: api.ErrArg} {
			t.Errorf("errors of the piece %d: %v", i, got)
		}
	}
	for _, at := range []dyad.Num{unit(256).Neg(), num("1").Add(unit(256)), num("-1"), num("2"), great(), great().Neg()} {
		if got := ofProfile(t, l, 1, 1, 1, at); got != [7]api.Errno{3: api.ErrArg} {
			t.Errorf("errors at %s: %v", at.Text(), got)
		}
	}
	for _, at := range []dyad.Num{{}, num("1"), unit(256), num("1").Sub(unit(256))} {
		if got := ofProfile(t, l, 1, 1, 1, at); got != [7]api.Errno{} {
			t.Errorf("errors at %s: %v", at.Text(), got)
		}
	}
}

func TestP7_1ErrorsOfLengths(t *testing.T) {
	l, half := basin(), num("1/2")
	for _, bad := range []int{0, -1, 1<<24 + 1, math.MinInt, math.MaxInt} {
		if got := ofProfile(t, l, 1, bad, 1, half); got != [7]api.Errno{4: api.ErrArg, 5: api.ErrArg, 6: api.ErrArg} {
			t.Errorf("errors of the step %d: %v", bad, got)
		}
		if got := ofProfile(t, l, 1, 1, bad, half); got != [7]api.Errno{6: api.ErrArg} {
			t.Errorf("errors of the wall %d: %v", bad, got)
		}
	}
	for _, good := range []int{1, 1 << 24} {
		if got := ofProfile(t, l, 1, good, good, half); got != [7]api.Errno{} {
			t.Errorf("errors of the length %d: %v", good, got)
		}
	}
}

func TestP7_3NeighboursMeet(t *testing.T) {
	d := newDice(17)
	for range 100 {
		l := d.profile()
		for i := 1; i < pieces(l); i++ {
			a, b := must[dyad.Num](t)(dent.Value(l, i, num("1"))), must[dyad.Num](t)(dent.Value(l, i+1, num("0")))
			if !a.Same(b) {
				t.Errorf("the pieces %d and %d of %v end at %s and begin at %s", i, i+1, l, a.Text(), b.Text())
			}
			c, n := must[[3]dyad.Num](t)(dent.Piece(l, i)), must[[3]dyad.Num](t)(dent.Piece(l, i+1))
			if !c[2].Sub(c[1]).Same(n[1].Sub(n[0])) {
				t.Errorf("the pieces %d and %d of %v have other slopes", i, i+1, l)
			}
		}
	}
}

func TestP7_3HeightsBetweenCoefficients(t *testing.T) {
	d := newDice(18)
	for range 300 {
		l := d.profile()
		i := d.from(1, pieces(l))
		c := must[[3]dyad.Num](t)(dent.Piece(l, i))
		hull := dyad.Only(c[0]).Hull(dyad.Only(c[1])).Hull(dyad.Only(c[2]))
		if got := must[dyad.Num](t)(dent.Value(l, i, d.part())); !hull.Has(got) {
			t.Errorf("piece %d of %v has the height %s, outside of %s", i, l, got.Text(), hull.Text())
		}
	}
}

func TestP7_3StraightLine(t *testing.T) {
	d := newDice(19)
	for range 100 {
		n, first, slope := d.from(3, 64), d.from(-1<<20, 1<<20), d.from(-1<<14, 1<<14)
		l, at := line(n, first, slope), d.part()
		i := d.from(1, n-2)
		// Half a step ahead of the point i the piece begins.
		place := sum(frac(2*i-1, 2), rat(at))
		want := sum(frac(first, 1), product(frac(slope, 1), place))
		if got := must[dyad.Num](t)(dent.Value(l, i, at)); rat(got).Cmp(want) != 0 {
			t.Errorf("the line %v has at %v the height %s, want %v", l, place, got.Text(), want)
		}
		strain, piece, e := dent.Strain(l, d.from(1, 100), d.from(1, 100), d.from(0, 256))
		if e != api.OK || strain.Text() != "[0,0]" || piece != 1 {
			t.Errorf("the line %v has the strain %s at %d, %v", l, strain.Text(), piece, e)
		}
	}
}

func TestP7_3MovedProfile(t *testing.T) {
	d := newDice(20)
	for range 100 {
		l := d.ints(d.from(3, 64), -1<<20, 1<<20)
		more := added(l, line(len(l), d.from(-1<<19, 1<<19), d.from(-1<<13, 1<<13)))
		if a, b := must[[]int](t)(dent.Second(l)), must[[]int](t)(dent.Second(more)); !slices.Equal(a, b) {
			t.Errorf("Second of %v is %v, of %v %v", l, a, more, b)
		}
		step, wall, k := d.from(1, 1000), d.from(1, 1000), d.from(0, 60)
		a, i, e := dent.Strain(l, step, wall, k)
		b, j, f := dent.Strain(opposite(l), step, wall, k)
		if a.Text() != b.Text() || i != j || e != api.OK || f != api.OK {
			t.Errorf("Strain of %v is %s at %d, %v, of the opposite profile %s at %d, %v", l, a.Text(), i, e, b.Text(), j, f)
		}
	}
}

// squareOfCurvature returns the square of the curvature of a piece at t.
func squareOfCurvature(l []int, i, step int, at *big.Rat) *big.Rat {
	ahead, behind := rises(l, i)
	c := product(frac(behind-ahead, step), frac(1, step))
	s := sum(frac(ahead, step), product(frac(behind-ahead, step), at))
	stretch := sum(frac(1, 1), product(s, s))
	return quotient(product(c, c), product(stretch, stretch, stretch))
}

func TestP7_4CurvatureIsEnclosed(t *testing.T) {
	d := newDice(21)
	for range 300 {
		l, step, wall, k := d.profile(), d.from(1, d.most(1<<24)), d.from(1, d.most(1<<24)), d.from(0, 60)
		strain, piece, _ := dent.Strain(l, step, wall, k)
		lo, hi := rat(strain.Lo()), rat(strain.Hi())
		greatest := new(big.Rat)
		for i := 1; i <= pieces(l); i++ {
			at := rat(d.part())
			square := squareOfCurvature(l, i, step, at)
			curve := must[dyad.Span](t)(dent.Curve(l, i, step, k))
			if least := rat(curve.Lo()); product(least, least).Cmp(square) > 0 {
				t.Errorf("Curve of piece %d of %v is %s, but at %v the square is %v", i, l, curve.Text(), at, square)
			}
			if most := rat(curve.Hi()); product(most, most).Cmp(square) < 0 {
				t.Errorf("Curve of piece %d of %v is %s, but at %v the square is %v", i, l, curve.Text(), at, square)
			}
			bent := product(square, frac(wall, 2), frac(wall, 2))
			if product(hi, hi).Cmp(bent) < 0 {
				t.Errorf("Strain of %v is %s, but in piece %d at %v the square is %v", l, strain.Text(), i, at, bent)
			}
			if i == piece {
				greatest = greater(greatest, bent)
			}
		}
		if lo.Cmp(hi) > 0 || product(lo, lo).Cmp(greatest) > 0 {
			t.Errorf("Strain of %v is %s, but the square somewhere in piece %d is %v", l, strain.Text(), piece, greatest)
		}
	}
}

func TestP7_4ThickerWallsAndMoreBits(t *testing.T) {
	d := newDice(22)
	for range 200 {
		l, step, wall, k := d.profile(), d.from(1, d.most(1<<24)), d.from(1, d.most(1<<23)), d.from(0, 60)
		i, more := d.from(1, pieces(l)), k+d.from(1, 60)
		thin, _, _ := dent.Strain(l, step, wall, k)
		thick, _, _ := dent.Strain(l, step, wall+d.from(0, d.most(1<<23)), k)
		if thick.Lo().Cmp(thin.Lo()) < 0 || thick.Hi().Cmp(thin.Hi()) < 0 {
			t.Errorf("Strain of %v is %s, with a thicker wall %s", l, thin.Text(), thick.Text())
		}
		finer, _, _ := dent.Strain(l, step, wall, more)
		depth, _, _ := dent.Chord(l, k)
		finerDepth, _, _ := dent.Chord(l, more)
		for _, pair := range [][2]dyad.Span{
			{thin, finer},
			{depth, finerDepth},
			{must[dyad.Span](t)(dent.Curve(l, i, step, k)), must[dyad.Span](t)(dent.Curve(l, i, step, more))},
			{must[dyad.Span](t)(dent.Slopes(l, i, step, k)), must[dyad.Span](t)(dent.Slopes(l, i, step, more))},
		} {
			if !pair[1].In(pair[0]) {
				t.Errorf("of %v with %d bits is %s, with %d bits %s", l, k, pair[0].Text(), more, pair[1].Text())
			}
		}
	}
}

func TestP7_5Chord(t *testing.T) {
	d := newDice(23)
	for range 200 {
		l, k := d.ints(d.from(3, 64), -1<<20, 1<<20), d.from(0, 60)
		tilted := added(l, line(len(l), d.from(-1<<19, 1<<19), d.from(-1<<13, 1<<13)))
		a, i, e := dent.Chord(l, k)
		b, j, f := dent.Chord(tilted, k)
		if a.Lo().Sign() < 0 || a.Text() != b.Text() || i != j || e != api.OK || f != api.OK {
			t.Errorf("Chord of %v is %s at %d, %v, of %v %s at %d, %v", l, a.Text(), i, e, tilted, b.Text(), j, f)
		}
	}
}
