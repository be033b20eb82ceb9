package dent_test

import (
	"math"
	"math/big"
	"slices"
	"testing"

	"wallgauge/api"
	"wallgauge/dent"
	"wallgauge/dyad"
)

type vectors = []dent.Vector

// ahead returns n steps of length 2 along the first axis.
func ahead(n int) vectors { return slices.Repeat(vectors{{X: 2}}, n) }

// tie returns a tie.
func tie(step, x, y, z int) dent.Tie { return dent.Tie{Step: step, At: dent.Vector{X: x, Y: y, Z: z}} }

func TestP7_1Line(t *testing.T) {
	for _, c := range []struct{ steps, want vectors }{
		{vectors{{1, 2, 3}}, vectors{{}, {1, 2, 3}}},
		{vectors{{1, 2, 3}, {0, -5, 1}, {}}, vectors{{}, {1, 2, 3}, {1, -3, 4}, {1, -3, 4}}},
	} {
		if got := must[vectors](t)(dent.Line(c.steps)); !slices.Equal(got, c.want) {
			t.Errorf("Line of %v is %v, want %v", c.steps, got, c.want)
		}
	}
	d := newDice(31)
	steps := d.steps(64)
	places := must[vectors](t)(dent.Line(steps))
	if len(places) != 65 || places[0] != (dent.Vector{}) {
		t.Errorf("Line of 64 steps: %v", places)
	}
	for i, step := range steps {
		if minus(places[i+1], places[i]) != step {
			t.Errorf("step %d of %v leads from %v to %v", i, step, places[i], places[i+1])
		}
	}
}

func TestP7_1Miss(t *testing.T) {
	got := must[vectors](t)(dent.Miss(ahead(2), []dent.Tie{tie(2, 4, 2, 0)}))
	if !slices.Equal(got, vectors{{0, 2, 0}}) {
		t.Errorf("Miss %v", got)
	}
	got = must[vectors](t)(dent.Miss(vectors{{1, 2, 3}, {0, -5, 1}, {}}, []dent.Tie{tie(1, 0, 0, 0), tie(3, 1<<30, -1<<30, 7)}))
	if !slices.Equal(got, vectors{{-1, -2, -3}, {1<<30 - 1, -1<<30 + 3, 3}}) {
		t.Errorf("Miss %v", got)
	}
	d := newDice(32)
	for range 100 {
		steps := d.steps(d.from(1, 64))
		ties := d.ties(steps, 3000)
		line, misses := must[vectors](t)(dent.Line(steps)), must[vectors](t)(dent.Miss(steps, ties))
		if len(misses) != len(ties) {
			t.Errorf("%d ties have %d misses", len(ties), len(misses))
		}
		for i, tie := range ties {
			if plus(line[tie.Step], misses[i]) != tie.At {
				t.Errorf("the tie %v is missed by %v from %v", tie, misses[i], line[tie.Step])
			}
		}
	}
}

func TestP7_1Drift(t *testing.T) {
	for _, c := range []struct {
		steps vectors
		ties  []dent.Tie
		want  dent.Place
	}{
		{ahead(2), []dent.Tie{tie(2, 4, 2, 0)}, dent.Place{Y: 1, Under: 1}},
		{ahead(2), []dent.Tie{tie(2, 4, 0, 0)}, dent.Place{Under: 1}},
		{ahead(2), []dent.Tie{tie(2, 4, 1, -3)}, dent.Place{Y: 1, Z: -3, Under: 2}},
		{ahead(2), []dent.Tie{tie(1, 2, 1, 0), tie(2, 4, 2, 5)}, dent.Place{Y: 1, Z: 2, Under: 1}},
		{ahead(3), []dent.Tie{tie(1, 3, 2, 0), tie(3, 6, 4, 5)}, dent.Place{X: 1, Y: 14, Z: 15, Under: 10}},
		{ahead(64), []dent.Tie{tie(64, 1<<30, -1<<30, 0)}, dent.Place{X: 1<<24 - 2, Y: -1 << 24, Under: 1}},
	} {
		got, e := dent.Drift(c.steps, c.ties)
		if e != api.OK || got != c.want {
			t.Errorf("Drift of %v with %v is %v, %v, want %v", c.steps, c.ties, got, e, c.want)
		}
	}
	d := newDice(33)
	for range 100 {
		steps := d.steps(d.from(1, 64))
		ties := d.ties(steps, d.most(100000))
		misses := must[vectors](t)(dent.Miss(steps, ties))
		var total dent.Vector
		squares := 0
		for i, tie := range ties {
			total = plus(total, times(tie.Step, misses[i]))
			squares += tie.Step * tie.Step
		}
		want := [3]*big.Rat{frac(total.X, squares), frac(total.Y, squares), frac(total.Z, squares)}
		if got, e := dent.Drift(steps, ties); e != api.OK || !samePlace(got, want) {
			t.Errorf("Drift of %v with %v is %v, %v, want %v", steps, ties, got, e, want)
		}
	}
}

func TestP7_1Closed(t *testing.T) {
	for _, c := range []struct {
		steps vectors
		ties  []dent.Tie
		want  []dent.Place
	}{
		{ahead(2), []dent.Tie{tie(2, 4, 2, 0)}, []dent.Place{{0, 0, 0, 1}, {2, 1, 0, 1}, {4, 2, 0, 1}}},
		{ahead(2), []dent.Tie{tie(2, 4, 1, 0)}, []dent.Place{{0, 0, 0, 1}, {4, 1, 0, 2}, {4, 1, 0, 1}}},
		// Behind the last tie all places are moved as this is.
		{ahead(4), []dent.Tie{tie(2, 4, 0, -3)}, []dent.Place{{0, 0, 0, 1}, {4, 0, -3, 2}, {4, 0, -3, 1}, {6, 0, -3, 1}, {8, 0, -3, 1}}},
		{ahead(4), []dent.Tie{tie(1, 3, 0, 0), tie(4, 8, 0, 1)}, []dent.Place{{0, 0, 0, 1}, {3, 0, 0, 1}, {14, 0, 1, 3}, {19, 0, 2, 3}, {8, 0, 1, 1}}},
		{ahead(1), []dent.Tie{tie(1, 2, 0, 0)}, []dent.Place{{0, 0, 0, 1}, {2, 0, 0, 1}}},
	} {
		got, e := dent.Closed(c.steps, c.ties)
		if e != api.OK || !slices.Equal(got, c.want) {
			t.Errorf("Closed of %v with %v is %v, %v, want %v", c.steps, c.ties, got, e, c.want)
		}
	}
	d := newDice(34)
	for range 100 {
		steps := d.steps(d.from(1, 64))
		ties := d.ties(steps, d.most(1<<10))
		line := must[vectors](t)(dent.Line(steps))
		closed := must[[]dent.Place](t)(dent.Closed(steps, ties))
		if len(closed) != len(line) {
			t.Fatalf("%d places became %d", len(line), len(closed))
		}
		for n, at := range line {
			if want := corrected(at, n, line, ties); !samePlace(closed[n], want) {
				t.Errorf("behind %d steps %v is moved to %v, want %v", n, at, closed[n], want)
			}
		}
	}
}

// corrected returns where the place behind n steps is moved to.
func corrected(at dent.Vector, n int, line vectors, ties []dent.Tie) [3]*big.Rat {
	var ahead, next *dent.Tie
	for _, known := range append([]dent.Tie{{}}, ties...) {
		if known.Step <= n {
			ahead = &known
		}
		if known.Step >= n && next == nil {
			next = &known
		}
	}
	from := minus(ahead.At, line[ahead.Step])
	to, part := from, new(big.Rat)
	if next != nil && next.Step > ahead.Step {
		to, part = minus(next.At, line[next.Step]), frac(n-ahead.Step, next.Step-ahead.Step)
	}
	var out [3]*big.Rat
	for i := range out {
		more := product(part, frac(parts(to)[i]-parts(from)[i], 1))
		out[i] = sum(frac(parts(at)[i]+parts(from)[i], 1), more)
	}
	return out
}

// ofLine returns the errors of all functions of a line and its ties, and fails the test if there is no zero value with an error.
func ofLine(t *testing.T, steps vectors, ties []dent.Tie) [4]api.Errno {
	t.Helper()
	line, a := dent.Line(steps)
	misses, b := dent.Miss(steps, ties)
	drift, c := dent.Drift(steps, ties)
	closed, d := dent.Closed(steps, ties)
	if a != api.OK && len(line) > 0 || b != api.OK && len(misses) > 0 || c != api.OK && drift != (dent.Place{}) || d != api.OK && len(closed) > 0 {
		t.Errorf("of %v with %v there is a value with an error", steps, ties)
	}
	return [4]api.Errno{a, b, c, d}
}

func TestP7_1ErrorsOfSteps(t *testing.T) {
	all := func(e api.Errno) [4]api.Errno { return [4]api.Errno{e, e, e, e} }
	for n := range 70 {
		want := all(api.ErrSize)
		if n >= 1 && n <= 64 {
			want = all(api.OK)
		}
		if got := ofLine(t, make(vectors, n), []dent.Tie{tie(1, 0, 0, 0)}); got != want {
			t.Errorf("errors of %d steps %v, want %v", n, got, want)
		}
	}
	for at := range 3 {
		for _, axis := range axes() {
			if got := ofLine(t, with(3, dent.Vector{}, at, times(1<<20, axis)), []dent.Tie{tie(1, 0, 0, 0)}); got[0] != api.OK || got[1] != api.OK {
				t.Errorf("errors of a step 2^20 %v: %v", axis, got)
			}
			if got := ofLine(t, with(3, dent.Vector{}, at, times(1<<20+1, axis)), []dent.Tie{tie(1, 0, 0, 0)}); got != all(api.ErrArg) {
				t.Errorf("errors of a step (2^20 + 1) %v: %v", axis, got)
			}
		}
		for _, bad := range []dent.Vector{{X: math.MinInt}, {Y: math.MinInt}, {Z: math.MinInt}, {X: math.MaxInt}, {Y: math.MaxInt}, {Z: math.MaxInt}} {
			if got := ofLine(t, with(3, dent.Vector{}, at, bad), []dent.Tie{tie(1, 0, 0, 0)}); got != all(api.ErrArg) {
				t.Errorf("errors of a step %v: %v", bad, got)
			}
		}
	}
	// The errors of the steps come ahead of those of the ties, and a wrong number of steps comes first.
	if got := ofLine(t, with(65, dent.Vector{}, 0, dent.Vector{X: 1 << 21}), nil); got != all(api.ErrSize) {
		t.Errorf("errors of 65 steps without ties: %v", got)
	}
	if got := ofLine(t, vectors{{X: 1 << 21}}, nil); got != all(api.ErrArg) {
		t.Errorf("errors of a long step without ties: %v", got)
	}
}

func TestP7_1ErrorsOfTies(t *testing.T) {
	ofTies := func(ties []dent.Tie, want api.Errno) {
		t.Helper()
		if got := ofLine(t, make(vectors, 9), ties); got != [4]api.Errno{api.OK, want, want, want} {
			t.Errorf("errors of the ties %v: %v, want %v", ties, got, want)
		}
	}
	var ties []dent.Tie
	ofTies(ties, api.ErrSize)
	for n := 1; n <= 9; n++ {
		ties = append(ties, tie(n, 0, 0, 0))
		if n <= 8 {
			ofTies(ties, api.OK)
		}
	}
	ofTies(ties, api.ErrSize)
	ofTies(with(9, tie(1, 0, 0, 0), 0, tie(0, 0, 0, 0)), api.ErrSize) // ahead of the errors of the ties
	for _, bad := range []int{0, -1, 10, math.MinInt, math.MaxInt} {
		ofTies([]dent.Tie{tie(bad, 0, 0, 0)}, api.ErrArg)
		ofTies([]dent.Tie{tie(5, 0, 0, 0), tie(bad, 0, 0, 0)}, api.ErrArg)
	}
	for _, bad := range []int{0, 1<<30 + 1, -1<<30 - 1, math.MinInt, math.MaxInt} {
		want := api.ErrArg
		if bad == 0 {
			want = api.OK
		}
		ofTies([]dent.Tie{tie(1, bad, 0, 0)}, want)
		ofTies([]dent.Tie{tie(1, 0, bad, 0)}, want)
		ofTies([]dent.Tie{tie(1, 0, 0, 0), tie(2, 0, 0, bad)}, want)
	}
	ofTies([]dent.Tie{tie(3, 0, 0, 0), tie(3, 0, 0, 0)}, api.ErrOrder)
	ofTies([]dent.Tie{tie(3, 0, 0, 0), tie(2, 0, 0, 0)}, api.ErrOrder)
	ofTies([]dent.Tie{tie(1, 0, 0, 0), tie(9, 0, 0, 0), tie(8, 0, 0, 0)}, api.ErrOrder)
	// Tie by tie, and of a tie ErrArg comes first.
	ofTies([]dent.Tie{tie(3, 0, 0, 0), tie(2, 1<<31, 0, 0)}, api.ErrArg)
	ofTies([]dent.Tie{tie(3, 0, 0, 0), tie(2, 0, 0, 0), tie(0, 0, 0, 0)}, api.ErrOrder)
	ofTies([]dent.Tie{tie(3, 0, 0, 0), tie(0, 0, 0, 0), tie(2, 0, 0, 0)}, api.ErrArg)
	// The errors of the ties come ahead of ErrClosed.
	ofTies([]dent.Tie{tie(3, 1<<20, 0, 0), tie(3, 0, 0, 0)}, api.ErrOrder)
	for _, axis := range axes() {
		if _, e := dent.Miss(ahead(1), []dent.Tie{{Step: 1, At: times(1<<30, axis)}}); e != api.OK {
			t.Errorf("Miss of a tie 2^30 %v: %v", axis, e)
		}
	}
}

func TestP7_1ErrClosed(t *testing.T) {
	for _, axis := range axes() {
		for _, c := range []struct {
			first, second int // the misses
			want          api.Errno
		}{
			{2048, 2048, api.OK},
			{2049, 2049, api.ErrClosed},
			{0, 3072, api.OK},
			{0, 3073, api.ErrClosed},
			{2048, 5120, api.OK}, // what both miss counts, not what one does
			{2048, 5121, api.ErrClosed},
			{2048, -1024, api.OK},
			{2048, -1025, api.ErrClosed},
			{2049, 0, api.ErrClosed},
		} {
			first, second := plus(dent.Vector{X: 4}, times(c.first, axis)), plus(dent.Vector{X: 10}, times(c.second, axis))
			got := ofLine(t, ahead(9), []dent.Tie{{Step: 2, At: first}, {Step: 5, At: second}})
			if got != [4]api.Errno{3: c.want} {
				t.Errorf("misses of %d and %d along %v: %v, want %v", c.first, c.second, axis, got, c.want)
			}
		}
	}
	// The components count, not the length.
	if got := ofLine(t, make(vectors, 1), []dent.Tie{tie(1, 1024, -1024, 1024)}); got != [4]api.Errno{} {
		t.Errorf("misses of 1024 along all axes: %v", got)
	}
}

func TestP7_6ClosedGoesThroughTies(t *testing.T) {
	d := newDice(35)
	for range 100 {
		steps := d.steps(d.from(1, 64))
		ties := d.ties(steps, 1<<10)
		closed := must[[]dent.Place](t)(dent.Closed(steps, ties))
		if closed[0] != (dent.Place{Under: 1}) {
			t.Errorf("the line begins at %v", closed[0])
		}
		// What is added to a step changes behind a tie only; behind the last one nothing is added.
		next := 0
		var added [3]*big.Rat
		for n, step := range steps {
			from, to := coordinates(closed[n]), coordinates(closed[n+1])
			var more [3]*big.Rat
			for i, x := range parts(step) {
				more[i] = sum(to[i], new(big.Rat).Neg(from[i]), frac(-x, 1))
				switch {
				case next == len(ties) && more[i].Sign() != 0:
					t.Errorf("behind the last tie %v is added to a step", more[i])
				case added[i] != nil && added[i].Cmp(more[i]) != 0:
					t.Errorf("between two ties %v is added, then %v", added[i], more[i])
				}
			}
			added = more
			if next < len(ties) && ties[next].Step == n+1 {
				at := ties[next].At
				if closed[n+1] != (dent.Place{X: at.X, Y: at.Y, Z: at.Z, Under: 1}) {
					t.Errorf("the line goes through %v instead of %v", closed[n+1], at)
				}
				next++
				added = [3]*big.Rat{}
			}
		}
	}
}

func TestP7_6TiesOnTheLine(t *testing.T) {
	d := newDice(36)
	for range 100 {
		steps := d.steps(d.from(1, 64))
		ties := d.ties(steps, 0)
		line := must[vectors](t)(dent.Line(steps))
		for n, p := range must[[]dent.Place](t)(dent.Closed(steps, ties)) {
			if p != (dent.Place{X: line[n].X, Y: line[n].Y, Z: line[n].Z, Under: 1}) {
				t.Errorf("ties on the line move %v to %v", line[n], p)
			}
		}
		if drift, e := dent.Drift(steps, ties); e != api.OK || drift != (dent.Place{Under: 1}) {
			t.Errorf("ties on the line have the drift %v, %v", drift, e)
		}
	}
}

func TestP7_6DriftLeavesNothing(t *testing.T) {
	d := newDice(37)
	for range 100 {
		steps := d.steps(d.from(1, 64))
		ties := d.ties(steps, d.most(1<<12))
		misses := must[vectors](t)(dent.Miss(steps, ties))
		drift, e := dent.Drift(steps, ties)
		if e != api.OK {
			t.Fatalf("error %v", e)
		}
		for i, x := range coordinates(drift) {
			left := new(big.Rat)
			for j, tie := range ties {
				rest := sum(frac(parts(misses[j])[i], 1), product(frac(-tie.Step, 1), x))
				left = sum(left, product(frac(tie.Step, 1), rest))
			}
			if left.Sign() != 0 {
				t.Errorf("the drift %v leaves %v", drift, left)
			}
		}
		other := dent.Place{X: drift.X + d.from(-9, 9), Y: drift.Y + d.from(-9, 9), Z: drift.Z + d.from(-9, 9), Under: drift.Under}
		if unexplained(ties, misses, other).Cmp(unexplained(ties, misses, drift)) < 0 {
			t.Errorf("the drift %v is better than %v", other, drift)
		}
	}
}

// unexplained returns the sum of the squares of what a drift leaves of the misses.
func unexplained(ties []dent.Tie, misses vectors, drift dent.Place) *big.Rat {
	total := new(big.Rat)
	for i, tie := range ties {
		for j, x := range coordinates(drift) {
			rest := sum(frac(parts(misses[i])[j], 1), product(frac(-tie.Step, 1), x))
			total = sum(total, product(rest, rest))
		}
	}
	return total
}

// sine returns the square of the sine of the angle between two vectors that have a length, by their cosine.
func sine(a, b dent.Vector) *big.Rat {
	cosine := quotient(product(dot(a, b), dot(a, b)), product(dot(a, a), dot(b, b)))
	return sum(frac(1, 1), new(big.Rat).Neg(cosine))
}

func TestP7_1Turn(t *testing.T) {
	for _, c := range []struct {
		a, b dent.Vector
		want string
	}{
		{dent.Vector{X: 1}, dent.Vector{X: 1, Y: 1}, "[1/2,1/2]"},
		{dent.Vector{X: 1}, dent.Vector{Y: 1}, "[1,1]"},
		{dent.Vector{X: 1, Y: 2, Z: 3}, dent.Vector{X: -2, Y: -4, Z: -6}, "[0,0]"},
		{dent.Vector{X: 1, Y: 1, Z: 1}, dent.Vector{Z: 5}, "[5/8,3/4]"}, // 2/3
		{dent.Vector{X: 1 << 20, Y: 1}, dent.Vector{X: 1 << 20}, "[0,1/8]"},
		{dent.Vector{X: 1 << 20, Y: 1 << 20, Z: -1 << 20}, dent.Vector{X: -1 << 20, Y: 1 << 20, Z: -1 << 20}, "[7/8,1]"}, // 8/9
	} {
		if got := must[dyad.Span](t)(dent.Turn(c.a, c.b, 3)); got.Text() != c.want {
			t.Errorf("Turn of %v and %v is %s, want %s", c.a, c.b, got.Text(), c.want)
		}
	}
	d := newDice(38)
	for range 300 {
		a, b, k := d.vector(d.most(1<<20)), d.vector(d.most(1<<20)), d.from(0, 60)
		if dot(a, a).Sign() == 0 || dot(b, b).Sign() == 0 {
			continue
		}
		if got := must[dyad.Span](t)(dent.Turn(a, b, k)); !around(got, sine(a, b), k) {
			t.Errorf("Turn of %v and %v with %d bits is %s, want %v", a, b, k, got.Text(), sine(a, b))
		}
	}
	checkBits(t, "Turn", func(k int) (dyad.Span, api.Errno) {
		return dent.Turn(dent.Vector{X: 1, Y: 1, Z: 1}, dent.Vector{Z: 5}, k)
	})
}

func TestP7_1Bent(t *testing.T) {
	// (8/(2 2))^2/2
	if got := must[dyad.Span](t)(dent.Bent(dent.Vector{X: 1}, dent.Vector{X: 1, Y: 1}, 8, 2, 5)); got.Text() != "[2,2]" {
		t.Errorf("Bent %s", got.Text())
	}
	d := newDice(39)
	for range 300 {
		a, b, k := d.vector(d.most(1<<20)), d.vector(d.most(1<<20)), d.from(0, 60)
		outer, step := d.from(1, d.most(1<<24)), d.from(1, d.most(1<<24))
		if dot(a, a).Sign() == 0 || dot(b, b).Sign() == 0 {
			continue
		}
		want := product(frac(outer, 2*step), frac(outer, 2*step), sine(a, b))
		if got := must[dyad.Span](t)(dent.Bent(a, b, outer, step, k)); !around(got, want, k) {
			t.Errorf("Bent of %v and %v, %d and %d with %d bits is %s, want %v", a, b, outer, step, k, got.Text(), want)
		}
	}
	checkBits(t, "Bent", func(k int) (dyad.Span, api.Errno) {
		return dent.Bent(dent.Vector{X: 1, Y: 1, Z: 1}, dent.Vector{Z: 5}, 7, 3, k)
	})
}

func TestP7_1ErrorsOfTurns(t *testing.T) {
	check := func(a, b dent.Vector, outer, step int, turn, bent api.Errno) {
		t.Helper()
		x, e := dent.Turn(a, b, 3)
		y, f := dent.Bent(a, b, outer, step, 3)
		if e != turn || f != bent || e != api.OK && x.Text() != "[0,0]" || f != api.OK && y.Text() != "[0,0]" {
			t.Errorf("of %v, %v, %d and %d: %s %v and %s %v, want %v and %v", a, b, outer, step, x.Text(), e, y.Text(), f, turn, bent)
		}
	}
	one, none := dent.Vector{X: 1}, dent.Vector{}
	check(one, one, 1, 1, api.OK, api.OK)
	check(one, one, 1<<24, 1<<24, api.OK, api.OK)
	for _, axis := range axes() {
		check(times(1<<20, axis), one, 1, 1, api.OK, api.OK)
		check(one, times(1<<20, axis), 1, 1, api.OK, api.OK)
		check(times(1<<20+1, axis), one, 1, 1, api.ErrArg, api.ErrArg)
		check(one, times(1<<20+1, axis), 1, 1, api.ErrArg, api.ErrArg)
		// ErrArg comes ahead of ErrZero.
		check(none, times(1<<20+1, axis), 1, 1, api.ErrArg, api.ErrArg)
		check(times(1<<20+1, axis), none, 1, 1, api.ErrArg, api.ErrArg)
	}
	for _, bad := range []int{0, -1, 1<<24 + 1, math.MinInt, math.MaxInt} {
		check(one, one, bad, 1, api.OK, api.ErrArg)
		check(one, one, 1, bad, api.OK, api.ErrArg)
		check(none, one, bad, 1, api.ErrZero, api.ErrArg)
		check(one, none, 1, bad, api.ErrZero, api.ErrArg)
	}
	check(none, one, 1, 1, api.ErrZero, api.ErrZero)
	check(one, none, 1, 1, api.ErrZero, api.ErrZero)
	check(none, none, 1, 1, api.ErrZero, api.ErrZero)
	for _, bad := range []int{math.MinInt, math.MaxInt} {
		check(dent.Vector{Y: bad}, one, 1, 1, api.ErrArg, api.ErrArg)
		check(one, dent.Vector{X: bad, Y: bad, Z: bad}, 1, 1, api.ErrArg, api.ErrArg)
	}
}

func TestP7_7Turn(t *testing.T) {
	d := newDice(40)
	for range 300 {
		a, b, k := d.vector(d.most(1<<10)), d.vector(d.most(1<<10)), d.from(0, 60)
		if d.IntN(4) == 0 {
			b = times(d.from(-9, 9), a)
		}
		if a == (dent.Vector{}) || b == (dent.Vector{}) {
			continue
		}
		got := must[dyad.Span](t)(dent.Turn(a, b, k))
		mirrored := must[dyad.Span](t)(dent.Turn(b, a, k))
		longer := must[dyad.Span](t)(dent.Turn(times(d.from(1, 1<<6), a), times(d.from(1, 1<<6), b), k))
		if got.Text() != mirrored.Text() || got.Text() != longer.Text() {
			t.Errorf("Turn of %v and %v is %s, in the other order %s, of longer steps %s", a, b, got.Text(), mirrored.Text(), longer.Text())
		}
		onLine := true
		for i, x := range parts(a) {
			for j, y := range parts(a) {
				onLine = onLine && x*parts(b)[j] == y*parts(b)[i]
			}
		}
		if got.Hi().Zero() != onLine || got.Lo().Sign() < 0 || got.Hi().Cmp(num("1")) > 0 {
			t.Errorf("Turn of %v and %v is %s", a, b, got.Text())
		}
	}
}

func TestP7_7Bent(t *testing.T) {
	d := newDice(41)
	for range 300 {
		a, b, k := d.vector(d.most(1<<10)), d.vector(d.most(1<<10)), d.from(2, 60)
		outer, step := d.from(1, d.most(1<<24)), d.from(1, d.most(1<<23))
		if a == (dent.Vector{}) || b == (dent.Vector{}) {
			continue
		}
		// Four times a multiple of 2^-k is a multiple of 2^-(k - 2).
		half := must[dyad.Span](t)(dent.Bent(a, b, outer, step, k-2))
		whole := must[dyad.Span](t)(dent.Bent(a, b, outer, 2*step, k))
		if four := whole.Mul(dyad.Only(num("4"))); four.Text() != half.Text() {
			t.Errorf("Bent of %v and %v, %d and %d is %s, of twice the step %s", a, b, outer, step, half.Text(), whole.Text())
		}
		straight := must[dyad.Span](t)(dent.Bent(a, times(d.from(1, 9), a), outer, step, k))
		if straight.Text() != "[0,0]" {
			t.Errorf("a straight line has the strain %s", straight.Text())
		}
	}
}
