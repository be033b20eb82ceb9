package growth_test

import (
	"math"
	"testing"

	"wallgauge/api"
	"wallgauge/growth"
)

func TestP8_1Check(t *testing.T) {
	if e := growth.Check(nil); e != api.OK {
		t.Errorf("no findings: %v", e)
	}
	if e := growth.Check(limits()); e != api.OK {
		t.Errorf("findings at their limits: %v", e)
	}
	for f, want := range invalid() {
		if e := growth.Check([]api.Finding{f}); e != want {
			t.Errorf("%+v: %v, want %v", f, e, want)
		}
		for n := range 24 {
			if e := growth.Check(with(24, api.Finding{}, n, f)); e != want {
				t.Errorf("%+v at %d: %v, want %v", f, n, e, want)
			}
		}
		if e := growth.Check(with(25, api.Finding{}, 3, f)); e != api.ErrSize {
			t.Errorf("%+v among 25: %v", f, e)
		}
	}
	if e := growth.Check(make([]api.Finding, 24)); e != api.OK {
		t.Errorf("24 findings: %v", e)
	}
	if e := growth.Check(make([]api.Finding, 25)); e != api.ErrSize {
		t.Errorf("25 findings: %v", e)
	}
	// The first finding with an error decides.
	if e := growth.Check([]api.Finding{{}, deep(2, 1), {At: -1}}); e != api.ErrOrder {
		t.Errorf("ErrOrder ahead of ErrArg: %v", e)
	}
	if e := growth.Check([]api.Finding{{}, {At: -1}, deep(2, 1)}); e != api.ErrArg {
		t.Errorf("ErrArg ahead of ErrOrder: %v", e)
	}
}

func TestP8_1Around(t *testing.T) {
	for _, c := range [][3]int{{10, 710, 20}, {0, 0, 0}, {0, 360, 360}, {0, 361, 359}, {719, 0, 1}, {100, 460, 360}, {100, 461, 359}, {300, 200, 100}} {
		if got := must[int](t)(growth.Around(c[0], c[1])); got != c[2] {
			t.Errorf("Around %d and %d is %d, want %d", c[0], c[1], got, c[2])
		}
	}
	for a := range 720 {
		for b := range 720 {
			// So many minutes on one of both is at the other one, and not more than half the turn.
			got := must[int](t)(growth.Around(a, b))
			if got < 0 || got > 360 || (a+got)%720 != b && (b+got)%720 != a {
				t.Fatalf("Around %d and %d is %d", a, b, got)
			}
		}
	}
	for _, bad := range []int{-1, 720, math.MinInt, math.MaxInt} {
		for _, c := range [][2]int{{bad, 0}, {0, bad}, {bad, 719}, {bad, bad}} {
			if got, e := growth.Around(c[0], c[1]); got != 0 || e != api.ErrArg {
				t.Errorf("Around %d and %d: %d %v", c[0], c[1], got, e)
			}
		}
	}
}

func TestP8_3Distances(t *testing.T) {
	var far [720][720]int
	for a := range far {
		for b := range far {
			far[a][b] = must[int](t)(growth.Around(a, b))
		}
	}
	for a := range far {
		for b := range far {
			if far[a][b] != far[b][a] || (far[a][b] == 0) != (a == b) || far[a][b] > 360 {
				t.Fatalf("Around %d and %d is %d, the other way %d", a, b, far[a][b], far[b][a])
			}
		}
	}
	for a := 0; a < 720; a += 7 {
		for b := range far {
			for c := range far {
				if far[a][c] > far[a][b]+far[b][c] {
					t.Fatalf("from %d to %d it is %d, by way of %d only %d", a, c, far[a][c], b, far[a][b]+far[b][c])
				}
			}
		}
	}
}

// ownCost returns what a pair costs, and whether both belong together.
func ownCost(a, b api.Finding, r growth.Rule) (int, bool) {
	along := max(a.At-b.At, b.At-a.At)
	around := 720
	for _, turn := range []int{-720, 0, 720} {
		around = min(around, max(a.Clock+turn-b.Clock, b.Clock-a.Clock-turn))
	}
	return along + r.Step*around, along <= r.Far && around <= r.Turn
}

func TestP8_1Cost(t *testing.T) {
	for _, c := range []struct {
		a, b api.Finding
		r    growth.Rule
		want int
	}{
		{at(1000, 0), at(1010, 0), growth.Rule{Far: 100, Turn: 60, Step: 1, Alone: 50}, 10},
		{at(1000, 0), at(1010, 30), growth.Rule{Far: 100, Turn: 60, Step: 1, Alone: 50}, 40},
		{at(7, 700), at(4, 20), growth.Rule{Far: 3, Turn: 40, Step: 5}, 203},
		{at(7, 700), at(4, 20), growth.Rule{Far: 3, Turn: 40}, 3},
		{at(5, 5), at(5, 5), growth.Rule{}, 0},
		{at(0, 0), at(1<<20, 360), growth.Rule{Far: 1 << 20, Turn: 360, Step: 1 << 10}, 1<<20 + 360<<10},
		{at(1<<30, 719), at(1<<30-1<<20, 359), growth.Rule{Far: 1 << 20, Turn: 360, Step: 1 << 10, Alone: 1 << 20}, 1<<20 + 360<<10},
	} {
		if got := must[int](t)(growth.Cost(c.a, c.b, c.r)); got != c.want {
			t.Errorf("Cost of %+v and %+v with %+v is %d, want %d", c.a, c.b, c.r, got, c.want)
		}
	}
	d := newDice(1)
	for range 3000 {
		far := 1 << d.from(0, 20)
		a, b := d.runs(1, 1, far)
		r := d.rule(far)
		want, fits := ownCost(a[0], b[0], r)
		if got, e := growth.Cost(a[0], b[0], r); fits && (got != want || e != api.OK) || !fits && (got != 0 || e != api.ErrNone) {
			t.Errorf("Cost of %+v and %+v with %+v: %d %v, want %d, if they belong together: %v", a[0], b[0], r, got, e, want, fits)
		}
	}
}

func TestP8_1ErrorsOfCost(t *testing.T) {
	check := func(a, b api.Finding, r growth.Rule, want api.Errno) {
		t.Helper()
		if got, e := growth.Cost(a, b, r); got != 0 || e != want {
			t.Errorf("Cost of %+v and %+v with %+v: %d %v, want %v", a, b, r, got, e, want)
		}
	}
	check(at(0, 0), at(4, 0), growth.Rule{Far: 3, Turn: 360}, api.ErrNone)
	check(at(4, 0), at(0, 0), growth.Rule{Far: 3, Turn: 360}, api.ErrNone)
	check(at(0, 700), at(0, 11), growth.Rule{Far: 3, Turn: 30}, api.ErrNone)
	check(at(0, 0), at(1<<30, 0), growth.Rule{Far: 1 << 20, Turn: 360}, api.ErrNone)
	for _, bad := range badRules() {
		check(api.Finding{}, api.Finding{}, bad, api.ErrArg)
		check(deep(2, 1), deep(2, 1), bad, api.ErrArg)
	}
	for f, want := range invalid() {
		check(f, at(9, 0), growth.Rule{}, want)
		check(at(9, 0), f, growth.Rule{}, want)
		check(f, at(0, -1), growth.Rule{}, want)
		check(f, deep(2, 1), growth.Rule{}, want)
	}
	for _, good := range []growth.Rule{{}, {Far: 1 << 20}, {Turn: 360}, {Step: 1 << 10}, {Alone: 1 << 20}} {
		check(api.Finding{}, api.Finding{}, good, api.OK)
	}
	for _, f := range limits() {
		check(f, f, growth.Rule{Step: 1 << 10}, api.OK)
	}
}
