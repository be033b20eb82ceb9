package strength_test

import (
	"slices"
	"testing"

	"wallgauge/api"
	"wallgauge/strength"
)

// profile returns the profile of findings.
func profile(t *testing.T, l ...api.Finding) []strength.Step {
	t.Helper()
	return must[[]strength.Step](t)(strength.Profile(l))
}

func TestP9_1Profile(t *testing.T) {
	for _, c := range []struct {
		l    []api.Finding
		want []strength.Step
	}{
		{[]api.Finding{at(0, 10, 2, 300), at(14, 20, 719, 500)}, []strength.Step{{0, 10, 300}, {10, 14, 0}, {14, 20, 500}}},
		{[]api.Finding{at(14, 20, 719, 500), at(0, 10, 2, 300)}, []strength.Step{{0, 10, 300}, {10, 14, 0}, {14, 20, 500}}},
		{[]api.Finding{at(3, 4, 0, 7)}, []strength.Step{{3, 4, 7}}},
		{[]api.Finding{at(3, 4, 0, 0)}, []strength.Step{{3, 4, 0}}},
		{[]api.Finding{{At: 3, Long: 2, Depth: api.Range{Lo: 5, Hi: 9}}}, []strength.Step{{3, 5, 9}}}, // the greatest depth counts
		{[]api.Finding{at(0, 10, 0, 3), at(10, 20, 0, 3)}, []strength.Step{{0, 10, 3}, {10, 20, 3}}},  // equal neighbours stay apart
		{[]api.Finding{at(0, 10, 0, 3), at(0, 10, 9, 5)}, []strength.Step{{0, 10, 5}}},
		{[]api.Finding{at(0, 10, 0, 5), at(0, 10, 9, 3)}, []strength.Step{{0, 10, 5}}},
		{[]api.Finding{at(0, 10, 0, 3), at(4, 6, 0, 5)}, []strength.Step{{0, 4, 3}, {4, 6, 5}, {6, 10, 3}}},
		{[]api.Finding{at(0, 10, 0, 5), at(4, 6, 0, 3)}, []strength.Step{{0, 4, 5}, {4, 6, 5}, {6, 10, 5}}},
		{[]api.Finding{at(0, 6, 0, 5), at(4, 9, 0, 3)}, []strength.Step{{0, 4, 5}, {4, 6, 5}, {6, 9, 3}}},
		{[]api.Finding{at(0, 6, 0, 5), at(0, 9, 0, 7)}, []strength.Step{{0, 6, 7}, {6, 9, 7}}},
		{[]api.Finding{at(3, 9, 0, 5), at(0, 9, 0, 7)}, []strength.Step{{0, 3, 7}, {3, 9, 7}}},
		{[]api.Finding{at(1<<30, 1<<30+1000000, 0, 1<<20)}, []strength.Step{{1 << 30, 1<<30 + 1000000, 1 << 20}}},
		{[]api.Finding{at(0, 1, 0, 1), at(999999, 1000000, 0, 2)}, []strength.Step{{0, 1, 1}, {1, 999999, 0}, {999999, 1000000, 2}}},
	} {
		if got := profile(t, c.l...); !slices.Equal(got, c.want) {
			t.Errorf("Profile of %+v is %v, want %v", c.l, got, c.want)
		}
	}
}

func TestP9_1ProfileOfMany(t *testing.T) {
	var l []api.Finding
	var want []strength.Step
	for i := range 24 {
		l = append(l, at(100*i, 100*i+30, 0, i+1))
		want = append(want, strength.Step{From: 100 * i, To: 100*i + 30, Depth: i + 1}, strength.Step{From: 100*i + 30, To: 100*i + 100})
	}
	if got := profile(t, l...); !slices.Equal(got, want[:47]) {
		t.Errorf("Profile of 24 findings is %v, want %v", got, want[:47])
	}
}

func TestP9_1ErrorsOfProfile(t *testing.T) {
	check := func(want api.Errno, l ...api.Finding) {
		t.Helper()
		if got, e := strength.Profile(l); len(got) > 0 || e != want {
			t.Errorf("Profile of %+v: %v %v, want %v", l, got, e, want)
		}
	}
	check(api.ErrNone)
	check(api.ErrArg, at(0, 1, 0, 1), at(1000000, 1000001, 0, 1))
	check(api.ErrArg, at(1, 2, 0, 1), at(0, 1, 0, 1), at(2, 1000001, 0, 1))
	check(api.ErrArg, at(1<<30, 1<<30+1, 0, 1), at(0, 1, 0, 1))
	check(api.ErrSize, make([]api.Finding, 25)...)
	for f, want := range invalid() {
		check(want, f)
		check(want, at(0, 1, 0, 1), at(1000000, 1000001, 0, 1), f)
	}
}

// deepest returns how deep the deepest finding is in the middle of the millimetre from a place on, and whether there is one.
func deepest(l []api.Finding, place int) (depth int, is bool) {
	for _, f := range l {
		if 2*f.At < 2*place+1 && 2*place+1 < 2*(f.At+f.Long) {
			depth, is = max(depth, f.Depth.Hi), true
		}
	}
	return depth, is
}

func TestP9_3Profiles(t *testing.T) {
	d := newDice(11)
	for range 500 {
		l := d.findings(d.from(1, 24), 1<<d.from(0, 8))
		steps := profile(t, l...)
		var borders []int
		for _, f := range l {
			borders = append(borders, f.At, f.At+f.Long)
		}
		slices.Sort(borders)
		borders = slices.Compact(borders)
		if len(steps) != len(borders)-1 {
			t.Fatalf("Profile of %+v is %v, with the borders %v", l, steps, borders)
		}
		for i, s := range steps {
			if s.From != borders[i] || s.To != borders[i+1] {
				t.Fatalf("Profile of %+v is %v, with the borders %v", l, steps, borders)
			}
			for place := s.From; place < s.To; place++ {
				if want, _ := deepest(l, place); s.Depth != want {
					t.Fatalf("Profile of %+v has the depth %d at %d, want %d", l, s.Depth, place, want)
				}
			}
		}
		other := slices.Clone(l)
		d.Shuffle(len(other), func(i, j int) { other[i], other[j] = other[j], other[i] })
		if got := profile(t, other...); !slices.Equal(got, steps) {
			t.Fatalf("Profile of %+v is %v, in another order %v", l, steps, got)
		}
	}
}

// depthAt returns how deep a profile is in the middle of the millimetre from a place on.
func depthAt(l []strength.Step, place int) int {
	for _, s := range l {
		if s.From <= place && place < s.To {
			return s.Depth
		}
	}
	return 0
}

func TestP9_3OneMore(t *testing.T) {
	d := newDice(12)
	for range 500 {
		l := d.findings(d.from(2, 24), 1<<d.from(0, 8))
		fewer, more := profile(t, l[1:]...), profile(t, l...)
		for _, s := range fewer {
			for place := s.From; place < s.To; place++ {
				if depthAt(more, place) < s.Depth {
					t.Fatalf("with %+v more the profile of %+v is less deep at %d", l[0], l[1:], place)
				}
			}
		}
	}
}
