package service_test

import (
	"math"
	"slices"
	"testing"

	"wallgauge/api"
	"wallgauge/service"
)

// seen returns a finding at a place and a clock position.
func seen(at, clock int) api.Finding { return api.Finding{At: at, Clock: clock} }

// apart returns the distance of two findings.
func apart(a, b api.Finding) int {
	along, around := a.At-b.At, (a.Clock-b.Clock+720)%720
	if along < 0 {
		along = -along
	}
	if around > 360 {
		around = 720 - around
	}
	return along + around
}

// wantPairs returns the pairs of two lists, by what is said of each pair.
func wantPairs(a, b []api.Finding, near int) [][2]int {
	var out [][2]int
	for i := range a {
		for k := range b {
			far := apart(a[i], b[k])
			ok := far <= near
			for m := range b {
				other := apart(a[i], b[m])
				ok = ok && (other > far || other == far && m >= k)
			}
			for m := range a {
				other := apart(a[m], b[k])
				ok = ok && (other > far || other == far && m >= i)
			}
			if ok {
				out = append(out, [2]int{i, k})
			}
		}
	}
	return out
}

// seen returns findings on a stretch.
func (d dice) seen(start, stretch int) []api.Finding {
	turns := d.from(1, 720)
	l := make([]api.Finding, d.from(0, 24))
	for i := range l {
		l[i] = api.Finding{At: start + d.from(0, stretch), Clock: (d.IntN(turns) + 700) % 720, Long: d.from(-9, 9), Depth: api.Range{Lo: 9}}
	}
	return l
}

// lists calls a test with two lists, many times.
func lists(seed uint64, test func(d dice, a, b []api.Finding, near int)) {
	d := newDice(seed)
	for range 2000 {
		stretch := 1 << d.from(0, 12)
		start := d.from(0, 1<<30-stretch)
		test(d, d.seen(start, stretch), d.seen(start, stretch), d.from(0, stretch/4+200))
	}
}

func TestP10_1Reconcile(t *testing.T) {
	count := 0
	lists(11, func(_ dice, a, b []api.Finding, near int) {
		got, want := must[[][2]int](t)(service.Reconcile(a, b, near)), wantPairs(a, b, near)
		if !slices.Equal(got, want) {
			t.Errorf("%v and %v, near %d: %v, not %v", a, b, near, got, want)
		}
		count += len(got)
	})
	if count < 2000 {
		t.Errorf("there are only %d pairs", count)
	}
}

func TestP10_1ReconcileExamples(t *testing.T) {
	for _, c := range []struct {
		a, b []api.Finding
		near int
		want [][2]int
	}{
		{nil, nil, 0, nil},
		{[]api.Finding{seen(5, 5)}, nil, 9, nil},
		{nil, []api.Finding{seen(5, 5)}, 9, nil},
		{[]api.Finding{seen(5, 5)}, []api.Finding{seen(5, 5)}, 0, [][2]int{{0, 0}}},
		{[]api.Finding{seen(5, 5)}, []api.Finding{seen(7, 719)}, 8, [][2]int{{0, 0}}},
		{[]api.Finding{seen(5, 5)}, []api.Finding{seen(7, 719)}, 7, nil},
		{[]api.Finding{seen(0, 0)}, []api.Finding{seen(1<<30, 360)}, 1<<30 + 360, [][2]int{{0, 0}}},
		{[]api.Finding{seen(0, 0)}, []api.Finding{seen(1<<30, 360)}, 1<<30 + 359, nil},
		{[]api.Finding{seen(0, 0)}, []api.Finding{seen(1<<30, 360)}, math.MaxInt, [][2]int{{0, 0}}},
		{[]api.Finding{seen(0, 0), seen(0, 0)}, []api.Finding{seen(0, 0), seen(0, 0)}, 9, [][2]int{{0, 0}}},                 // equal ones: the first
		{[]api.Finding{seen(10, 0), seen(14, 0)}, []api.Finding{seen(13, 0)}, 9, [][2]int{{1, 0}}},                          // the first one's nearest has a nearer one
		{[]api.Finding{seen(10, 0), seen(90, 0)}, []api.Finding{seen(91, 0), seen(11, 0)}, 9, [][2]int{{0, 1}, {1, 0}}},     // by i
		{[]api.Finding{seen(10, 0)}, []api.Finding{seen(10, 3), seen(12, 0), seen(13, 0), seen(8, 0)}, 9, [][2]int{{0, 1}}}, // along and around together
	} {
		if got, e := service.Reconcile(c.a, c.b, c.near); !slices.Equal(got, c.want) || e != api.OK {
			t.Errorf("%v and %v, near %d: %v and error %v, not %v", c.a, c.b, c.near, got, e, c.want)
		}
	}
}

func TestP10_1ReconcileErrors(t *testing.T) {
	good, bad := make([]api.Finding, 24), make([]api.Finding, 25)
	if got, e := service.Reconcile(good, good, 0); len(got) != 1 || e != api.OK {
		t.Errorf("24 findings: %v and error %v", got, e)
	}
	bad[0].At = -1
	wrong := []api.Finding{seen(1<<30+1, 0), seen(0, 720)}
	for _, x := range extremes() {
		wrong = append(wrong, seen(x, 0), seen(0, x), seen(x, x))
	}
	check := func(a, b []api.Finding, near int, want api.Errno) {
		t.Helper()
		if got, e := service.Reconcile(a, b, near); got != nil || e != want {
			t.Errorf("%v and %v, near %d: %v and error %v, not %v", a, b, near, got, e, want)
		}
	}
	for _, near := range []int{0, -1, math.MinInt} {
		check(bad, good, near, api.ErrSize)
		check(good, bad, near, api.ErrSize)
		for _, x := range wrong {
			check([]api.Finding{x}, bad, near, api.ErrSize)
			check([]api.Finding{x}, nil, near, api.ErrArg)
			check(nil, []api.Finding{seen(0, 0), x}, near, api.ErrArg)
		}
	}
	check(good, good, -1, api.ErrArg)
	check(nil, nil, math.MinInt, api.ErrArg)
}

func TestP10_4OnePair(t *testing.T) {
	lists(12, func(_ dice, a, b []api.Finding, near int) {
		ofA, ofB := map[int]bool{}, map[int]bool{}
		for _, p := range must[[][2]int](t)(service.Reconcile(a, b, near)) {
			if ofA[p[0]] || ofB[p[1]] {
				t.Errorf("%v and %v, near %d: %v is not the only pair", a, b, near, p)
			}
			ofA[p[0]], ofB[p[1]] = true, true
		}
	})
}

// differ tells whether no two distances of two lists are equal.
func differ(a, b []api.Finding) bool {
	known := map[int]bool{}
	for _, f := range a {
		for _, g := range b {
			if known[apart(f, g)] {
				return false
			}
			known[apart(f, g)] = true
		}
	}
	return true
}

func TestP10_4Exchanged(t *testing.T) {
	count := 0
	lists(13, func(_ dice, a, b []api.Finding, near int) {
		a, b = a[:min(len(a), 6)], b[:min(len(b), 6)]
		if !differ(a, b) {
			return
		}
		got := must[[][2]int](t)(service.Reconcile(b, a, near))
		for i, p := range got {
			got[i] = [2]int{p[1], p[0]}
		}
		slices.SortFunc(got, func(p, q [2]int) int { return p[0] - q[0] })
		if want := must[[][2]int](t)(service.Reconcile(a, b, near)); !slices.Equal(got, want) {
			t.Errorf("%v and %v, near %d: %v, exchanged %v", a, b, near, want, got)
		}
		count += len(got)
	})
	if count < 200 {
		t.Errorf("there are only %d pairs", count)
	}
}

func TestP10_4GreaterNear(t *testing.T) {
	lists(14, func(d dice, a, b []api.Finding, near int) {
		more := must[[][2]int](t)(service.Reconcile(a, b, near+d.from(1, 500)))
		for _, p := range must[[][2]int](t)(service.Reconcile(a, b, near)) {
			if !slices.Contains(more, p) {
				t.Errorf("%v and %v: the pair %v, near %d, is lost", a, b, p, near)
			}
		}
	})
}

func TestP10_4Itself(t *testing.T) {
	count := 0
	lists(15, func(_ dice, a, _ []api.Finding, _ int) {
		places := map[[2]int]bool{}
		for _, f := range a {
			places[[2]int{f.At, f.Clock}] = true
		}
		if len(places) < len(a) {
			return
		}
		got := must[[][2]int](t)(service.Reconcile(a, a, 0))
		for i := range a {
			if i >= len(got) || got[i] != [2]int{i, i} {
				t.Errorf("%v: %v", a, got)
				return
			}
		}
		count += len(got)
	})
	if count < 2000 {
		t.Errorf("there are only %d pairs", count)
	}
}
