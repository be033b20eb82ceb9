package strength_test

import (
	"reflect"
	"slices"
	"testing"

	"wallgauge/api"
	"wallgauge/strength"
)

func TestP9_1CheckFindings(t *testing.T) {
	if e := strength.CheckFindings(nil); e != api.OK {
		t.Errorf("no findings: %v", e)
	}
	if e := strength.CheckFindings(limits()); e != api.OK {
		t.Errorf("findings at their limits: %v", e)
	}
	sound := deep(0, 0)
	for f, want := range invalid() {
		if e := strength.CheckFindings([]api.Finding{f}); e != want {
			t.Errorf("%+v: %v, want %v", f, e, want)
		}
		for n := range 24 {
			if e := strength.CheckFindings(with(24, sound, n, f)); e != want {
				t.Errorf("%+v at %d: %v, want %v", f, n, e, want)
			}
		}
		if e := strength.CheckFindings(with(25, sound, 3, f)); e != api.ErrSize {
			t.Errorf("%+v among 25: %v", f, e)
		}
	}
	if e := strength.CheckFindings(slices.Repeat([]api.Finding{sound}, 24)); e != api.OK {
		t.Errorf("24 findings: %v", e)
	}
	if e := strength.CheckFindings(slices.Repeat([]api.Finding{sound}, 25)); e != api.ErrSize {
		t.Errorf("25 findings: %v", e)
	}
	// The first finding with an error decides.
	if e := strength.CheckFindings([]api.Finding{sound, deep(2, 1), {At: -1}}); e != api.ErrOrder {
		t.Errorf("ErrOrder ahead of ErrArg: %v", e)
	}
	if e := strength.CheckFindings([]api.Finding{sound, {At: -1}, deep(2, 1)}); e != api.ErrArg {
		t.Errorf("ErrArg ahead of ErrOrder: %v", e)
	}
}

// interact returns whether two findings interact.
func interact(t *testing.T, a, b api.Finding, r strength.Rule) bool {
	t.Helper()
	return must[bool](t)(strength.Interact(a, b, r))
}

func TestP9_1Interact(t *testing.T) {
	for _, c := range []struct {
		a, b          api.Finding
		along, around int // just so far apart
	}{
		{at(0, 10, 2, 0), at(14, 20, 719, 0), 4, 3},
		{at(0, 10, 2, 0), at(10, 20, 2, 0), 0, 0},
		{at(0, 10, 2, 0), at(11, 20, 3, 0), 1, 1},
		{at(0, 10, 0, 0), at(3, 5, 360, 0), 0, 360},
		{at(0, 10, 0, 0), at(3, 15, 361, 0), 0, 359},
		{at(0, 1, 719, 0), at(1000001, 1000002, 0, 0), 1000000, 1},
		{at(1<<30, 1<<30+1000000, 100, 0), at(1<<30-1001, 1<<30-1000, 400, 0), 1000, 300},
	} {
		for _, along := range []int{-1, 0, 1} {
			for _, around := range []int{-1, 0, 1} {
				r := strength.Rule{Along: c.along + along, Around: c.around + around}
				if r.Along < 0 || r.Along > 1000000 || r.Around < 0 {
					continue
				}
				want := along >= 0 && around >= 0
				if interact(t, c.a, c.b, r) != want || interact(t, c.b, c.a, r) != want {
					t.Errorf("Interact of %+v and %+v with %+v is not %v", c.a, c.b, r, want)
				}
			}
		}
	}
	if interact(t, at(0, 1, 0, 0), at(1000002, 1000003, 0, 0), strength.Rule{Along: 1000000, Around: 720}) {
		t.Error("findings that are too far apart interact")
	}
	d := newDice(1)
	for range 3000 {
		far := 1 << d.from(1, 20)
		l, r := d.findings(2, far), d.rule(far)
		if want := near(l[0], l[1], r); interact(t, l[0], l[1], r) != want {
			t.Fatalf("Interact of %+v with %+v is not %v", l, r, want)
		}
	}
}

// near tells whether two findings interact: one of them reaches the other one if it is made longer at both ends, and if it is turned.
func near(a, b api.Finding, r strength.Rule) bool {
	if a.At-r.Along > b.At+b.Long || a.At+a.Long+r.Along < b.At {
		return false
	}
	for turn := -r.Around; turn <= r.Around; turn++ {
		if (a.Clock+turn+720)%720 == b.Clock {
			return true
		}
	}
	return false
}

func TestP9_1ErrorsOfInteract(t *testing.T) {
	check := func(a, b api.Finding, r strength.Rule, want api.Errno) {
		t.Helper()
		if got, e := strength.Interact(a, b, r); got || e != want {
			t.Errorf("Interact of %+v and %+v with %+v: %v %v, want %v", a, b, r, got, e, want)
		}
		if got, e := strength.Clusters([]api.Finding{a, b}, r); len(got) > 0 || e != want {
			t.Errorf("Clusters of %+v and %+v with %+v: %v %v, want %v", a, b, r, got, e, want)
		}
	}
	sound := deep(0, 0)
	for _, bad := range badRules() {
		check(sound, sound, bad, api.ErrArg)
		check(sound, deep(2, 1), bad, api.ErrOrder)
		check(deep(2, 1), sound, bad, api.ErrOrder)
		if got, e := strength.Clusters(nil, bad); len(got) > 0 || e != api.ErrArg {
			t.Errorf("Clusters of none with %+v: %v %v", bad, got, e)
		}
		if got, e := strength.Clusters(make([]api.Finding, 25), bad); len(got) > 0 || e != api.ErrSize {
			t.Errorf("Clusters of 25 with %+v: %v %v", bad, got, e)
		}
	}
	for f, want := range invalid() {
		check(f, sound, strength.Rule{}, want)
		check(sound, f, strength.Rule{}, want)
		check(f, api.Finding{}, strength.Rule{Along: -1}, want)
		check(f, deep(2, 1), strength.Rule{Along: -1}, want)
	}
	for _, good := range []strength.Rule{{}, {Along: 1000000}, {Around: 720}, {Around: 360}} {
		if !interact(t, sound, sound, good) {
			t.Errorf("with %+v a finding does not interact with itself", good)
		}
	}
	for _, f := range limits() {
		if !interact(t, f, f, strength.Rule{}) {
			t.Errorf("%+v does not interact with itself", f)
		}
	}
}

func TestP9_2Interact(t *testing.T) {
	d := newDice(2)
	for range 3000 {
		far := 1 << d.from(1, 20)
		l, r := d.findings(2, far), d.rule(far)
		want := interact(t, l[0], l[1], r)
		if interact(t, l[1], l[0], r) != want {
			t.Fatalf("Interact of %+v with %+v depends on their order", l, r)
		}
		minutes, place := d.IntN(720), d.from(0, 1<<30-far)-min(l[0].At, l[1].At)
		for i := range l {
			l[i].Clock = (l[i].Clock + minutes) % 720
		}
		if interact(t, l[0], l[1], r) != want {
			t.Fatalf("Interact of %+v with %+v depends on a turn by %d", l, r, minutes)
		}
		for i := range l {
			l[i].At += place
		}
		if interact(t, l[0], l[1], r) != want {
			t.Fatalf("Interact of %+v with %+v depends on a move by %d", l, r, place)
		}
	}
}

// clusters returns the clusters of findings.
func clusters(t *testing.T, l []api.Finding, r strength.Rule) [][]int {
	t.Helper()
	return must[[][]int](t)(strength.Clusters(l, r))
}

func TestP9_1Clusters(t *testing.T) {
	first, second := at(0, 10, 2, 300), at(14, 20, 719, 500)
	// From the place 100 on, each one is near to the next one alone, in the order of the places.
	far, farther, farthest := at(100, 110, 0, 0), at(120, 130, 0, 0), at(140, 150, 0, 0)
	rule := strength.Rule{Along: 10, Around: 3}
	for _, c := range []struct {
		l    []api.Finding
		r    strength.Rule
		want [][]int
	}{
		{nil, rule, nil},
		{[]api.Finding{first, second}, strength.Rule{Along: 4, Around: 3}, [][]int{{0, 1}}},
		{[]api.Finding{first, second}, strength.Rule{Along: 3, Around: 3}, [][]int{{0}, {1}}},
		{[]api.Finding{first, second}, strength.Rule{Along: 4, Around: 2}, [][]int{{0}, {1}}},
		{[]api.Finding{first}, rule, [][]int{{0}}},
		{[]api.Finding{far, farther, farthest}, rule, [][]int{{0, 1, 2}}},
		{[]api.Finding{far, farthest, farther}, rule, [][]int{{0, 1, 2}}},
		{[]api.Finding{far, farthest}, rule, [][]int{{0}, {1}}},
		{[]api.Finding{far, first, farthest, second, farther}, rule, [][]int{{0, 2, 4}, {1, 3}}},
		{[]api.Finding{first, far, second, farthest, farther}, rule, [][]int{{0, 2}, {1, 3, 4}}},
		{[]api.Finding{farthest, first, far, second, first}, rule, [][]int{{0}, {1, 3, 4}, {2}}},
	} {
		if got := clusters(t, c.l, c.r); len(got) != len(c.want) || len(got) > 0 && !reflect.DeepEqual(got, c.want) {
			t.Errorf("Clusters of %+v with %+v are %v, want %v", c.l, c.r, got, c.want)
		}
	}
}

// reached returns, for each finding, whether it is reached from the finding from, directly or by others.
func reached(l []api.Finding, r strength.Rule, from int) []bool {
	found := make([]bool, len(l))
	found[from] = true
	for range l {
		for i, a := range l {
			for j, b := range l {
				found[j] = found[j] || found[i] && near(a, b, r)
			}
		}
	}
	return found
}

func TestP9_2Clusters(t *testing.T) {
	d := newDice(3)
	for range 300 {
		far := 1 << d.from(4, 20)
		l := d.findings(d.from(1, 24), far)
		r := strength.Rule{Along: d.from(0, far/16), Around: d.small(720)}
		var all []int
		first := -1
		for _, cluster := range clusters(t, l, r) {
			all = append(all, cluster...)
			if len(cluster) == 0 || cluster[0] <= first {
				t.Fatalf("Clusters of %+v with %+v have %v behind %d", l, r, cluster, first)
			}
			first = cluster[0]
			var want []int
			for i, in := range reached(l, r, first) {
				if in {
					want = append(want, i)
				}
			}
			if !slices.Equal(cluster, want) {
				t.Fatalf("Clusters of %+v with %+v have %v, want %v", l, r, cluster, want)
			}
		}
		slices.Sort(all)
		for i := range l {
			if len(all) != len(l) || all[i] != i {
				t.Fatalf("Clusters of %+v with %+v have %v", l, r, all)
			}
		}
	}
}

// of returns the cluster of each of n findings.
func of(clusters [][]int, n int) []int {
	out := make([]int, n)
	for i, cluster := range clusters {
		for _, finding := range cluster {
			out[finding] = i
		}
	}
	return out
}

func TestP9_2WiderRules(t *testing.T) {
	d := newDice(4)
	for range 500 {
		far := 1 << d.from(4, 20)
		l := d.findings(d.from(2, 24), far)
		r := strength.Rule{Along: d.from(0, far/32), Around: d.small(300)}
		wider := strength.Rule{Along: r.Along + d.from(0, far/32), Around: r.Around + d.from(0, 420)}
		narrow, wide := of(clusters(t, l, r), len(l)), of(clusters(t, l, wider), len(l))
		for i, a := range l {
			for j, b := range l {
				if narrow[i] == narrow[j] && wide[i] != wide[j] {
					t.Fatalf("%+v parts %d and %d of %+v, but %+v does not", wider, i, j, l, r)
				}
				if narrow[i] != narrow[j] && interact(t, a, b, r) {
					t.Fatalf("%d and %d of %+v interact with %+v, but are parted", i, j, l, r)
				}
			}
		}
	}
}
