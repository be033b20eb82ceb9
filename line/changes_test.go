package line_test

import (
	"math/rand/v2"
	"slices"
	"testing"

	"wallgauge/api"
	"wallgauge/line"
)

func TestP2_1Reversed(t *testing.T) {
	l := example()
	l.Items[0].Seam, l.Items[1].Seam, l.Items[2].Seam = 0, 1, 359
	l.Zones = append(l.Zones, line.Zone{From: 14000, To: 16500, Class: 2})
	want := deep(l)
	slices.Reverse(want.Items)
	want.Items[0].Seam, want.Items[1].Seam, want.Items[2].Seam = 1, 359, 0
	want.Zones = []line.Zone{{0, 2500, 2}, {2500, 6500, 3}}
	want.Limits = []line.Limit{{0, 6000}, {1500, 7000}}
	if out, e := line.Reversed(l); !same(out, want) || e != api.OK {
		t.Errorf("Reversed: %v %v, want %v", out, e, want)
	}
}

func TestP2_1ReversedLimits(t *testing.T) {
	for _, c := range []struct{ limits, want []line.Limit }{
		{nil, nil},
		{[]line.Limit{{0, 0}}, nil},
		{[]line.Limit{{3, 0}, {5, 0}}, nil},
		{[]line.Limit{{0, 5}}, []line.Limit{{0, 5}}},
		{[]line.Limit{{9, 5}}, []line.Limit{{0, 5}, {1, 0}}},
		{[]line.Limit{{0, 5}, {4, 0}}, []line.Limit{{6, 5}}},
		{[]line.Limit{{2, 5}, {4, 0}}, []line.Limit{{6, 5}, {8, 0}}},
		{[]line.Limit{{0, 5}, {4, 5}, {6, 5}}, []line.Limit{{0, 5}}},
		{[]line.Limit{{0, 0}, {4, 5}, {6, 5}, {7, 6}}, []line.Limit{{0, 6}, {3, 5}, {6, 0}}},
	} {
		l := pipes(10)
		l.Limits = c.limits
		if out, e := line.Reversed(l); !slices.Equal(out.Limits, c.want) || e != api.OK {
			t.Errorf("%v: %v %v", c.limits, out.Limits, e)
		}
	}
}

func TestP2_1ReversedFull(t *testing.T) {
	l := pipes(100)
	l.Limits = limits(64)
	if out, e := line.Reversed(l); len(out.Limits) != 64 || e != api.OK {
		t.Errorf("64 limits from the beginning on: %d %v", len(out.Limits), e)
	}
	for i := range l.Limits {
		l.Limits[i].From++
	}
	if out, e := line.Reversed(l); !none(out) || e != api.ErrFull {
		t.Errorf("64 limits behind the beginning: %v %v", out, e)
	}
	l.Limits[63].Most = 0
	if out, e := line.Reversed(l); len(out.Limits) != 64 || e != api.OK {
		t.Errorf("64 limits, the last one 0: %d %v", len(out.Limits), e)
	}
	l.Limits[63].Most, l.Limits[9].Most = 5, l.Limits[8].Most
	if out, e := line.Reversed(l); len(out.Limits) != 64 || e != api.OK {
		t.Errorf("64 limits, two alike: %d %v", len(out.Limits), e)
	}
	l.Limits[9].Most, l.Limits[0].Most = 5, 0
	if out, e := line.Reversed(l); len(out.Limits) != 64 || e != api.OK {
		t.Errorf("64 limits, the first one 0: %d %v", len(out.Limits), e)
	}
}

func TestP2_5Ends(t *testing.T) {
	for _, l := range append(shorts(t), example()) {
		out, e := line.Reversed(l)
		if e != api.OK || line.Check(out) != api.OK {
			t.Fatalf("%v: %v %v", l, out, e)
		}
		here, there := lands(l), lands(out)
		if len(here) != len(there) {
			t.Fatalf("%v: the ends differ", l)
		}
		for s, a := range here {
			b := there[len(there)-1-s]
			if a.class != b.class || a.most != b.most || a.item+b.item != len(l.Items)-1 || a.offset+b.offset != l.Items[a.item].Length-1 {
				t.Fatalf("%v: %v at %d, mirrored %v", l, a, s, b)
			}
		}
		back, e := line.Reversed(out)
		if !slices.Equal(back.Items, l.Items) || !slices.Equal(back.Zones, l.Zones) || e != api.OK {
			t.Fatalf("%v: Reversed of Reversed: %v %v", l, back, e)
		}
		if !slices.Equal(lands(back), here) {
			t.Fatalf("%v: Reversed of Reversed has other pressures: %v", l, back)
		}
	}
}

// No limit of a reversed line can be left out: each one changes the pressure.
func TestP2_5FewestLimits(t *testing.T) {
	for _, l := range shorts(t) {
		out, _ := line.Reversed(l)
		most := 0
		for _, x := range out.Limits {
			if x.Most == most {
				t.Fatalf("%v: %v", l, out.Limits)
			}
			most = x.Most
		}
	}
}

func TestP2_5Passes(t *testing.T) {
	for _, l := range shorts(t) {
		out, _ := line.Reversed(l)
		for _, x := range tools() {
			a, e := line.Passes(l, x)
			b, f := line.Passes(out, x)
			if e != api.OK || f != api.OK || (a < 0) != (b < 0) {
				t.Fatalf("%v: %v passes up to %d, and from the end up to %d", l, x, a, b)
			}
		}
	}
}

func TestP2_1Cut(t *testing.T) {
	want := example()
	want.Items = slices.Insert(want.Items, 0, want.Items[0])
	want.Items[0].Length, want.Items[1].Length = 5000, 7000
	if out, e := line.Cut(example(), 5000); !same(out, want) || e != api.OK {
		t.Errorf("Cut: %v %v", out, e)
	}
	for _, station := range []int{1, 11999} {
		out, e := line.Cut(example(), station)
		if e != api.OK || out.Items[0].Length != station || out.Items[1].Length != 12000-station {
			t.Errorf("Cut at %d: %v %v", station, out, e)
		}
	}
}

func TestP2_1CutErrors(t *testing.T) {
	for _, s := range outside(example()) {
		if out, e := line.Cut(example(), s); !none(out) || e != api.ErrArg {
			t.Errorf("Cut at %d: %v %v", s, out, e)
		}
	}
	full := many(64)
	full.Items[1] = line.Item{Kind: line.Valve, Length: 10, Outer: 3, Wall: 1}
	for _, c := range []struct {
		l       line.Line
		station int
		want    api.Errno
	}{
		{example(), 0, api.ErrTwice}, {example(), 12000, api.ErrTwice}, {example(), 15000, api.ErrTwice}, {example(), 12001, api.ErrArg}, {example(), 16499, api.ErrArg},
		{full, 5, api.ErrFull}, {full, 10, api.ErrTwice}, {full, 15, api.ErrArg}, {full, 640, api.ErrArg}, {full, 639, api.ErrFull}, {many(63), 5, api.OK},
	} {
		if out, e := line.Cut(c.l, c.station); e != c.want || none(out) != (e != api.OK) {
			t.Errorf("Cut at %d: %v %v, want %v", c.station, out, e, c.want)
		}
	}
}

func TestP2_6Cuts(t *testing.T) {
	for _, l := range shorts(t) {
		all := lands(l)
		for s, here := range all {
			out, e := line.Cut(l, s)
			want := api.OK
			if here.offset == 0 {
				want = api.ErrTwice
			} else if l.Items[here.item].Kind != line.Pipe {
				want = api.ErrArg
			}
			if e != want || e == api.OK && line.Check(out) != api.OK {
				t.Fatalf("%v: Cut at %d: %v, want %v", l, s, e, want)
			}
			if e != api.OK {
				continue
			}
			added := append(welds(l), s)
			slices.Sort(added)
			if !slices.Equal(welds(out), added) {
				t.Fatalf("%v: Cut at %d: welds at %v", l, s, welds(out))
			}
			cut := lands(out)
			for at, a := range all {
				b := cut[at]
				x, y := l.Items[a.item], out.Items[b.item]
				x.Length = y.Length
				if len(cut) != len(all) || a.class != b.class || a.most != b.most || x != y {
					t.Fatalf("%v: Cut at %d: %v becomes %v", l, s, a, b)
				}
			}
			if !slices.Equal(weakStations(l), weakStations(out)) {
				t.Fatalf("%v: Cut at %d: other Weak stations", l, s)
			}
		}
	}
}

// weakStations returns the stations of the Weak sections.
func weakStations(l line.Line) []int {
	sections, _ := line.Sections(l)
	weak, _ := line.Weak(l)
	var out []int
	for _, i := range weak {
		for s := sections[i].From; s < sections[i].To; s++ {
			out = append(out, s)
		}
	}
	return out
}

func TestP2_1Joined(t *testing.T) {
	a, b := example(), example()
	b.Items[0].Grade = 3
	out, e := line.Joined(a, b)
	want := line.Line{
		Items:  slices.Concat(a.Items, b.Items),
		Zones:  []line.Zone{{10000, 14000, 3}, {26500, 30500, 3}},
		Limits: []line.Limit{{0, 7000}, {15000, 6000}, {16500, 7000}, {31500, 6000}},
	}
	if !same(out, want) || e != api.OK {
		t.Errorf("Joined: %v %v, want %v", out, e, want)
	}
}

func TestP2_1JoinedLimits(t *testing.T) {
	for _, c := range []struct{ a, b, want []line.Limit }{
		{nil, nil, nil},
		{nil, []line.Limit{{3, 5}}, []line.Limit{{13, 5}}},
		{[]line.Limit{{3, 5}}, nil, []line.Limit{{3, 5}, {10, 0}}},
		{[]line.Limit{{3, 5}, {4, 0}}, nil, []line.Limit{{3, 5}, {4, 0}}},
		{[]line.Limit{{3, 5}}, []line.Limit{{1, 5}}, []line.Limit{{3, 5}, {10, 0}, {11, 5}}},
		{[]line.Limit{{3, 5}, {9, 0}}, []line.Limit{{1, 5}}, []line.Limit{{3, 5}, {9, 0}, {11, 5}}},
		{[]line.Limit{{3, 5}}, []line.Limit{{0, 0}}, []line.Limit{{3, 5}, {10, 0}}},
		{[]line.Limit{{3, 5}}, []line.Limit{{0, 5}, {2, 6}}, []line.Limit{{3, 5}, {10, 5}, {12, 6}}},
	} {
		a, b := pipes(10), pipes(10)
		a.Limits, b.Limits = c.a, c.b
		if out, e := line.Joined(a, b); !slices.Equal(out.Limits, c.want) || e != api.OK {
			t.Errorf("%v and %v: %v %v", c.a, c.b, out.Limits, e)
		}
	}
}

func TestP2_1JoinedErrors(t *testing.T) {
	bad, worse := changed(func(l *line.Line) { l.Items[0].Grade = 8 }), line.Line{}
	for _, c := range []struct {
		a, b line.Line
		want api.Errno
	}{
		{bad, worse, api.ErrGrade}, {worse, bad, api.ErrSize}, {many(64), bad, api.ErrGrade}, {bad, many(64), api.ErrGrade},
		{many(64), many(1), api.ErrFull}, {many(1), many(64), api.ErrFull}, {many(40), many(24), api.OK},
	} {
		if out, e := line.Joined(c.a, c.b); e != c.want || none(out) != (e != api.OK) {
			t.Errorf("Joined: %v %v, want %v", out, e, c.want)
		}
	}
}

func TestP2_1JoinedFull(t *testing.T) {
	a, b := pipes(100), pipes(100)
	for _, c := range []struct {
		first, second int
		want          api.Errno
	}{{64, 0, api.OK}, {0, 64, api.OK}, {32, 32, api.OK}, {64, 1, api.ErrFull}, {1, 64, api.ErrFull}} {
		a.Zones, b.Zones = zones(c.first), zones(c.second)
		if out, e := line.Joined(a, b); e != c.want || none(out) != (e != api.OK) {
			t.Errorf("%d and %d zones: %v %v", c.first, c.second, out, e)
		}
	}
	a.Zones, b.Zones = nil, nil
	for _, c := range []struct {
		first, second []line.Limit
		want          api.Errno
	}{
		{nil, limits(64), api.OK}, {limits(32), limits(32), api.OK}, {limits(32), limits(33), api.ErrFull}, {limits(64), limits(1), api.ErrFull},
		// A limit of the pressure 0 stands between them, too.
		{limits(63), nil, api.OK}, {limits(64), nil, api.ErrFull}, {limits(32), limits(32)[1:], api.OK}, {limits(32), limits(33)[1:], api.ErrFull},
		{append(limits(63), line.Limit{From: 70, Most: 0}), nil, api.OK},
	} {
		a.Limits, b.Limits = c.first, c.second
		out, e := line.Joined(a, b)
		if e != c.want || none(out) != (e != api.OK) || e == api.OK && line.Check(out) != api.OK {
			t.Errorf("%d and %d limits: %v %v", len(c.first), len(c.second), out, e)
		}
	}
}

func TestP2_6Joined(t *testing.T) {
	l := shorts(t)
	r := rand.New(rand.NewPCG(6, 6))
	for _, a := range l {
		b := l[r.IntN(len(l))]
		out, e := line.Joined(a, b)
		if e != api.OK || line.Check(out) != api.OK {
			t.Fatalf("%v and %v: %v %v", a, b, out, e)
		}
		want, behind := lands(a), lands(b)
		places := append(welds(a), length(a))
		for _, w := range welds(b) {
			places = append(places, length(a)+w)
		}
		for _, x := range behind {
			x.item += len(a.Items)
			want = append(want, x)
		}
		if !slices.Equal(lands(out), want) || !slices.Equal(welds(out), places) {
			t.Fatalf("%v and %v: %v", a, b, out)
		}
		for s, x := range want {
			y := slices.Concat(a.Items, b.Items)[x.item]
			if item, _, _ := line.At(out, s); out.Items[item] != y {
				t.Fatalf("%v and %v: the item at %d", a, b, s)
			}
		}
	}
}
