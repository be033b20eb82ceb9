package line_test

import (
	"math"
	"slices"
	"testing"

	"wallgauge/api"
	"wallgauge/line"
)

// outside returns stations that are not of a line.
func outside(l line.Line) []int {
	return []int{-1, length(l), length(l) + 1, math.MinInt, math.MaxInt}
}

func TestP2_1Starts(t *testing.T) {
	if l, e := line.Starts(example()); !slices.Equal(l, []int{0, 12000, 15000, 16500}) || e != api.OK {
		t.Errorf("Starts: %v %v", l, e)
	}
	if l, e := line.Starts(pipes(7)); !slices.Equal(l, []int{0, 7}) || e != api.OK {
		t.Errorf("Starts of one pipe: %v %v", l, e)
	}
	long := pipes(slices.Repeat([]int{1 << 24}, 64)...)
	if l, e := line.Starts(long); len(l) != 65 || l[64] != 1<<30 || e != api.OK {
		t.Errorf("Starts of the longest line: %v %v", l, e)
	}
}

func TestP2_1At(t *testing.T) {
	for _, c := range []struct{ station, item, offset int }{{0, 0, 0}, {11999, 0, 11999}, {12000, 1, 0}, {12500, 1, 500}, {15000, 2, 0}, {16499, 2, 1499}} {
		if i, k, e := line.At(example(), c.station); i != c.item || k != c.offset || e != api.OK {
			t.Errorf("At %d: %d %d %v", c.station, i, k, e)
		}
	}
	for _, s := range outside(example()) {
		if i, k, e := line.At(example(), s); i != 0 || k != 0 || e != api.ErrArg {
			t.Errorf("At %d: %d %d %v", s, i, k, e)
		}
	}
}

func TestP2_1Station(t *testing.T) {
	for _, c := range []struct {
		item, offset, want int
		e                  api.Errno
	}{
		{0, 0, 0, 0}, {0, 11999, 11999, 0}, {1, 500, 12500, 0}, {2, 1499, 16499, 0},
		{0, 12000, 0, api.ErrArg}, {2, 1500, 0, api.ErrArg}, {0, -1, 0, api.ErrArg}, {1, -1, 0, api.ErrArg}, {-1, 0, 0, api.ErrArg}, {3, 0, 0, api.ErrArg},
		{math.MaxInt, 0, 0, api.ErrArg}, {math.MinInt, 0, 0, api.ErrArg}, {1, math.MaxInt, 0, api.ErrArg}, {1, math.MinInt, 0, api.ErrArg},
	} {
		if s, e := line.Station(example(), c.item, c.offset); s != c.want || e != c.e {
			t.Errorf("Station of %d, %d: %d %v", c.item, c.offset, s, e)
		}
	}
}

func TestP2_1Nearest(t *testing.T) {
	for _, c := range []struct{ station, weld, behind int }{{0, 1, -12000}, {11999, 1, -1}, {12000, 1, 0}, {13499, 1, 1499}, {13500, 1, 1500}, {13501, 2, -1499}, {15000, 2, 0}, {16499, 2, 1499}} {
		if i, k, e := line.Nearest(example(), c.station); i != c.weld || k != c.behind || e != api.OK {
			t.Errorf("Nearest to %d: %d %d %v", c.station, i, k, e)
		}
	}
	for _, s := range outside(example()) {
		if i, k, e := line.Nearest(example(), s); i != 0 || k != 0 || e != api.ErrArg {
			t.Errorf("Nearest to %d: %d %d %v", s, i, k, e)
		}
	}
	if i, k, e := line.Nearest(pipes(7), 3); i != 0 || k != 0 || e != api.ErrNone {
		t.Errorf("Nearest without a weld: %d %d %v", i, k, e)
	}
	if i, k, e := line.Nearest(pipes(7), 7); i != 0 || k != 0 || e != api.ErrArg {
		t.Errorf("Nearest to a station behind a line without a weld: %d %d %v", i, k, e)
	}
}

func TestP2_1Within(t *testing.T) {
	for _, c := range []struct{ from, to, first, last int }{{0, 0, 0, 0}, {0, 16499, 0, 2}, {11999, 12000, 0, 1}, {12000, 14999, 1, 1}, {15000, 15001, 2, 2}} {
		if i, k, e := line.Within(example(), c.from, c.to); i != c.first || k != c.last || e != api.OK {
			t.Errorf("Within %d to %d: %d %d %v", c.from, c.to, i, k, e)
		}
	}
	for _, s := range outside(example()) {
		for _, pair := range [][2]int{{s, 16000}, {16000, s}, {s, s}, {0, s}, {s, 0}} {
			if i, k, e := line.Within(example(), pair[0], pair[1]); i != 0 || k != 0 || e != api.ErrArg {
				t.Errorf("Within %v: %d %d %v", pair, i, k, e)
			}
		}
	}
	if i, k, e := line.Within(example(), 16000, 15999); i != 0 || k != 0 || e != api.ErrOrder {
		t.Errorf("Within, turned: %d %d %v", i, k, e)
	}
}

func TestP2_1ClassAt(t *testing.T) {
	for s, want := range map[int]int{0: 1, 9999: 1, 10000: 3, 13999: 3, 14000: 1, 16499: 1} {
		if n, e := line.ClassAt(example(), s); n != want || e != api.OK {
			t.Errorf("ClassAt %d: %d %v", s, n, e)
		}
	}
	for _, s := range outside(example()) {
		if n, e := line.ClassAt(example(), s); n != 0 || e != api.ErrArg {
			t.Errorf("ClassAt %d: %d %v", s, n, e)
		}
	}
}

func TestP2_1LimitAt(t *testing.T) {
	for s, want := range map[int]int{0: 7000, 14999: 7000, 15000: 6000, 16499: 6000} {
		if n, e := line.LimitAt(example(), s); n != want || e != api.OK {
			t.Errorf("LimitAt %d: %d %v", s, n, e)
		}
	}
	late := changed(func(l *line.Line) { l.Limits = l.Limits[1:] })
	if n, e := line.LimitAt(late, 14999); n != 0 || e != api.OK {
		t.Errorf("LimitAt ahead of the first limit: %d %v", n, e)
	}
	for _, s := range outside(example()) {
		if n, e := line.LimitAt(example(), s); n != 0 || e != api.ErrArg {
			t.Errorf("LimitAt %d: %d %v", s, n, e)
		}
	}
}

func TestP2_1Sections(t *testing.T) {
	want := []line.Section{{0, 10000, 0, 1, 7000}, {10000, 12000, 0, 3, 7000}, {12000, 14000, 1, 3, 7000}, {14000, 15000, 1, 1, 7000}, {15000, 16500, 2, 1, 6000}}
	if l, e := line.Sections(example()); !slices.Equal(l, want) || e != api.OK {
		t.Errorf("Sections: %v %v", l, e)
	}
	// Zones that touch and have one class, a zone of the class 1, and limits that repeat the pressure, begin no section.
	l := pipes(100)
	l.Zones = []line.Zone{{10, 20, 2}, {20, 30, 2}, {30, 40, 1}, {90, 100, 4}}
	l.Limits = []line.Limit{{5, 0}, {25, 70}, {35, 70}, {90, 80}}
	want = []line.Section{{0, 10, 0, 1, 0}, {10, 25, 0, 2, 0}, {25, 30, 0, 2, 70}, {30, 90, 0, 1, 70}, {90, 100, 0, 4, 80}}
	if l, e := line.Sections(l); !slices.Equal(l, want) || e != api.OK {
		t.Errorf("Sections: %v %v", l, e)
	}
	if l, e := line.Sections(pipes(1)); !slices.Equal(l, []line.Section{{0, 1, 0, 1, 0}}) || e != api.OK {
		t.Errorf("Sections of 1 mm: %v %v", l, e)
	}
}

func TestP2_3Stations(t *testing.T) {
	for _, l := range shorts(t) {
		for s, want := range lands(l) {
			item, offset, e := line.At(l, s)
			if item != want.item || offset != want.offset || e != api.OK {
				t.Fatalf("%v: At %d: %d %d %v", l, s, item, offset, e)
			}
			if back, e := line.Station(l, item, offset); back != s || e != api.OK {
				t.Fatalf("%v: Station of %d, %d: %d %v", l, item, offset, back, e)
			}
		}
		for i, x := range l.Items {
			for offset := range x.Length {
				s, _ := line.Station(l, i, offset)
				if item, back, e := line.At(l, s); item != i || back != offset || e != api.OK {
					t.Fatalf("%v: At of %d: %d %d %v", l, s, item, back, e)
				}
			}
		}
	}
}

func TestP2_3Nearest(t *testing.T) {
	for _, l := range shorts(t) {
		places := welds(l)
		for s := range lands(l) {
			weld, behind, e := line.Nearest(l, s)
			if len(places) == 0 {
				if weld != 0 || behind != 0 || e != api.ErrNone {
					t.Fatalf("%v: Nearest to %d: %d %d %v", l, s, weld, behind, e)
				}
				continue
			}
			if e != api.OK || weld < 1 || weld > len(places) || s-behind != places[weld-1] {
				t.Fatalf("%v: Nearest to %d: %d %d %v", l, s, weld, behind, e)
			}
			for i, p := range places {
				far := max(s-p, p-s) - max(behind, -behind)
				if far < 0 || far == 0 && i+1 < weld {
					t.Fatalf("%v: weld %d is nearer to %d than %d", l, i+1, s, weld)
				}
				if i+1 != weld && min(s, s-behind) < p && p < max(s, s-behind) {
					t.Fatalf("%v: weld %d is between %d and %d", l, i+1, s, weld)
				}
			}
		}
	}
}

func TestP2_4Sections(t *testing.T) {
	for _, l := range append(shorts(t), example()) {
		sections, e := line.Sections(l)
		if e != api.OK {
			t.Fatalf("%v: %v", l, e)
		}
		all, at := lands(l), 0
		for i, x := range sections {
			if x.From != at || x.To <= at {
				t.Fatalf("%v: the section %v begins at %d", l, x, at)
			}
			if i > 0 {
				a := sections[i-1]
				if a.Item == x.Item && a.Class == x.Class && a.Most == x.Most {
					t.Fatalf("%v: the sections %v and %v do not differ", l, a, x)
				}
			}
			for s := x.From; s < x.To; s++ {
				if all[s].item != x.Item || all[s].class != x.Class || all[s].most != x.Most {
					t.Fatalf("%v: the section %v at %d: %v", l, x, s, all[s])
				}
			}
			at = x.To
		}
		if at != len(all) {
			t.Fatalf("%v: the sections end at %d", l, at)
		}
	}
}

// ClassAt, LimitAt and At tell at each station what the sections do.
func TestP2_4Stations(t *testing.T) {
	for _, l := range shorts(t) {
		sections, _ := line.Sections(l)
		for _, x := range sections {
			for s := x.From; s < x.To; s++ {
				item, _, _ := line.At(l, s)
				class, _ := line.ClassAt(l, s)
				most, _ := line.LimitAt(l, s)
				if item != x.Item || class != x.Class || most != x.Most {
					t.Fatalf("%v: the section %v at %d: %d %d %d", l, x, s, item, class, most)
				}
			}
		}
	}
}
