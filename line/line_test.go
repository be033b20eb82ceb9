package line_test

import (
	"math"
	"slices"
	"testing"

	"wallgauge/api"
	"wallgauge/line"
)

// badItem is an item of the example that was changed, and its error.
type badItem struct {
	name   string
	change func(x *line.Item)
	want   api.Errno
}

// badPipes returns changes that make a pipe invalid.
func badPipes() []badItem {
	return []badItem{
		{"kind -1", func(x *line.Item) { x.Kind = -1 }, api.ErrArg},
		{"kind 3", func(x *line.Item) { x.Kind = 3 }, api.ErrArg},
		{"no length", func(x *line.Item) { x.Length = 0 }, api.ErrArg},
		{"length", func(x *line.Item) { x.Length = 1<<24 + 1 }, api.ErrArg},
		{"greatest int", func(x *line.Item) { x.Length = math.MaxInt }, api.ErrArg},
		{"no diameter", func(x *line.Item) { x.Outer = 0 }, api.ErrArg},
		{"diameter", func(x *line.Item) { x.Outer = 1<<21 + 1 }, api.ErrArg},
		{"no wall", func(x *line.Item) { x.Wall = 0 }, api.ErrArg},
		{"wall", func(x *line.Item) { x.Wall = 1<<17 + 1 }, api.ErrArg},
		{"least int as wall", func(x *line.Item) { x.Wall = math.MinInt }, api.ErrArg},
		{"grade -1", func(x *line.Item) { x.Grade = -1 }, api.ErrGrade},
		{"grade 8", func(x *line.Item) { x.Grade = 8 }, api.ErrGrade},
		{"seam -1", func(x *line.Item) { x.Seam = -1 }, api.ErrArg},
		{"seam 360", func(x *line.Item) { x.Seam = 360 }, api.ErrArg},
		{"pipe with a radius", func(x *line.Item) { x.Radius = 1 }, api.ErrArg},
		{"pipe with a radius below 0", func(x *line.Item) { x.Radius = -1 }, api.ErrArg},
		{"valve with a radius", func(x *line.Item) { x.Kind, x.Radius = line.Valve, 1830000 }, api.ErrArg},
		{"no bore", func(x *line.Item) { x.Outer = 20000 }, api.ErrOrder},
		{"bore below 0", func(x *line.Item) { x.Outer, x.Wall = 1, 1<<17 }, api.ErrOrder},
		{"valve without a bore", func(x *line.Item) { x.Kind, x.Outer = line.Valve, 20000 }, api.ErrOrder},
		// Of several errors the one that is named first.
		{"wall and grade", func(x *line.Item) { x.Wall, x.Grade = 0, 8 }, api.ErrArg},
		{"grade and seam", func(x *line.Item) { x.Grade, x.Seam = 8, 360 }, api.ErrGrade},
		{"grade and radius", func(x *line.Item) { x.Grade, x.Radius = -1, 5 }, api.ErrGrade},
		{"seam and bore", func(x *line.Item) { x.Seam, x.Outer = -1, 20000 }, api.ErrArg},
		{"grade and bore", func(x *line.Item) { x.Grade, x.Outer = 9, 20000 }, api.ErrGrade},
	}
}

// badBends returns changes that make a bend invalid.
func badBends() []badItem {
	return []badItem{
		{"bend without a radius", func(x *line.Item) { x.Radius = 0 }, api.ErrArg},
		{"bend with a radius below 0", func(x *line.Item) { x.Radius = -1830000 }, api.ErrArg},
		{"radius", func(x *line.Item) { x.Radius = 1<<26 + 1 }, api.ErrArg},
		{"greatest int as radius", func(x *line.Item) { x.Radius = math.MaxInt }, api.ErrArg},
		{"narrow bend", func(x *line.Item) { x.Radius = 305000 }, api.ErrOrder},
		{"narrower bend", func(x *line.Item) { x.Radius = 1 }, api.ErrOrder},
		{"bend without a bore", func(x *line.Item) { x.Outer = 20000 }, api.ErrOrder},
		{"grade of a bend without a radius", func(x *line.Item) { x.Grade, x.Radius = 8, 0 }, api.ErrGrade},
	}
}

// badLine is a line with an error.
type badLine struct {
	name string
	l    line.Line
	want api.Errno
}

// badLines returns lines with each of the errors.
func badLines() []badLine {
	var out []badLine
	add := func(name string, want api.Errno, change func(l *line.Line)) {
		out = append(out, badLine{name, changed(change), want})
	}
	for _, b := range badPipes() {
		add(b.name, b.want, func(l *line.Line) { b.change(&l.Items[0]) })
	}
	for _, b := range badBends() {
		add(b.name, b.want, func(l *line.Line) { b.change(&l.Items[1]) })
	}
	add("no items", api.ErrSize, func(l *line.Line) { l.Items = nil })
	add("65 items", api.ErrSize, func(l *line.Line) { l.Items = many(65).Items })
	add("65 zones", api.ErrSize, func(l *line.Line) { l.Zones = zones(65) })
	add("65 limits", api.ErrSize, func(l *line.Line) { l.Limits = limits(65) })
	add("65 limits and a bad item", api.ErrSize, func(l *line.Line) { l.Limits, l.Items[0].Grade = limits(65), 8 })
	add("the second item ahead of the third", api.ErrGrade, func(l *line.Line) { l.Items[1].Grade, l.Items[2].Wall = 8, 0 })
	add("the last item", api.ErrArg, func(l *line.Line) { l.Items[2].Wall = 0 })
	add("an item ahead of a zone", api.ErrGrade, func(l *line.Line) { l.Items[2].Grade, l.Zones[0].Class = 8, 5 })
	addBadLand(add)
	return out
}

// addBadLand adds lines with bad zones and limits.
func addBadLand(add func(name string, want api.Errno, change func(l *line.Line))) {
	for _, z := range []struct {
		name  string
		zones []line.Zone
		want  api.Errno
	}{
		{"zone below 0", []line.Zone{{From: -1, To: 5, Class: 1}}, api.ErrArg},
		{"zone beyond the end", []line.Zone{{From: 0, To: 16501, Class: 1}}, api.ErrArg},
		{"class 0", []line.Zone{{From: 0, To: 5, Class: 0}}, api.ErrArg},
		{"class 5", []line.Zone{{From: 0, To: 5, Class: 5}}, api.ErrArg},
		{"empty zone", []line.Zone{{From: 5, To: 5, Class: 1}}, api.ErrOrder},
		{"turned zone", []line.Zone{{From: 6, To: 5, Class: 1}}, api.ErrOrder},
		{"zone that ends below 0", []line.Zone{{From: 0, To: math.MinInt, Class: 1}}, api.ErrOrder},
		{"zone far beyond the end", []line.Zone{{From: math.MaxInt, To: 5, Class: 1}}, api.ErrOrder},
		{"empty zone below 0", []line.Zone{{From: -1, To: -1, Class: 1}}, api.ErrArg},
		{"zones that overlap", []line.Zone{{From: 0, To: 5, Class: 1}, {From: 4, To: 8, Class: 2}}, api.ErrOrder},
		{"zones in the wrong order", []line.Zone{{From: 5, To: 8, Class: 1}, {From: 0, To: 5, Class: 2}}, api.ErrOrder},
		{"class of a zone that overlaps", []line.Zone{{From: 0, To: 5, Class: 1}, {From: 4, To: 8, Class: 9}}, api.ErrArg},
		{"the first zone", []line.Zone{{From: 5, To: 5, Class: 1}, {From: 5, To: 8, Class: 9}}, api.ErrOrder},
	} {
		add(z.name, z.want, func(l *line.Line) { l.Zones = z.zones })
	}
	for _, c := range []struct {
		name   string
		limits []line.Limit
		want   api.Errno
	}{
		{"limit below 0", []line.Limit{{From: -1, Most: 5}}, api.ErrArg},
		{"limit at the end", []line.Limit{{From: 16500, Most: 5}}, api.ErrArg},
		{"pressure below 0", []line.Limit{{From: 0, Most: -1}}, api.ErrArg},
		{"pressure", []line.Limit{{From: 0, Most: 1<<20 + 1}}, api.ErrArg},
		{"two limits at a station", []line.Limit{{From: 3, Most: 5}, {From: 3, Most: 6}}, api.ErrOrder},
		{"limits in the wrong order", []line.Limit{{From: 3, Most: 5}, {From: 2, Most: 5}}, api.ErrOrder},
		{"pressure of a limit in the wrong order", []line.Limit{{From: 3, Most: 5}, {From: 2, Most: -5}}, api.ErrArg},
		{"the first limit", []line.Limit{{From: 3, Most: 5}, {From: 2, Most: 5}, {From: -1, Most: 5}}, api.ErrOrder},
	} {
		add(c.name, c.want, func(l *line.Line) { l.Limits = c.limits })
	}
	add("a zone ahead of a limit", api.ErrOrder, func(l *line.Line) { l.Zones[0].To, l.Limits[0].From = 10000, -1 })
}

// zones returns n zones of 1 mm, of all classes in turn.
func zones(n int) []line.Zone {
	var out []line.Zone
	for i := range n {
		out = append(out, line.Zone{From: i, To: i + 1, Class: 1 + i%4})
	}
	return out
}

// limits returns n limits from the station 0 on, each of another pressure.
func limits(n int) []line.Limit {
	var out []line.Limit
	for i := range n {
		out = append(out, line.Limit{From: i, Most: 1000 + i})
	}
	return out
}

func TestP2_1Check(t *testing.T) {
	for _, b := range badLines() {
		if e := line.Check(b.l); e != b.want {
			t.Errorf("%s: %v, want %v", b.name, e, b.want)
		}
	}
	for name, change := range map[string]func(l *line.Line){
		"example":           func(l *line.Line) {},
		"no zones":          func(l *line.Line) { l.Zones = nil },
		"no limits":         func(l *line.Line) { l.Limits = []line.Limit{} },
		"64 zones":          func(l *line.Line) { l.Zones = zones(64) },
		"64 limits":         func(l *line.Line) { l.Limits = limits(64) },
		"64 items":          func(l *line.Line) { *l = many(64) },
		"zone of all":       func(l *line.Line) { l.Zones = []line.Zone{{From: 0, To: 16500, Class: 4}} },
		"zones that touch":  func(l *line.Line) { l.Zones = append(l.Zones, line.Zone{From: 14000, To: 14001, Class: 3}) },
		"limit at the last": func(l *line.Line) { l.Limits = []line.Limit{{From: 16499, Most: 1 << 20}} },
		"least item": func(l *line.Line) {
			*l = line.Line{Items: []line.Item{{Length: 1, Outer: 3, Wall: 1}}}
		},
		"least bend": func(l *line.Line) {
			*l = line.Line{Items: []line.Item{{Kind: line.Bend, Length: 1, Outer: 3, Wall: 1, Radius: 2}}}
		},
		"greatest bends": func(l *line.Line) {
			x := line.Item{Kind: line.Bend, Length: 1 << 24, Outer: 1 << 21, Wall: 1 << 17, Grade: 7, Seam: 359, Radius: 1 << 26}
			*l = line.Line{Items: slices.Repeat([]line.Item{x}, 64), Limits: []line.Limit{{From: 1<<30 - 1}}}
		},
	} {
		if e := line.Check(changed(change)); e != api.OK {
			t.Errorf("%s: %v", name, e)
		}
	}
}

// The error of the line comes ahead of all other errors, and with it all results are zero values.
func TestP2_1ErrorsOfLines(t *testing.T) {
	good := example()
	for _, b := range badLines() {
		l := b.l
		check := func(function string, e api.Errno, zero bool) {
			if e != b.want || !zero {
				t.Errorf("%s of %s: %v, zero %v", function, b.name, e, zero)
			}
		}
		s, e := line.Text(l)
		check("Text", e, s == "")
		starts, e := line.Starts(l)
		check("Starts", e, len(starts) == 0)
		for _, at := range []int{-1, 0, 12500, math.MaxInt} {
			i, k, e := line.At(l, at)
			check("At", e, i == 0 && k == 0)
			i, e = line.Station(l, at, at)
			check("Station", e, i == 0)
			i, k, e = line.Nearest(l, at)
			check("Nearest", e, i == 0 && k == 0)
			i, k, e = line.Within(l, at, 1)
			check("Within", e, i == 0 && k == 0)
			i, e = line.ClassAt(l, at)
			check("ClassAt", e, i == 0)
			i, e = line.LimitAt(l, at)
			check("LimitAt", e, i == 0)
			cut, e := line.Cut(l, at)
			check("Cut", e, none(cut))
		}
		sections, e := line.Sections(l)
		check("Sections", e, len(sections) == 0)
		weak, e := line.Weak(l)
		check("Weak", e, len(weak) == 0)
		first, e := line.Passes(l, line.Tool{})
		check("Passes", e, first == 0)
		out, e := line.Reversed(l)
		check("Reversed", e, none(out))
		out, e = line.Joined(l, good)
		check("Joined", e, none(out))
		out, e = line.Joined(good, l)
		check("Joined", e, none(out))
	}
}

func TestP2_1ErrorsOfItems(t *testing.T) {
	check := func(x line.Item, b badItem) {
		for _, class := range []int{0, 1, 5} {
			b.change(&x)
			if s, e := line.Allowed(x, class, 4); e != b.want || s.Text() != "[0,0]" {
				t.Errorf("Allowed of %s: %s %v", b.name, s.Text(), e)
			}
		}
	}
	for _, b := range badPipes() {
		check(example().Items[0], b)
	}
	for _, b := range badBends() {
		check(example().Items[1], b)
	}
}

// No argument is changed, nor the memory behind its lists, and no result shares memory with them.
func TestP2_1Memory(t *testing.T) {
	spare := func(l line.Line) line.Line {
		return line.Line{
			Items:  append(l.Items, line.Item{Kind: 77})[:len(l.Items)],
			Zones:  append(l.Zones, line.Zone{Class: 77})[:len(l.Zones)],
			Limits: append(l.Limits, line.Limit{Most: 77})[:len(l.Limits)],
		}
	}
	for _, base := range []line.Line{example(), {Items: example().Items}} {
		l := spare(deep(base))
		kept := deep(l)
		reversed, _ := line.Reversed(l)
		cut, _ := line.Cut(l, 5)
		before, _ := line.Joined(l, base)
		behind, _ := line.Joined(base, l)
		_, _ = line.Sections(l)
		_, _ = line.Weak(l)
		for _, out := range []line.Line{reversed, cut, before, behind} {
			overwrite(out)
		}
		if !same(l, kept) || !same(base, kept) {
			t.Errorf("an argument was changed: %v", l)
		}
		if l.Items[:4][3].Kind != 77 || l.Zones[:len(l.Zones)+1][len(l.Zones)].Class != 77 || l.Limits[:len(l.Limits)+1][len(l.Limits)].Most != 77 {
			t.Error("the memory behind a list was changed")
		}
	}
	starts, _ := line.Starts(example())
	starts[0] = 9
	if again, _ := line.Starts(example()); again[0] != 0 {
		t.Error("two results share memory")
	}
}

// overwrite changes all that a line has, and what is behind its lists.
func overwrite(l line.Line) {
	for i := range l.Items[:cap(l.Items)] {
		l.Items[:cap(l.Items)][i] = line.Item{Kind: 99}
	}
	for i := range l.Zones[:cap(l.Zones)] {
		l.Zones[:cap(l.Zones)][i] = line.Zone{Class: 99}
	}
	for i := range l.Limits[:cap(l.Limits)] {
		l.Limits[:cap(l.Limits)][i] = line.Limit{Most: 99}
	}
}

// A nil list and an empty one are the same.
func TestP2_1NilLists(t *testing.T) {
	a := pipes(5, 6)
	b := a
	b.Zones, b.Limits = []line.Zone{}, []line.Limit{}
	for _, change := range []func(l line.Line) (line.Line, api.Errno){
		line.Reversed,
		func(l line.Line) (line.Line, api.Errno) { return line.Cut(l, 3) },
		func(l line.Line) (line.Line, api.Errno) { return line.Joined(l, l) },
	} {
		x, e := change(a)
		y, f := change(b)
		if e != api.OK || f != api.OK || !same(x, y) {
			t.Errorf("%v %v, %v %v", x, e, y, f)
		}
	}
	if e := line.Check(line.Line{Items: []line.Item{}}); e != api.ErrSize {
		t.Errorf("Check of an empty line: %v", e)
	}
}
