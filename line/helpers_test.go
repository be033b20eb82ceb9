package line_test

import (
	"math/rand/v2"
	"slices"
	"testing"

	"wallgauge/api"
	"wallgauge/line"
)

// example returns the line of the document's example.
func example() line.Line {
	return line.Line{
		Items: []line.Item{
			{Kind: line.Pipe, Length: 12000, Outer: 610000, Wall: 10000, Grade: 2, Seam: 90},
			{Kind: line.Bend, Length: 3000, Outer: 610000, Wall: 10000, Grade: 2, Seam: 90, Radius: 1830000},
			{Kind: line.Valve, Length: 1500, Outer: 610000, Wall: 10000, Grade: 2, Seam: 90},
		},
		Zones:  []line.Zone{{From: 10000, To: 14000, Class: 3}},
		Limits: []line.Limit{{From: 0, Most: 7000}, {From: 15000, Most: 6000}},
	}
}

// pipe returns a pipe with a length.
func pipe(length int) line.Item {
	return line.Item{Kind: line.Pipe, Length: length, Outer: 610000, Wall: 10000, Grade: 2, Seam: 90}
}

// pipes returns a line of pipes with these lengths.
func pipes(lengths ...int) line.Line {
	var l line.Line
	for _, n := range lengths {
		l.Items = append(l.Items, pipe(n))
	}
	return l
}

// many returns a line of n pipes of 10 mm.
func many(n int) line.Line { return pipes(slices.Repeat([]int{10}, n)...) }

// short returns a line of a few short items, such that each of its stations can be looked at.
func short(r *rand.Rand) line.Line {
	var l line.Line
	for range 1 + r.IntN(6) {
		x := line.Item{Kind: r.IntN(3), Length: 1 + r.IntN(7), Outer: 200000 + r.IntN(900000), Wall: 1 + r.IntN(30000), Grade: r.IntN(8), Seam: r.IntN(360)}
		if x.Kind == line.Bend {
			x.Radius = x.Outer/2 + 1 + r.IntN(3000000)
		}
		l.Items = append(l.Items, x)
	}
	end := length(l)
	for at := r.IntN(4); at < end && r.IntN(5) > 0; {
		z := line.Zone{From: at, To: min(at+1+r.IntN(5), end), Class: 1 + r.IntN(4)}
		l.Zones = append(l.Zones, z)
		at = z.To + r.IntN(3)
	}
	for at := r.IntN(3); at < end && r.IntN(5) > 0; at += 1 + r.IntN(5) {
		l.Limits = append(l.Limits, line.Limit{From: at, Most: r.IntN(3) * 4000})
	}
	return l
}

// shorts returns some such lines; all of them have no error.
func shorts(t *testing.T) []line.Line {
	r := rand.New(rand.NewPCG(2, 2))
	var out []line.Line
	for range 400 {
		l := short(r)
		if e := line.Check(l); e != api.OK {
			t.Fatalf("%v has the error %v", l, e)
		}
		out = append(out, l)
	}
	return append(out, pipes(1), pipes(1, 1), pipes(3, 1, 2))
}

// length returns the sum of all lengths.
func length(l line.Line) int {
	sum := 0
	for _, x := range l.Items {
		sum += x.Length
	}
	return sum
}

// land is what holds at a station, found by looking at each item, zone and limit.
type land struct{ item, offset, class, most int }

// lands returns what holds at each station.
func lands(l line.Line) []land {
	var out []land
	for i, x := range l.Items {
		for offset := range x.Length {
			out = append(out, land{i, offset, 1, 0})
		}
	}
	for _, z := range l.Zones {
		for s := z.From; s < z.To; s++ {
			out[s].class = z.Class
		}
	}
	for _, x := range l.Limits {
		for s := x.From; s < len(out); s++ {
			out[s].most = x.Most
		}
	}
	return out
}

// welds returns the stations of the girth welds.
func welds(l line.Line) []int {
	var out []int
	at := 0
	for i, x := range l.Items {
		if i > 0 {
			out = append(out, at)
		}
		at += x.Length
	}
	return out
}

// same reports whether two lines have the same items, zones and limits.
func same(a, b line.Line) bool {
	return slices.Equal(a.Items, b.Items) && slices.Equal(a.Zones, b.Zones) && slices.Equal(a.Limits, b.Limits)
}

// none reports whether a line is the zero value.
func none(l line.Line) bool { return same(l, line.Line{}) }

// deep returns a line that shares no memory with l.
func deep(l line.Line) line.Line {
	return line.Line{Items: slices.Clone(l.Items), Zones: slices.Clone(l.Zones), Limits: slices.Clone(l.Limits)}
}

// changed returns the example after a change.
func changed(change func(l *line.Line)) line.Line {
	l := example()
	change(&l)
	return l
}
