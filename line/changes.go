package line

import (
	"slices"

	"wallgauge/api"
)

// copied returns a line that shares no memory with l.
func copied(l Line) Line {
	l.Items = slices.Clone(l.Items)
	l.Zones = slices.Clone(l.Zones)
	l.Limits = slices.Clone(l.Limits)
	return l
}

// Reversed returns the line seen from its end.
func Reversed(l Line) (Line, api.Errno) {
	if e := Check(l); e != api.OK {
		return Line{}, e
	}
	out, end := copied(l), endOf(l)
	slices.Reverse(out.Items)
	for i, x := range out.Items {
		out.Items[i].Seam = (circle - x.Seam) % circle
	}
	slices.Reverse(out.Zones)
	for i, z := range out.Zones {
		out.Zones[i].From, out.Zones[i].To = end-z.To, end-z.From
	}
	out.Limits = mirrored(out.Limits, end)
	if len(out.Limits) > maxLimits {
		return Line{}, api.ErrFull
	}
	return out, api.OK
}

// mirrored returns the fewest limits that tell from the end what the given ones tell from the beginning.
func mirrored(limits []Limit, end int) []Limit {
	if bare(limits) {
		limits = slices.Insert(slices.Clone(limits), 0, Limit{})
	}
	var out []Limit
	to, most := end, 0
	for _, x := range slices.Backward(limits) {
		if x.Most != most {
			out = append(out, Limit{end - to, x.Most})
			most = x.Most
		}
		to = x.From
	}
	return out
}

// bare reports whether there is no limit at the beginning of a line.
func bare(limits []Limit) bool { return len(limits) == 0 || limits[0].From > 0 }

// Cut returns the line with one girth weld more.
func Cut(l Line, station int) (Line, api.Errno) {
	if e := checkStation(l, station); e != api.OK {
		return Line{}, e
	}
	item, offset := itemAt(l, station)
	switch {
	case offset == 0:
		return Line{}, api.ErrTwice
	case l.Items[item].Kind != Pipe:
		return Line{}, api.ErrArg
	case len(l.Items) == api.MaxItems:
		return Line{}, api.ErrFull
	}
	out := copied(l)
	out.Items = slices.Insert(out.Items, item, out.Items[item])
	out.Items[item].Length = offset
	out.Items[item+1].Length -= offset
	return out, api.OK
}

// Joined returns a line that goes on with another one.
func Joined(a, b Line) (Line, api.Errno) {
	for _, l := range [...]Line{a, b} {
		if e := Check(l); e != api.OK {
			return Line{}, e
		}
	}
	out, end := copied(a), endOf(a)
	out.Items = append(out.Items, b.Items...)
	for _, z := range b.Zones {
		out.Zones = append(out.Zones, Zone{end + z.From, end + z.To, z.Class})
	}
	if n := len(a.Limits); bare(b.Limits) && n > 0 && a.Limits[n-1].Most != 0 {
		// Ahead of its first limit b has none, and must not get the last one of a.
		out.Limits = append(out.Limits, Limit{end, 0})
	}
	for _, x := range b.Limits {
		out.Limits = append(out.Limits, Limit{end + x.From, x.Most})
	}
	if len(out.Items) > api.MaxItems || len(out.Zones) > maxZones || len(out.Limits) > maxLimits {
		return Line{}, api.ErrFull
	}
	return out, api.OK
}
