package line

import (
	"iter"
	"slices"

	"wallgauge/api"
)

// Section is a range of stations in which nothing changes.
type Section struct{ From, To, Item, Class, Most int }

// placed is an item with its start.
type placed struct {
	Item
	start int
}

// walk goes through the items of a line.
func walk(l Line) iter.Seq2[int, placed] {
	return func(yield func(int, placed) bool) {
		start := 0
		for i, x := range l.Items {
			if !yield(i, placed{x, start}) {
				return
			}
			start += x.Length
		}
	}
}

// endOf returns the end of a line.
func endOf(l Line) int {
	end := 0
	for _, x := range walk(l) {
		end = x.start + x.Length
	}
	return end
}

// Starts returns the stations at which the items begin, and the end of the line.
func Starts(l Line) ([]int, api.Errno) {
	if e := Check(l); e != api.OK {
		return nil, e
	}
	return append(startsOf(l), endOf(l)), api.OK
}

// startsOf returns the stations at which the items begin.
func startsOf(l Line) []int {
	var starts []int
	for _, x := range walk(l) {
		starts = append(starts, x.start)
	}
	return starts
}

// checkStation returns the error of a line, or that of a station that is not of the line.
func checkStation(l Line, station int) api.Errno {
	if e := Check(l); e != api.OK {
		return e
	}
	if !between(station, 0, endOf(l)-1) {
		return api.ErrArg
	}
	return api.OK
}

// At returns the item at a station, and how far behind its beginning this is.
func At(l Line, station int) (item, offset int, e api.Errno) {
	if e := checkStation(l, station); e != api.OK {
		return 0, 0, e
	}
	item, offset = itemAt(l, station)
	return item, offset, api.OK
}

// itemAt returns the item that has a station of the line, and how far behind its start this is.
func itemAt(l Line, station int) (item, offset int) {
	for i, x := range walk(l) {
		if station < x.start+x.Length {
			return i, station - x.start
		}
	}
	return 0, 0
}

// Station returns the station of a place in an item.
func Station(l Line, item, offset int) (int, api.Errno) {
	if e := Check(l); e != api.OK {
		return 0, e
	}
	for i, x := range walk(l) {
		if i == item && between(offset, 0, x.Length-1) {
			return x.start + offset, api.OK
		}
	}
	return 0, api.ErrArg
}

// Nearest returns the girth weld that is nearest to a station, and how far behind it the station is.
func Nearest(l Line, station int) (weld, behind int, e api.Errno) {
	if e := checkStation(l, station); e != api.OK {
		return 0, 0, e
	}
	if len(l.Items) == 1 {
		return 0, 0, api.ErrNone
	}
	for i, x := range walk(l) {
		// There is no weld at the beginning of the line.
		if i == 1 || i > 1 && absolute(station-x.start) < absolute(behind) {
			weld, behind = i, station-x.start
		}
	}
	return weld, behind, api.OK
}

// absolute returns the absolute value of n.
func absolute(n int) int { return max(n, -n) }

// Within returns the first and the last item that a range of stations touches.
func Within(l Line, from, to int) (first, last int, e api.Errno) {
	for _, station := range [...]int{from, to} {
		if e := checkStation(l, station); e != api.OK {
			return 0, 0, e
		}
	}
	if from > to {
		return 0, 0, api.ErrOrder
	}
	first, _ = itemAt(l, from)
	last, _ = itemAt(l, to)
	return first, last, api.OK
}

// ClassAt returns the class at a station.
func ClassAt(l Line, station int) (int, api.Errno) {
	if e := checkStation(l, station); e != api.OK {
		return 0, e
	}
	return classAt(l, station), api.OK
}

// classAt returns the class at a station of the line.
func classAt(l Line, station int) int {
	for _, z := range l.Zones {
		if between(station, z.From, z.To-1) {
			return z.Class
		}
	}
	return 1
}

// LimitAt returns the greatest pressure at a station.
func LimitAt(l Line, station int) (int, api.Errno) {
	if e := checkStation(l, station); e != api.OK {
		return 0, e
	}
	return limitAt(l, station), api.OK
}

// limitAt returns the greatest pressure at a station of the line.
func limitAt(l Line, station int) int {
	most := 0
	for _, x := range l.Limits {
		if x.From <= station {
			most = x.Most
		}
	}
	return most
}

// Sections returns the ranges in which nothing changes.
func Sections(l Line) ([]Section, api.Errno) {
	if e := Check(l); e != api.OK {
		return nil, e
	}
	return sectionsOf(l), api.OK
}

// sectionsOf returns the sections of a line without an error.
func sectionsOf(l Line) []Section {
	var sections []Section
	for _, station := range breaks(l) {
		item, _ := itemAt(l, station)
		next := Section{station, endOf(l), item, classAt(l, station), limitAt(l, station)}
		if n := len(sections); n > 0 {
			if alike(sections[n-1], next) {
				continue
			}
			sections[n-1].To = station
		}
		sections = append(sections, next)
	}
	return sections
}

// alike reports whether nothing changes from one section to the other.
func alike(a, b Section) bool { return a.Item == b.Item && a.Class == b.Class && a.Most == b.Most }

// breaks returns the stations at which something may change, ascending.
func breaks(l Line) []int {
	stations := startsOf(l)
	for _, z := range l.Zones {
		stations = append(stations, z.From)
		if z.To < endOf(l) {
			stations = append(stations, z.To)
		}
	}
	for _, x := range l.Limits {
		stations = append(stations, x.From)
	}
	slices.Sort(stations)
	return slices.Compact(stations)
}
