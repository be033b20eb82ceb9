package flux

import (
	"cmp"
	"slices"

	"wallgauge/api"
)

// maxRings is the greatest number of rings of a spot that no rings are told with.
const maxRings = 1 << 30

// Spots returns the sets of marks that hang together.
func Spots(marks [][]bool) ([]Spot, api.Errno) {
	if e := checkRows(marks); e != api.OK {
		return nil, e
	}
	left := make([]uint64, len(marks))
	for ring, row := range marks {
		for sensor, marked := range row {
			if marked {
				left[ring] |= 1 << sensor
			}
		}
	}
	var spots []Spot
	for ring := range left {
		for left[ring] != 0 {
			if len(spots) == api.MaxBoxes {
				return nil, api.ErrFull
			}
			reached := flood(left, ring, len(marks[0]))
			for i, set := range reached {
				left[i] &^= set
			}
			spots = append(spots, spotOf(reached))
		}
	}
	return spots, api.OK
}

// flood returns, ring by ring, the marks that hang together with the first one of a ring. It has a mark.
func flood(marks []uint64, first, sensors int) []uint64 {
	reached := make([]uint64, len(marks))
	reached[first] = marks[first] & -marks[first]
	touched := func(ring int) uint64 {
		var set uint64
		for _, near := range reached[max(ring-1, 0):min(ring+2, len(reached))] {
			set |= near | turned(near, 1, sensors) | turned(near, sensors-1, sensors)
		}
		return set & marks[ring]
	}
flooding:
	for {
		for ring := range reached {
			if set := touched(ring); set != reached[ring] {
				reached[ring] = set
				continue flooding
			}
		}
		return reached
	}
}

// spotOf returns the spot of marks, ring by ring, of which there is one at least.
func spotOf(marks []uint64) Spot {
	s := Spot{First: len(marks)}
	for ring, set := range marks {
		if set != 0 {
			s = Spot{min(s.First, ring), ring, s.Sensors | set}
		}
	}
	return s
}

// turned returns a set of sensors of which each one is moved around the pipe: by is from 0 to sensors.
func turned(set uint64, by, sensors int) uint64 {
	return (set<<by | set>>(sensors-by)) & allOf(sensors)
}

// Merge returns the spots that are left when near ones are taken together.
func Merge(l []Spot, sensors, along, around int) ([]Spot, api.Errno) {
	if e := checkMerge(l, sensors, along, around); e != api.OK {
		return nil, e
	}
	near := func(a, b Spot) bool {
		return gapAlong(a, b) <= along && gapAround(a.Sensors, b.Sensors, sensors) <= around
	}
	var left []Spot
	for _, s := range l {
		other := func() int { return slices.IndexFunc(left, func(t Spot) bool { return near(s, t) }) }
		for i := other(); i >= 0; i = other() {
			s = union(s, left[i])
			left = slices.Delete(left, i, i+1)
		}
		left = append(left, s)
	}
	slices.SortFunc(left, func(a, b Spot) int {
		return cmp.Or(cmp.Compare(a.First, b.First), cmp.Compare(a.Last, b.Last), cmp.Compare(a.Sensors, b.Sensors))
	})
	return left, api.OK
}

// checkMerge returns the error of Merge.
func checkMerge(l []Spot, sensors, along, around int) api.Errno {
	if !isRing(sensors) {
		return api.ErrArg
	}
	if len(l) > api.MaxBoxes {
		return api.ErrSize
	}
	for _, s := range l {
		if e := checkSpot(s, maxRings, sensors); e != api.OK {
			return e
		}
	}
	if along < 0 || around < 0 {
		return api.ErrArg
	}
	return api.OK
}

// union returns the spot that has the rings and the sensors of both, and the rings between them.
func union(a, b Spot) Spot {
	return Spot{min(a.First, b.First), max(a.Last, b.Last), a.Sensors | b.Sensors}
}

// gapAlong returns the number of rings between two spots.
func gapAlong(a, b Spot) int { return max(a.First-b.Last-1, b.First-a.Last-1, 0) }

// gapAround returns the least number of sensors between one of the set a and one of the set b, neither of which is empty.
func gapAround(a, b uint64, sensors int) int {
	far := 0
	for turned(a, far, sensors)&b == 0 && turned(b, far, sensors)&a == 0 {
		far++
	}
	return max(far-1, 0)
}

// Width returns the least number of neighbouring sensors that has all of a spot.
func Width(s Spot, sensors int) (int, api.Errno) {
	if !isRing(sensors) {
		return 0, api.ErrArg
	}
	if e := checkSpot(s, maxRings, sensors); e != api.OK {
		return 0, e
	}
	return sensors - longest(sensors, func(sensor int) bool { return !has(s.Sensors, sensor) }), api.OK
}
