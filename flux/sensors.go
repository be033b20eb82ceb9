package flux

import (
	"iter"
	"slices"

	"wallgauge/api"
	"wallgauge/dyad"
)

// Dead returns which sensors are dead.
func Dead(rings [][]float32, full float32, most int) ([]bool, api.Errno) {
	if e := Check(rings); e != api.OK {
		return nil, e
	}
	if !isFinite(full) || full <= 0 || most < 0 {
		return nil, api.ErrArg
	}
	dead := make([]bool, len(rings[0]))
	for sensor := range dead {
		dead[sensor] = isDead(rings, sensor, full, most)
	}
	return dead, api.OK
}

// isDead tells whether a sensor is dead.
func isDead(rings [][]float32, sensor int, full float32, most int) bool {
	// One reading alone cannot show that a sensor stands still.
	moves, saturated := len(rings) < 2, 0
	for _, ring := range rings {
		v := ring[sensor]
		if !isFinite(v) {
			return true
		}
		if v != rings[0][sensor] {
			moves = true
		}
		if v >= full || v <= -full {
			saturated++
		}
	}
	return !moves || saturated > most
}

// Longest returns how many neighbours are dead.
func Longest(dead []bool) (int, api.Errno) {
	if !isRing(len(dead)) {
		return 0, api.ErrSize
	}
	return longest(len(dead), func(sensor int) bool { return dead[sensor] }), api.OK
}

// longest returns the greatest number of neighbouring sensors, around the pipe, for all of which something holds.
func longest(sensors int, holds func(sensor int) bool) int {
	most, row := 0, 0
	// The second time around, the row that ended the first one goes on.
	for sensor := range walk(sensors, 2) {
		row++
		if !holds(sensor) {
			row = 0
		}
		most = max(most, row)
	}
	return min(most, sensors)
}

// walk goes through the sensors of a ring, so many times around the pipe.
func walk(sensors, times int) iter.Seq[int] {
	return func(yield func(sensor int) bool) {
		for step := range sensors * times {
			if !yield(step % sensors) {
				return
			}
		}
	}
}

// Base returns the middle reading of the sensors of a ring that live.
func Base(ring []float32, dead []bool) (dyad.Num, api.Errno) {
	if e := Check([][]float32{ring}); e != api.OK {
		return dyad.Num{}, e
	}
	if e := checkDead(dead, len(ring)); e != api.OK {
		return dyad.Num{}, e
	}
	var living []float32
	for sensor, v := range ring {
		if !dead[sensor] {
			living = append(living, v)
		}
	}
	if len(living) == 0 {
		return dyad.Num{}, api.ErrDead
	}
	for _, v := range living {
		if !isFinite(v) {
			return dyad.Num{}, api.ErrArg
		}
	}
	slices.Sort(living)
	return exact(living[(len(living)-1)/2]), api.OK
}
