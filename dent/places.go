package dent

import (
	"slices"

	"wallgauge/api"
)

const (
	half  = api.MaxClock / 2 // the minute at the bottom of the pipe, and the minutes halfway around it
	sixth = api.MaxClock / 6 // minutes from the bottom to an end of the pipe's lower third
)

// OnWeld returns the first girth weld that a range of stations comes near to, or -1.
func OnWeld(welds []int, from, to, by int) (int, api.Errno) {
	if len(welds) > api.MaxItems {
		return 0, api.ErrSize
	}
	for _, x := range [3]int{from, to, by} {
		if x < 0 || x > maxPlace {
			return 0, api.ErrArg
		}
	}
	if from > to {
		return 0, api.ErrOrder
	}
	return slices.IndexFunc(welds, func(weld int) bool { return from-by <= weld && weld <= to+by }), api.OK
}

// Clock returns the minutes of the clock at which an arm of a rolled tool is.
func Clock(arm, arms, roll int) (int, api.Errno) {
	if arms < 1 || arms > api.MaxRays || arm < 0 || arm >= arms || !isMinute(roll) {
		return 0, api.ErrArg
	}
	return (api.MaxClock*arm/arms + roll) % api.MaxClock, api.OK
}

// isMinute tells whether there is such a minute of the clock.
func isMinute(x int) bool { return 0 <= x && x < api.MaxClock }

// Restrained reports whether a place around the pipe rests on the ground.
func Restrained(minutes, width int) (bool, api.Errno) {
	if !isMinute(minutes) || width < 0 || width > half {
		return false, api.ErrArg
	}
	// The bottom is opposite the top, at which the minutes begin: so no minute is nearer to it across the top.
	return abs(minutes-half) <= sixth+width, api.OK
}
