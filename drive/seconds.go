package drive

import (
	"iter"

	"wallgauge/api"
	"wallgauge/dyad"
)

// Inspect tells for each second whether it was inspected, or why not.
func Inspect(speeds []dyad.Span, dead []int, low, high dyad.Num, most int) ([]int, api.Errno) {
	if e := checkSeconds(speeds, dead, low, high, most); e != api.OK {
		return nil, e
	}
	var why []int
	for i, speed := range speeds {
		switch {
		case speed.Hi().Cmp(high) > 0:
			why = append(why, Fast)
		case speed.Lo().Cmp(low) < 0:
			why = append(why, Slow)
		case dead[i] > most:
			why = append(why, Blind)
		default:
			why = append(why, Inspected)
		}
	}
	return why, api.OK
}

// checkSeconds returns the error of Inspect.
func checkSeconds(speeds []dyad.Span, dead []int, low, high dyad.Num, most int) api.Errno {
	switch {
	case len(speeds) > api.MaxSeconds || len(dead) != len(speeds):
		return api.ErrSize
	case low.Cmp(high) > 0:
		return api.ErrOrder
	case most < 0:
		return api.ErrArg
	}
	for _, n := range dead {
		if n < 0 {
			return api.ErrArg
		}
	}
	return api.OK
}

// Gaps returns the seconds that were not inspected.
func Gaps(why []int) ([]api.Gap, api.Errno) {
	if len(why) > api.MaxSeconds {
		return nil, api.ErrSize
	}
	for _, reason := range why {
		if reason < Inspected || reason > Blind {
			return nil, api.ErrArg
		}
	}
	var gaps []api.Gap
	for part := range parts(why) {
		if part.Why != Inspected {
			gaps = append(gaps, part)
		}
	}
	return gaps, api.OK
}

// parts goes through the longest parts of a list in which all elements are the same.
func parts(why []int) iter.Seq[api.Gap] {
	return func(yield func(api.Gap) bool) {
		from := 0
		for i, reason := range why {
			if i+1 < len(why) && why[i+1] == reason {
				continue
			}
			if !yield(api.Gap{From: from, To: i + 1, Why: reason}) {
				return
			}
			from = i + 1
		}
	}
}

// Dashes returns the seconds in which the speed may rise by more than a limit.
func Dashes(speeds []dyad.Span, rise dyad.Num) ([]int, api.Errno) {
	if len(speeds) > api.MaxSeconds {
		return nil, api.ErrSize
	}
	if rise.Sign() < 0 {
		return nil, api.ErrArg
	}
	var dashes []int
	for i := range speeds {
		if i > 0 && speeds[i].Hi().Sub(speeds[i-1].Lo()).Cmp(rise) > 0 {
			dashes = append(dashes, i)
		}
	}
	return dashes, api.OK
}
