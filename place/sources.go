package place

import (
	"cmp"
	"slices"

	"wallgauge/api"
)

const (
	maxTicks  = 1 << 20 // ticks of an odometer
	maxSize   = 1000000 // micrometres of a tick
	maxAfter  = 1 << 20 // milliseconds since a place was passed
	maxSpeed  = 1 << 15 // millimetres per second
	maxVoters = 16      // ranges of a vote
)

// Forward returns the bounds of events that come one after the other.
func Forward(events int) ([]Bound, api.Errno) {
	if events < 1 || events > api.MaxEvents {
		return nil, api.ErrSize
	}
	bounds := make([]Bound, events-1)
	for i := range bounds {
		bounds[i] = Bound{From: i + 1, To: i}
	}
	return bounds, api.OK
}

// Between returns the bounds of two events whose distance is known.
func Between(from, to int, distance api.Range) ([]Bound, api.Errno) {
	if !isIndex(from, api.MaxEvents) || !isIndex(to, api.MaxEvents) {
		return nil, api.ErrArg
	}
	if e := checkRange(distance, -api.MaxPlace, api.MaxPlace); e != api.OK {
		return nil, e
	}
	return []Bound{{From: from, To: to, Most: distance.Hi}, {From: to, To: from, Most: -distance.Lo}}, api.OK
}

// Odometer returns how far a wheel has rolled in some ticks.
func Odometer(ticks int, size api.Range) (api.Range, api.Errno) {
	if ticks < 0 || ticks > maxTicks {
		return api.Range{}, api.ErrArg
	}
	if e := checkRange(size, 0, maxSize); e != api.OK {
		return api.Range{}, e
	}
	return outward(ticks*size.Lo, ticks*size.Hi, 1000), api.OK
}

// Calibrate returns how far a wheel rolls in a tick.
func Calibrate(ticks int, distance api.Range) (api.Range, api.Errno) {
	switch {
	case ticks == 0:
		return api.Range{}, api.ErrZero
	case ticks < 0 || ticks > maxTicks:
		return api.Range{}, api.ErrArg
	}
	if e := checkRange(distance, 0, api.MaxPlace); e != api.OK {
		return api.Range{}, e
	}
	return outward(1000*distance.Lo, 1000*distance.Hi, ticks), api.OK
}

// Passed returns where a tool was some time after it passed a place.
func Passed(place int, after, speed api.Range) (api.Range, api.Errno) {
	if e := checkPassed(place, after, speed); e != api.OK {
		return api.Range{}, e
	}
	// Ahead of the place, where the time is below 0, the greater speed leads farther back.
	first := min(after.Lo*speed.Lo, after.Lo*speed.Hi)
	last := max(after.Hi*speed.Lo, after.Hi*speed.Hi)
	rolled := outward(first, last, 1000)
	out := api.Range{Lo: place + rolled.Lo, Hi: place + rolled.Hi}
	if !isPlace(out.Lo) || !isPlace(out.Hi) {
		return api.Range{}, api.ErrArg
	}
	return out, api.OK
}

// checkPassed returns the error of the arguments of Passed.
func checkPassed(place int, after, speed api.Range) api.Errno {
	first, second := checkRange(after, -maxAfter, maxAfter), checkRange(speed, 0, maxSpeed)
	switch {
	case !isPlace(place) || second == api.ErrArg:
		return api.ErrArg
	case first != api.OK:
		return first
	}
	return second
}

// outward returns the least range of whole numbers that has all numbers from lo/by to hi/by.
func outward(lo, hi, by int) api.Range {
	return api.Range{Lo: floor(lo, by), Hi: -floor(-hi, by)}
}

// floor returns the greatest integer that is not above x/by. by is above 0.
func floor(x, by int) int {
	q := x / by
	if x%by < 0 {
		q--
	}
	return q
}

// turn is a place at which a range begins (the step is 1) or ends (it is -1).
type turn struct{ place, step int }

// Vote returns where a quantity is if at most some of the ranges told for it are wrong.
func Vote(l []api.Range, wrong int) (api.Range, api.Errno) {
	if e := checkVote(l, wrong); e != api.OK {
		return api.Range{}, e
	}
	need, have, found := len(l)-wrong, 0, false
	var out api.Range
	for _, t := range turns(l) {
		have += t.step
		switch {
		case t.step > 0 && have == need && !found:
			out.Lo, found = t.place, true
		case t.step < 0 && have == need-1:
			out.Hi = t.place
		}
	}
	if !found {
		return api.Range{}, api.ErrNone
	}
	return out, api.OK
}

// checkVote returns the error of the arguments of Vote.
func checkVote(l []api.Range, wrong int) api.Errno {
	if len(l) < 1 || len(l) > maxVoters {
		return api.ErrSize
	}
	for _, r := range l {
		if e := checkRange(r, -api.MaxPlace, api.MaxPlace); e != api.OK {
			return e
		}
	}
	if !isIndex(wrong, len(l)) {
		return api.ErrArg
	}
	return api.OK
}

// turns returns where ranges begin and end, in the order of places. Where one range ends and another one begins, the place lies in both: so the beginning comes first.
func turns(l []api.Range) []turn {
	var out []turn
	for _, r := range l {
		out = append(out, turn{r.Lo, 1}, turn{r.Hi, -1})
	}
	slices.SortFunc(out, func(a, b turn) int {
		return cmp.Or(cmp.Compare(a.place, b.place), cmp.Compare(b.step, a.step))
	})
	return out
}
