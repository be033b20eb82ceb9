package growth

import (
	"sort"

	"wallgauge/api"
	"wallgauge/dyad"
)

// check returns the error of a growth.
func (g Growth) check() api.Errno {
	if g.Depth.Lo().Sign() < 0 || g.Rate.Lo().Sign() < 0 || g.Limit.Sign() < 0 {
		return api.ErrArg
	}
	return api.OK
}

// Later returns the depth after some days.
func Later(g Growth, days, k int) (dyad.Span, api.Errno) {
	if e := g.check(); e != api.OK {
		return dyad.Span{}, e
	}
	if !isWithin(days, 0, api.MaxDays) {
		return dyad.Span{}, api.ErrArg
	}
	return g.Depth.Add(scaled(g.Rate, days, year, k)), api.OK
}

// Days returns for how many days a finding surely does not pass its limit.
func Days(g Growth) (int, api.Errno) {
	if e := g.check(); e != api.OK {
		return 0, e
	}
	left := g.Limit.Sub(g.Depth.Hi()).Mul(number(year))
	passes := func(days int) bool { return g.Rate.Hi().Mul(number(days)).Cmp(left) > 0 }
	if passes(0) {
		return 0, api.ErrNone
	}
	// No depth falls, so the last day without one above the limit can be searched for by halving.
	return sort.Search(api.MaxDays, func(days int) bool { return passes(days + 1) }), api.OK
}

// Soonest returns the finding that may pass its limit first, and for how many days none does.
func Soonest(l []Growth) (int, int, api.Errno) {
	if len(l) < 1 || len(l) > api.MaxFindings {
		return 0, 0, api.ErrSize
	}
	soonest, least := 0, api.MaxDays
	for i, g := range l {
		days, e := Days(g)
		if e != api.OK {
			return 0, 0, e
		}
		if days < least {
			soonest, least = i, days
		}
	}
	return soonest, least, api.OK
}

// Next returns when to inspect again.
func Next(l []Growth, part, of int) (int, api.Errno) {
	_, days, e := Soonest(l)
	if e != api.OK {
		return 0, e
	}
	if !isPart(part, of) {
		return 0, api.ErrArg
	}
	return days * part / of, api.OK
}
