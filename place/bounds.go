package place

import (
	"slices"

	"wallgauge/api"
)

// Limits returns where each event can be.
func Limits(events int, l []Bound) ([]Interval, api.Errno) {
	if e := checkClash(events, l); e != api.OK {
		return nil, e
	}
	// What a chain from an event to the event 0 allows is how far the event may lie ahead of it.
	up, down := fromStart(events, l), fromStart(events, turned(l))
	limits := make([]Interval, events)
	for i := range limits {
		limits[i] = Interval{Lo: -down.most[i], Hi: up.most[i], Low: down.known[i], High: up.known[i]}
	}
	return limits, api.OK
}

// Chain returns bounds that prove a limit of an event.
func Chain(events int, l []Bound, event int, upper bool) ([]int, api.Errno) {
	if e := Check(events, l); e != api.OK {
		return nil, e
	}
	if !isIndex(event, events) {
		return nil, api.ErrArg
	}
	if e := checkClash(events, l); e != api.OK {
		return nil, e
	}
	if !upper {
		l = turned(l)
	}
	p := fromStart(events, l)
	if !p.known[event] {
		return nil, api.ErrNone
	}
	if event == 0 {
		return nil, api.OK
	}
	chain := p.back(l, 0, event)
	if upper {
		slices.Reverse(chain)
	}
	return chain, api.OK
}

// CheckChain returns from which event to which one bounds lead, and what they allow together.
func CheckChain(events int, l []Bound, chain []int) (from, to, most int, e api.Errno) {
	if e := checkChain(events, l, chain); e != api.OK {
		return 0, 0, 0, e
	}
	for _, i := range chain {
		most += l[i].Most
	}
	return l[chain[0]].From, l[chain[len(chain)-1]].To, most, api.OK
}

// checkChain returns the error of CheckChain.
func checkChain(events int, l []Bound, chain []int) api.Errno {
	if e := Check(events, l); e != api.OK {
		return e
	}
	if len(chain) == 0 || len(chain) > api.MaxEvents {
		return api.ErrSize
	}
	for _, i := range chain {
		if !isIndex(i, len(l)) {
			return api.ErrArg
		}
	}
	for at := 1; at < len(chain); at++ {
		if l[chain[at]].From != l[chain[at-1]].To {
			return api.ErrOrder
		}
	}
	return api.OK
}

// Clash returns bounds that contradict each other.
func Clash(events int, l []Bound) ([]int, api.Errno) {
	if e := Check(events, l); e != api.OK {
		return nil, e
	}
	chain := round(events, l)
	if len(chain) == 0 {
		return nil, api.ErrNone
	}
	slices.Reverse(chain)
	return chain, api.OK
}

// checkClash returns the error of the bounds, or that they clash.
func checkClash(events int, l []Bound) api.Errno {
	if e := Check(events, l); e != api.OK {
		return e
	}
	if len(round(events, l)) > 0 {
		return api.ErrClash
	}
	return api.OK
}

// Fits returns the first bound that places do not keep, or -1.
func Fits(events int, l []Bound, places []int) (int, api.Errno) {
	if e := Check(events, l); e != api.OK {
		return 0, e
	}
	if len(places) != events {
		return 0, api.ErrSize
	}
	for _, x := range places {
		if !isPlace(x) {
			return 0, api.ErrArg
		}
	}
	return slices.IndexFunc(l, func(b Bound) bool { return places[b.To]-places[b.From] > b.Most }), api.OK
}
