package place

import (
	"iter"

	"wallgauge/api"
)

// paths are the shortest chains found so far, of those that lead to each event.
type paths struct {
	known [api.MaxEvents]bool // whether one is found
	most  [api.MaxEvents]int  // what it allows together
	last  [api.MaxEvents]int  // its last bound, or -1 if it is empty
}

// fromStart returns the shortest chains that lead from the event 0 to the others. The bounds do not clash.
func fromStart(events int, l []Bound) paths {
	var p paths
	p.known[0], p.last[0] = true, -1
	p.relax(events, l)
	return p
}

// round returns bounds that go round and allow less than 0 together, or nothing if no bounds do.
func round(events int, l []Bound) []int {
	var p paths
	for i := range events {
		// Wherever a round begins, it is found: so each event begins with an empty chain.
		p.known[i], p.last[i] = true, -1
	}
	at := p.relax(events, l)
	if at < 0 {
		return nil
	}
	for range events {
		// The chain that leads here is longer than there are events: back on it, sooner or later, is the round.
		at = l[p.last[at]].From
	}
	return p.back(l, at, at)
}

// relax shortens the paths until no bound shortens one more, or once for each event. It returns an event whose path the last time has shortened, or -1 if there was none: without a round that allows less than 0, no chain worth taking has as many bounds as there are events.
func (p *paths) relax(events int, l []Bound) int {
	shortened := -1
	for range events {
		shortened = -1
		for i, b := range p.shorter(l) {
			p.known[b.To], p.most[b.To], p.last[b.To] = true, p.most[b.From]+b.Most, i
			shortened = b.To
		}
		if shortened < 0 {
			break
		}
	}
	return shortened
}

// shorter goes through the bounds that shorten the path to an event, each one as the paths are when it is reached.
func (p *paths) shorter(l []Bound) iter.Seq2[int, Bound] {
	return func(yield func(int, Bound) bool) {
		for i, b := range l {
			if !p.known[b.From] || p.known[b.To] && p.most[b.From]+b.Most >= p.most[b.To] {
				continue
			}
			if !yield(i, b) {
				return
			}
		}
	}
}

// back returns the bounds of the path from one event to another one, the last bound first; if both are the same event, those that go round.
func (p *paths) back(l []Bound, from, to int) []int {
	var chain []int
	for at := to; len(chain) == 0 || at != from; at = l[p.last[at]].From {
		chain = append(chain, p.last[at])
	}
	return chain
}

// turned returns the bounds with From and To exchanged: a chain among them is a chain of the bounds that is read from its end.
func turned(l []Bound) []Bound {
	out := make([]Bound, len(l))
	for i, b := range l {
		out[i] = Bound{From: b.To, To: b.From, Most: b.Most}
	}
	return out
}
