package growth

import "wallgauge/api"

const (
	size   = api.MaxFindings
	nobody = -1 // the partner of a finding that has none yet
)

// table says what each finding of a run and each one of a later run cost together: as partners or, if this is cheaper or they do not belong together, alone. Each run is filled up with findings that belong to no other one: so each finding has a partner in the end.
type table [size][size]int

// side is one run: the price of each finding, and its partner in the other run.
type side struct{ prices, partners [size]int }

// matching gives partners to findings at the least cost. Those of the first run enter it one by one: from then on, the price of each one and that of any later finding are together never above what both cost, and just this if they are partners.
type matching struct {
	costs         table
	first, second side
}

// way is the shortest way that is known to a finding of the later run, along which findings of the first run would change their partners: by how much more than the prices that costs, and whose partner this finding would be.
type way struct {
	length, from int
	done         bool // whether no way can be shorter
}

// cheapest returns partners for all findings of a table, in which no cost is below 0, or above that of two findings alone.
//
// No price is above that of a finding alone, and the findings with which the runs are filled up have just this one: were it less, the prices of the others would be together above what their cheapest match costs.
func cheapest(costs table, alone int) matching {
	m := matching{costs: costs}
	for i := range size {
		m.first.partners[i], m.second.partners[i] = nobody, nobody
		m.second.prices[i] = alone
	}
entering:
	for i := range size {
		ways := m.start(i)
		for {
			k := nearest(ways)
			partner := m.second.partners[k]
			if partner == nobody {
				m.enter(i, ways, k)
				continue entering
			}
			ways[k].done = true
			for n, w := range ways {
				length := ways[k].length + m.spare(partner, n)
				if !w.done && length < w.length {
					ways[n] = way{length: length, from: partner}
				}
			}
		}
	}
	return m
}

// start returns the ways on which a finding of the first run goes at once to those of the later one.
func (m *matching) start(i int) [size]way {
	var ways [size]way
	for k := range ways {
		ways[k] = way{length: m.spare(i, k), from: i}
	}
	return ways
}

// spare returns by how much two findings cost more than their prices.
func (m *matching) spare(i, k int) int {
	return m.costs[i][k] - m.first.prices[i] - m.second.prices[k]
}

// nearest returns the finding with the shortest way that is not done. There is one.
func nearest(ways [size]way) int {
	best := nobody
	for k, w := range ways {
		if !w.done && (best == nobody || w.length < ways[best].length) {
			best = k
		}
	}
	return best
}

// enter gives a partner to a finding of the first run, at the end of the way to a finding of the later run that has none.
func (m *matching) enter(i int, ways [size]way, end int) {
	// The end keeps its price: so one finding of the later run has the price of one alone to the last, and therefore none of the first run a higher one.
	m.first.prices[i] += ways[end].length
	for k, w := range ways {
		if w.done {
			shift := ways[end].length - w.length
			m.second.prices[k] -= shift
			m.first.prices[m.second.partners[k]] += shift
		}
	}
	for k := end; k != nobody; {
		from := ways[k].from
		left := m.first.partners[from]
		m.first.partners[from], m.second.partners[k] = k, from
		k = left
	}
}
