package strength_test

import (
	"math"
	"math/big"
	"slices"
	"testing"

	"wallgauge/api"
	"wallgauge/dyad"
	"wallgauge/strength"
)

// three are the jobs of the chapter's example.
func three() []strength.Job { return []strength.Job{{6, 2, 0, 3}, {4, 2, 0, 3}, {3, 1, 0, 3}} }

// anyDay returns a job that may be done on all days.
func anyDay(risk, days int) strength.Job { return strength.Job{Risk: risk, Days: days, Due: 365} }

// site is where jobs are done.
type site struct {
	jobs        []strength.Job
	crews, days int
}

// badSites are sites with their errors.
func badSites() map[api.Errno][]site {
	sound := anyDay(1, 1)
	out := map[api.Errno][]site{}
	for _, crews := range []int{1, 0} { // of both errors that of the size comes first
		out[api.ErrSize] = append(out[api.ErrSize], site{slices.Repeat([]strength.Job{sound}, 25), crews, 5}, site{make([]strength.Job, 25), 1, -crews})
	}
	arg := func(s site) { out[api.ErrArg] = append(out[api.ErrArg], s) }
	for _, x := range []int{-1, math.MinInt, math.MaxInt} {
		arg(site{nil, x, 5})
		arg(site{nil, 1, x})
		arg(site{three(), x, x})
		for _, bad := range []strength.Job{{x, 1, 0, 9}, {1, x, 0, 9}, {1, 1, x, 9}, {1, 1, 0, x}} {
			arg(site{[]strength.Job{bad}, 1, 5})
			arg(site{[]strength.Job{sound, sound, bad}, 1, 5})
			arg(site{with(24, sound, 23, bad), 4, 365})
		}
	}
	arg(site{nil, 0, 5})
	arg(site{nil, 5, 5})
	arg(site{nil, 1, 366})
	for _, bad := range []strength.Job{{}, {1000001, 1, 0, 9}, {1, 0, 0, 9}, {1, 366, 0, 9}, {1, 1, 366, 9}, {1, 1, 0, 366}} {
		arg(site{[]strength.Job{sound, bad, sound}, 1, 5})
	}
	return out
}

// limitSites are sites at their limits.
func limitSites() []site {
	most := strength.Job{Risk: 1000000, Days: 365, Ready: 365, Due: 365}
	return []site{
		{nil, 1, 0}, {nil, 4, 365}, {[]strength.Job{{0, 1, 0, 0}}, 1, 0}, {[]strength.Job{most}, 4, 365},
		{slices.Repeat([]strength.Job{most}, 24), 4, 365}, {slices.Repeat([]strength.Job{anyDay(1000000, 365)}, 24), 4, 365},
	}
}

func TestP9_1ErrorsOfJobs(t *testing.T) {
	check := func(s site, price dyad.Num, want api.Errno) {
		t.Helper()
		for _, plan := range [][]strength.Slot{nil, {{-1, 0, 0}}} {
			if got, e := strength.Left(s.jobs, s.crews, s.days, plan); e != want || got != 0 {
				t.Errorf("Left of %+v: %d %v, want %v", s, got, e, want)
			}
		}
		if got, e := strength.Greedy(s.jobs, s.crews, s.days); e != want || len(got) > 0 {
			t.Errorf("Greedy of %+v: %v %v, want %v", s, got, e, want)
		}
		if got, e := strength.Bound(s.jobs, s.crews, s.days, price); e != want || got.Sign() != 0 {
			t.Errorf("Bound of %+v: %s %v, want %v", s, got.Text(), e, want)
		}
		if got, e := strength.Price(s.jobs, s.crews, s.days, 20); e != want || got.Sign() != 0 {
			t.Errorf("Price of %+v: %s %v, want %v", s, got.Text(), e, want)
		}
	}
	bad := badSites()
	if len(bad) != 2 {
		t.Error("an error is missing")
	}
	for want, sites := range bad {
		for _, s := range sites {
			check(s, num("1"), want)
			check(s, num("-1"), want)
		}
	}
	for _, s := range limitSites() {
		must[int](t)(strength.Left(s.jobs, s.crews, s.days, nil))
		must[[]strength.Slot](t)(strength.Greedy(s.jobs, s.crews, s.days))
		must[dyad.Num](t)(strength.Bound(s.jobs, s.crews, s.days, num("0")))
		must[dyad.Num](t)(strength.Price(s.jobs, s.crews, s.days, 20))
	}
}

// left returns the risk that a plan leaves.
func (s site) left(t *testing.T, plan ...strength.Slot) int {
	t.Helper()
	return must[int](t)(strength.Left(s.jobs, s.crews, s.days, plan))
}

func TestP9_1Left(t *testing.T) {
	example := site{three(), 1, 3}
	two := site{three(), 2, 3}
	late := site{[]strength.Job{{5, 2, 3, 7}, {7, 1, 0, 1}, {9, 3, 4, 365}}, 4, 10}
	for _, c := range []struct {
		s    site
		plan []strength.Slot
		want int
	}{
		{example, nil, 13},
		{example, []strength.Slot{{0, 0, 0}, {2, 0, 2}}, 4},
		{example, []strength.Slot{{2, 0, 2}, {0, 0, 0}}, 4},
		{example, []strength.Slot{{1, 0, 1}, {2, 0, 0}}, 6},
		{example, []strength.Slot{{2, 0, 1}}, 10},
		{two, []strength.Slot{{0, 0, 0}, {1, 1, 0}, {2, 0, 2}}, 0},
		{two, []strength.Slot{{0, 1, 1}, {1, 0, 1}, {2, 1, 0}}, 0},
		{late, []strength.Slot{{0, 3, 3}, {1, 3, 0}}, 9},
		{late, []strength.Slot{{0, 3, 5}, {1, 2, 0}}, 9},
		{late, []strength.Slot{{2, 0, 7}}, 12},
		{late, []strength.Slot{{2, 0, 4}}, 12},
		{site{nil, 1, 0}, nil, 0},
		{site{slices.Repeat([]strength.Job{anyDay(1000000, 365)}, 24), 4, 365}, []strength.Slot{{23, 3, 0}}, 23000000},
	} {
		if got := c.s.left(t, c.plan...); got != c.want {
			t.Errorf("Left of %+v with %v is %d, want %d", c.s, c.plan, got, c.want)
		}
	}
}

func TestP9_1ErrorsOfLeft(t *testing.T) {
	s := site{[]strength.Job{{6, 2, 1, 5}, {4, 3, 0, 365}, {3, 1, 0, 5}, {3, 1, 9, 9}}, 2, 8}
	check := func(want api.Errno, plan ...strength.Slot) {
		t.Helper()
		if got, e := strength.Left(s.jobs, s.crews, s.days, plan); e != want || got != 0 && e != api.OK {
			t.Errorf("Left of %+v with %v: %d %v, want %v", s, plan, got, e, want)
		}
	}
	first := strength.Slot{Job: 1, Crew: 0, Start: 2}
	for _, x := range []int{-1, math.MinInt, math.MaxInt} {
		for _, bad := range []strength.Slot{{x, 0, 0}, {2, x, 0}, {2, 0, x}, {1, x, 2}, {1, 0, x}, {x, x, x}} {
			check(api.ErrArg, bad)
			check(api.ErrArg, first, bad)
		}
	}
	for _, bad := range []strength.Slot{{4, 0, 0}, {2, 2, 0}, {2, 0, 9}, {1, 0, 9}} {
		check(api.ErrArg, first, bad)
	}
	check(api.ErrTwice, first, first)
	check(api.ErrTwice, first, strength.Slot{Job: 1, Crew: 1, Start: 5})
	check(api.ErrTwice, first, strength.Slot{Job: 2, Crew: 0, Start: 0}, strength.Slot{Job: 1, Crew: 1, Start: 8})
	check(api.ErrPermit, strength.Slot{Job: 0, Crew: 0, Start: 0})
	check(api.OK, strength.Slot{Job: 0, Crew: 0, Start: 1})
	check(api.OK, strength.Slot{Job: 0, Crew: 0, Start: 3})
	check(api.ErrPermit, strength.Slot{Job: 0, Crew: 0, Start: 4})
	check(api.OK, strength.Slot{Job: 1, Crew: 0, Start: 5})
	check(api.ErrPermit, strength.Slot{Job: 1, Crew: 0, Start: 6}) // it ends behind the days
	check(api.ErrPermit, strength.Slot{Job: 1, Crew: 0, Start: 8})
	check(api.ErrPermit, strength.Slot{Job: 3, Crew: 0, Start: 8})
	check(api.ErrPermit, first, strength.Slot{Job: 0, Crew: 0, Start: 4}) // the crew is busy, too
	for _, start := range []int{1, 2, 3} {
		check(api.ErrOrder, first, strength.Slot{Job: 0, Crew: 0, Start: start})
		check(api.ErrOrder, strength.Slot{Job: 0, Crew: 0, Start: start}, first)
		check(api.OK, first, strength.Slot{Job: 0, Crew: 1, Start: start})
	}
	for start, want := range map[int]api.Errno{0: api.OK, 1: api.OK, 2: api.ErrOrder, 3: api.ErrOrder, 4: api.ErrOrder} {
		check(want, first, strength.Slot{Job: 2, Crew: 0, Start: start})
		check(want, strength.Slot{Job: 2, Crew: 0, Start: start}, first)
	}
	// The first slot with an error decides.
	check(api.ErrTwice, first, first, strength.Slot{Job: -1})
	check(api.ErrArg, first, strength.Slot{Job: -1}, first)
	check(api.ErrOrder, first, strength.Slot{Job: 2, Crew: 0, Start: 3}, strength.Slot{Job: 0})
	check(api.ErrPermit, first, strength.Slot{Job: 0}, strength.Slot{Job: 2, Crew: 0, Start: 3})
	check(api.ErrTwice, slices.Repeat([]strength.Slot{first}, 100)...)
}

// site returns a site with n jobs of at most so many days.
func (d dice) site(n, crews, days int) site {
	s := site{crews: crews, days: days}
	most := 1 << d.from(0, 10)
	for range n {
		ready := d.from(0, days)
		s.jobs = append(s.jobs, strength.Job{Risk: d.from(0, most), Days: d.from(1, max(days/d.from(1, 8), 1)), Ready: d.from(0, ready), Due: d.from(ready, 365)})
	}
	return s
}

// ownLeft returns the risk that a plan leaves, by a calendar of each crew.
func (s site) ownLeft(plan []strength.Slot) (int, api.Errno) {
	busy := map[[2]int]bool{}
	done := map[int]bool{}
	for _, slot := range plan {
		if done[slot.Job] {
			return 0, api.ErrTwice
		}
		done[slot.Job] = true
		job := s.jobs[slot.Job]
		if slot.Start < job.Ready || slot.Start+job.Days > job.Due || slot.Start+job.Days > s.days {
			return 0, api.ErrPermit
		}
		for day := range job.Days {
			if busy[[2]int{slot.Crew, slot.Start + day}] {
				return 0, api.ErrOrder
			}
			busy[[2]int{slot.Crew, slot.Start + day}] = true
		}
	}
	left := 0
	for i, job := range s.jobs {
		if !done[i] {
			left += job.Risk
		}
	}
	return left, api.OK
}

func TestP9_1LeftOfPlans(t *testing.T) {
	d := newDice(51)
	count := map[api.Errno]int{}
	for range 3000 {
		s := d.site(d.from(1, 24), d.from(1, 4), d.from(1, 365))
		var plan []strength.Slot
		for range d.from(0, 6) {
			job := d.IntN(len(s.jobs))
			start := s.jobs[job].Ready + d.from(-1, 40)
			plan = append(plan, strength.Slot{Job: job, Crew: d.IntN(s.crews), Start: min(max(start, 0), s.days)})
		}
		want, wrong := s.ownLeft(plan)
		if got, e := strength.Left(s.jobs, s.crews, s.days, plan); got != want || e != wrong {
			t.Fatalf("Left of %+v with %v: %d %v, want %d %v", s, plan, got, e, want, wrong)
		}
		count[wrong]++
	}
	for _, e := range []api.Errno{api.OK, api.ErrTwice, api.ErrPermit, api.ErrOrder} {
		if count[e] < 50 {
			t.Errorf("only %d plans with %v", count[e], e)
		}
	}
}

// greedy returns the plan that takes the jobs by the risk that they take away in a day.
func (s site) greedy(t *testing.T) []strength.Slot {
	t.Helper()
	return must[[]strength.Slot](t)(strength.Greedy(s.jobs, s.crews, s.days))
}

func TestP9_1Greedy(t *testing.T) {
	for _, c := range []struct {
		s    site
		want []strength.Slot
	}{
		{site{three(), 1, 3}, []strength.Slot{{0, 0, 0}, {2, 0, 2}}},
		{site{three(), 2, 3}, []strength.Slot{{0, 0, 0}, {2, 1, 0}, {1, 1, 1}}},
		{site{three(), 1, 2}, []strength.Slot{{0, 0, 0}}},
		{site{three(), 1, 1}, []strength.Slot{{2, 0, 0}}}, // what is left out takes no day
		{site{three(), 1, 0}, nil},
		{site{nil, 4, 365}, nil},
		{site{[]strength.Job{anyDay(2, 2), anyDay(1, 1), anyDay(3, 3)}, 1, 6}, []strength.Slot{{0, 0, 0}, {1, 0, 2}, {2, 0, 3}}},
		{site{[]strength.Job{anyDay(0, 2), anyDay(0, 1)}, 1, 6}, []strength.Slot{{0, 0, 0}, {1, 0, 2}}},
		// 2/3 and 667/1000 differ less than a hundredth.
		{site{[]strength.Job{anyDay(200, 300), anyDay(67, 100)}, 1, 365}, []strength.Slot{{1, 0, 0}}},
		{site{[]strength.Job{anyDay(999999, 364), anyDay(1000000, 364)}, 1, 365}, []strength.Slot{{1, 0, 0}}},
		// A crew begins behind the last day of its last job, or when the job is ready.
		{site{[]strength.Job{{9, 1, 5, 9}, {8, 1, 0, 9}, {7, 1, 8, 9}}, 1, 9}, []strength.Slot{{0, 0, 5}, {1, 0, 6}, {2, 0, 8}}},
		{site{[]strength.Job{{9, 1, 5, 9}, {8, 1, 0, 5}}, 1, 9}, []strength.Slot{{0, 0, 5}}}, // no job goes ahead of another one
		{site{[]strength.Job{{9, 1, 5, 9}, {8, 1, 0, 5}}, 2, 9}, []strength.Slot{{0, 0, 5}, {1, 1, 0}}},
		{site{[]strength.Job{{20, 2, 0, 9}, {8, 1, 0, 9}, {7, 1, 3, 9}}, 2, 9}, []strength.Slot{{0, 0, 0}, {1, 1, 0}, {2, 0, 3}}},
		{site{[]strength.Job{{90, 3, 0, 9}, {40, 2, 0, 9}, {7, 1, 0, 9}}, 2, 9}, []strength.Slot{{0, 0, 0}, {1, 1, 0}, {2, 1, 2}}},
		{site{[]strength.Job{{9, 2, 3, 5}, {8, 2, 3, 4}}, 2, 9}, []strength.Slot{{0, 0, 3}}},
		{site{[]strength.Job{{9, 2, 3, 5}, {8, 2, 3, 5}}, 2, 4}, nil},
		{site{slices.Repeat([]strength.Job{anyDay(5, 1)}, 5), 4, 9}, []strength.Slot{{0, 0, 0}, {1, 1, 0}, {2, 2, 0}, {3, 3, 0}, {4, 0, 1}}},
	} {
		if got := c.s.greedy(t); !slices.Equal(got, c.want) {
			t.Errorf("Greedy of %+v is %v, want %v", c.s, got, c.want)
		}
	}
}

// ownGreedy returns the same plan, by a search of the jobs and the days.
func (s site) ownGreedy() []strength.Slot {
	left := make(map[int]strength.Job)
	for i, job := range s.jobs {
		left[i] = job
	}
	last := make([]int, s.crews) // the last day of the last job of each crew
	for crew := range last {
		last[crew] = -1
	}
	var plan []strength.Slot
	for len(left) > 0 {
		best := -1
		for i, job := range s.jobs {
			if _, is := left[i]; is && (best < 0 || frac(job.Risk, job.Days).Cmp(frac(s.jobs[best].Risk, s.jobs[best].Days)) > 0) {
				best = i
			}
		}
		delete(left, best)
		if slot, is := s.first(best, last); is {
			plan = append(plan, slot)
			last[slot.Crew] = slot.Start + s.jobs[best].Days - 1
		}
	}
	return plan
}

// first returns the first slot in which a job can be done.
func (s site) first(i int, last []int) (strength.Slot, bool) {
	job := s.jobs[i]
	for start := job.Ready; start+job.Days <= min(job.Due, s.days); start++ {
		for crew := range last {
			if last[crew] < start {
				return strength.Slot{Job: i, Crew: crew, Start: start}, true
			}
		}
	}
	return strength.Slot{}, false
}

func TestP9_8Greedy(t *testing.T) {
	d := newDice(52)
	for range 1000 {
		s := d.site(d.from(0, 24), d.from(1, 4), d.from(0, 365))
		plan := s.greedy(t)
		if want := s.ownGreedy(); !slices.Equal(plan, want) {
			t.Fatalf("Greedy of %+v is %v, want %v", s, plan, want)
		}
		want, wrong := s.ownLeft(plan)
		if got, e := strength.Left(s.jobs, s.crews, s.days, plan); got != want || e != api.OK || wrong != api.OK {
			t.Fatalf("Left of %+v with the plan %v: %d %v, want %d %v", s, plan, got, e, want, wrong)
		}
	}
}

// bound returns a risk that each plan leaves.
func (s site) bound(t *testing.T, price dyad.Num) dyad.Num {
	t.Helper()
	return must[dyad.Num](t)(strength.Bound(s.jobs, s.crews, s.days, price))
}

// ownBound returns the same risk.
func (s site) ownBound(price *big.Rat) *big.Rat {
	zero, bound := new(big.Rat), new(big.Rat)
	for _, job := range s.jobs {
		bound = sum(bound, frac(job.Risk, 1))
		if more := less(frac(job.Risk, 1), product(frac(job.Days, 1), price)); more.Cmp(zero) > 0 {
			bound = less(bound, more)
		}
	}
	bound = less(bound, product(frac(s.crews*s.days, 1), price))
	if bound.Cmp(zero) < 0 {
		return zero
	}
	return bound
}

func TestP9_1Bound(t *testing.T) {
	for _, c := range []struct {
		s           site
		price, want string
	}{
		{site{three(), 1, 3}, "2", "4"},
		{site{three(), 1, 3}, "0", "0"},
		{site{three(), 1, 3}, "3", "4"},
		{site{three(), 1, 3}, "5/2", "4"}, // 13 - 15/2 - 1 - 0 - 1/2
		{site{three(), 1, 3}, "1", "2"},   // 13 - 3 - 4 - 2 - 2 = 2
		{site{three(), 1, 3}, "4", "1"},   // 13 - 12
		{site{three(), 1, 3}, "5", "0"},
		{site{three(), 2, 3}, "2", "0"}, // it would be 13 - 12 - 2 - 1
		{site{three(), 1, 0}, "3", "13"},
		{site{three(), 1, 0}, "9", "13"},
		{site{nil, 1, 3}, "1", "0"},
		{site{nil, 1, 3}, "0", "0"},
	} {
		if got := c.s.bound(t, num(c.price)); got.Text() != c.want {
			t.Errorf("Bound of %+v with the price %s is %s, want %s", c.s, c.price, got.Text(), c.want)
		}
	}
	if got := (site{three(), 1, 3}).bound(t, great()); got.Text() != "0" {
		t.Errorf("Bound with a great price is %s", got.Text())
	}
	for _, price := range []dyad.Num{num("-1"), unit(256).Neg(), great().Neg()} {
		if got, e := strength.Bound(three(), 1, 3, price); e != api.ErrArg || got.Sign() != 0 {
			t.Errorf("Bound with the price %s: %s %v", price.Text(), got.Text(), e)
		}
	}
	d := newDice(53)
	for range 1000 {
		s := d.site(d.from(0, 24), d.from(1, 4), d.from(0, 365))
		price, _ := dyad.New(d.Int64N(1<<d.from(0, 14)), d.from(0, 8))
		if got := s.bound(t, price); rat(got).Cmp(s.ownBound(rat(price))) != 0 {
			t.Fatalf("Bound of %+v with the price %s is %s", s, price.Text(), got.Text())
		}
	}
}

// price returns a price with a great bound.
func (s site) price(t *testing.T, k int) dyad.Num {
	t.Helper()
	return must[dyad.Num](t)(strength.Price(s.jobs, s.crews, s.days, k))
}

// ownPrice returns the same price.
func (s site) ownPrice(k int) *big.Rat {
	prices := []*big.Rat{new(big.Rat)}
	for _, job := range s.jobs {
		prices = append(prices, floor(frac(job.Risk, job.Days), k))
	}
	slices.SortFunc(prices, (*big.Rat).Cmp)
	best := prices[0]
	for _, price := range prices {
		if s.ownBound(price).Cmp(s.ownBound(best)) > 0 {
			best = price
		}
	}
	return best
}

func TestP9_1Price(t *testing.T) {
	for _, c := range []struct {
		s    site
		want string
	}{
		{site{three(), 1, 3}, "2"}, // 2 and 3 have the same bound
		{site{[]strength.Job{{3, 1, 0, 3}, {4, 2, 0, 3}, {6, 2, 0, 3}}, 1, 3}, "2"},
		{site{three(), 4, 3}, "0"}, // there are days enough
		{site{three(), 1, 0}, "3"}, // with the price 2 two jobs would still take something away
		{site{nil, 1, 3}, "0"},
		{site{[]strength.Job{anyDay(0, 1)}, 1, 3}, "0"},
		{site{[]strength.Job{anyDay(5, 1)}, 1, 0}, "5"},
	} {
		if got := c.s.price(t, 20); got.Text() != c.want {
			t.Errorf("Price of %+v is %s, want %s", c.s, got.Text(), c.want)
		}
	}
	d := newDice(54)
	for range 500 {
		s, k := d.site(d.from(0, 24), d.from(1, 4), d.from(0, 60)), d.from(0, 70)
		if got := s.price(t, k); rat(got).Cmp(s.ownPrice(bits(k))) != 0 {
			t.Fatalf("Price of %+v with %d bits is %s, want %v", s, k, got.Text(), s.ownPrice(bits(k)))
		}
	}
	checkBits(t, "Price", func(k int) string { return (site{[]strength.Job{anyDay(6, 7)}, 1, 0}).price(t, k).Text() })
}

// leastLeft returns the least risk that a plan leaves, of all plans that go on with this one, by jobs from next on.
func (s site) leastLeft(plan []strength.Slot, next int) int {
	best, e := strength.Left(s.jobs, s.crews, s.days, plan)
	if e != api.OK {
		return math.MaxInt
	}
	for job := next; job < len(s.jobs); job++ {
		for crew := range s.crews {
			for start := range s.days {
				best = min(best, s.leastLeft(append(plan, strength.Slot{Job: job, Crew: crew, Start: start}), job+1))
			}
		}
	}
	return best
}

func TestP9_8Bounds(t *testing.T) {
	d := newDice(55)
	reached := 0
	for range 60 {
		s := d.site(d.from(1, 4), d.from(1, 2), d.from(0, 4))
		best := s.leastLeft(nil, 0)
		if greedy := s.left(t, s.greedy(t)...); greedy < best {
			t.Fatalf("Greedy of %+v leaves %d, but the best plan %d", s, greedy, best)
		}
		prices := []dyad.Num{num("0"), s.price(t, 20), great(), unit(9)}
		for range 20 {
			prices = append(prices, d.number())
		}
		for _, job := range s.jobs {
			price, _ := dyad.Quo(dyad.Int(int64(job.Risk)), dyad.Int(int64(job.Days)), 20)
			prices = append(prices, price.Lo(), price.Hi())
		}
		for _, price := range prices {
			if bound := s.bound(t, price); bound.Cmp(dyad.Int(int64(best))) > 0 || bound.Sign() < 0 {
				t.Fatalf("Bound of %+v with the price %s is %s, but a plan leaves %d", s, price.Text(), bound.Text(), best)
			}
		}
		if s.bound(t, s.price(t, 20)).Cmp(dyad.Int(int64(best))) == 0 {
			reached++
		}
	}
	if reached < 5 {
		t.Errorf("only %d bounds are reached by a plan", reached)
	}
}

func TestP9_8More(t *testing.T) {
	d := newDice(56)
	for range 1000 {
		s := d.site(d.from(0, 24), d.from(1, 4), d.from(0, 365))
		price, _ := dyad.New(d.Int64N(1<<d.from(0, 14)), d.from(0, 8))
		more := s
		more.crews, more.days = d.from(s.crews, 4), d.from(s.days, 365)
		a, b := s.bound(t, price), more.bound(t, price)
		if b.Cmp(a) > 0 {
			t.Fatalf("Bound of %+v with the price %s is %s, with %d crews and %d days %s", s, price.Text(), a.Text(), more.crews, more.days, b.Text())
		}
		if greedy := dyad.Int(int64(s.left(t, s.greedy(t)...))); a.Cmp(greedy) > 0 {
			t.Fatalf("Bound of %+v with the price %s is %s, but a plan leaves %s", s, price.Text(), a.Text(), greedy.Text())
		}
	}
}
