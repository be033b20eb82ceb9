package strength

import (
	"cmp"

	"wallgauge/api"
	"wallgauge/dyad"
)

// checkJobs returns the error of jobs.
func checkJobs(jobs []Job, crews, days int) api.Errno {
	if len(jobs) > api.MaxFindings {
		return api.ErrSize
	}
	if !isWithin(crews, 1, api.MaxCrews) || !isWithin(days, 0, maxDays) {
		return api.ErrArg
	}
	for _, j := range jobs {
		if !isWithin(j.Risk, 0, maxRisk) || !isWithin(j.Days, 1, maxDays) || !isWithin(j.Ready, 0, maxDays) || !isWithin(j.Due, 0, maxDays) {
			return api.ErrArg
		}
	}
	return api.OK
}

// Left returns the risk that a plan leaves.
func Left(jobs []Job, crews, days int, plan []Slot) (int, api.Errno) {
	if e := checkJobs(jobs, crews, days); e != api.OK {
		return 0, e
	}
	left := risk(jobs)
	for i, s := range plan {
		if !isIndex(s.Job, len(jobs)) || !isIndex(s.Crew, crews) || !isWithin(s.Start, 0, days) {
			return 0, api.ErrArg
		}
		if e := checkSlot(jobs, days, plan[:i], s); e != api.OK {
			return 0, e
		}
		left -= jobs[s.Job].Risk
	}
	return left, api.OK
}

// risk returns the risk of all jobs.
func risk(jobs []Job) int {
	sum := 0
	for _, j := range jobs {
		sum += j.Risk
	}
	return sum
}

// checkSlot returns the error of a slot whose numbers are valid, behind slots without an error.
func checkSlot(jobs []Job, days int, ahead []Slot, s Slot) api.Errno {
	job := jobs[s.Job]
	for _, other := range ahead {
		if other.Job == s.Job {
			return api.ErrTwice
		}
	}
	if s.Start < job.Ready || s.Start+job.Days > job.end(days) {
		return api.ErrPermit
	}
	for _, other := range ahead {
		if other.Crew == s.Crew && s.Start < other.Start+jobs[other.Job].Days && other.Start < s.Start+job.Days {
			return api.ErrOrder
		}
	}
	return api.OK
}

// end returns by when a job must be done, if a plan has so many days.
func (j Job) end(days int) int { return min(j.Due, days) }

// Greedy returns a plan that takes the jobs by the risk that they take away in a day.
func Greedy(jobs []Job, crews, days int) ([]Slot, api.Errno) {
	if e := checkJobs(jobs, crews, days); e != api.OK {
		return nil, e
	}
	// Days are above 0, so these products compare Risk/Days without a division.
	byRisk := func(a, b int) int { return cmp.Compare(jobs[b].Risk*jobs[a].Days, jobs[a].Risk*jobs[b].Days) }
	free := make([]int, crews)
	var plan []Slot
	for _, i := range ordered(len(jobs), byRisk) {
		crew, start := soonest(free, jobs[i].Ready)
		if start+jobs[i].Days <= jobs[i].end(days) {
			plan = append(plan, Slot{i, crew, start})
			free[crew] = start + jobs[i].Days
		}
	}
	return plan, api.OK
}

// soonest returns the crew that can begin a job first, and when, by the days from which on the crews are free. There is a crew.
func soonest(free []int, ready int) (crew, start int) {
	start = max(free[0], ready)
	for i, day := range free {
		if max(day, ready) < start {
			crew, start = i, max(day, ready)
		}
	}
	return crew, start
}

// Bound returns a risk that each plan leaves, by a price of a crew's day.
func Bound(jobs []Job, crews, days int, price dyad.Num) (dyad.Num, api.Errno) {
	if e := checkJobs(jobs, crews, days); e != api.OK {
		return dyad.Num{}, e
	}
	if price.Sign() < 0 {
		return dyad.Num{}, api.ErrArg
	}
	return bound(jobs, crews, days, price), api.OK
}

// bound returns a risk that each plan leaves, by a price that is not below 0.
func bound(jobs []Job, crews, days int, price dyad.Num) dyad.Num {
	left := number(risk(jobs)).Sub(price.Mul(number(crews * days)))
	for _, j := range jobs {
		left = left.Sub(positive(number(j.Risk).Sub(price.Mul(number(j.Days)))))
	}
	return positive(left)
}

// positive returns x, or 0 if x is below 0.
func positive(x dyad.Num) dyad.Num {
	if x.Sign() < 0 {
		return dyad.Num{}
	}
	return x
}

// Price returns a price with a great bound.
func Price(jobs []Job, crews, days, k int) (dyad.Num, api.Errno) {
	if e := checkJobs(jobs, crews, days); e != api.OK {
		return dyad.Num{}, e
	}
	var best dyad.Num
	most := bound(jobs, crews, days, best)
	for _, j := range jobs {
		price := quotient(number(j.Risk), number(j.Days), bits(k)).Lo()
		left := bound(jobs, crews, days, price)
		if c := left.Cmp(most); c > 0 || c == 0 && price.Cmp(best) < 0 {
			best, most = price, left
		}
	}
	return best, api.OK
}
