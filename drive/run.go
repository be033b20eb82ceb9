package drive

import (
	"wallgauge/api"
	"wallgauge/dyad"
)

// checkStart returns the error of a control, or that of the speed at which it begins.
func checkStart(c Control, speed dyad.Span) api.Errno {
	if e := checkControl(c); e != api.OK {
		return e
	}
	if speed.Lo().Sign() < 0 {
		return api.ErrArg
	}
	return api.OK
}

// Next returns the speed behind a second.
func Next(c Control, speed dyad.Span, valve int, force dyad.Span, k int) (dyad.Span, api.Errno) {
	if e := checkStart(c, speed); e != api.OK {
		return dyad.Span{}, e
	}
	if valve < 0 || valve >= len(c.Pushes) {
		return dyad.Span{}, api.ErrNone
	}
	return next(c, speed, valve, force, k), api.OK
}

// next is Next without errors.
func next(c Control, speed dyad.Span, valve int, force dyad.Span, k int) dyad.Span {
	push := dyad.Only(c.Pushes[valve]).Sub(force)
	free := speed.Add(dyad.Only(c.Gain).Mul(push)).Round(k)
	moving, _ := dyad.Make(notBelowZero(free.Lo()), notBelowZero(free.Hi()))
	return moving
}

// notBelowZero returns x, or 0 where x is below 0: then the tool stands.
func notBelowZero(x dyad.Num) dyad.Num {
	if x.Sign() < 0 {
		return dyad.Num{}
	}
	return x
}

// Choose returns the first step of the valve that keeps the speed within its limits.
func Choose(c Control, speed dyad.Span, force dyad.Span, k int) (int, api.Errno) {
	if e := checkStart(c, speed); e != api.OK {
		return 0, e
	}
	step := choose(c, speed, force, k)
	if step < 0 {
		return 0, api.ErrUnsafe
	}
	return step, api.OK
}

// choose is Choose without errors: it returns -1 if no step is safe.
func choose(c Control, speed, force dyad.Span, k int) int {
	tooSlow := func(s dyad.Span) bool { return s.Lo().Cmp(c.Low) < 0 }
	tooFast := func(s dyad.Span) bool { return s.Hi().Cmp(c.High) > 0 }
steps:
	for i := range c.Pushes {
		behind := next(c, speed, i, force, k)
		for _, unsafe := range [...]func(s dyad.Span) bool{tooSlow, tooFast} {
			if unsafe(behind) {
				continue steps
			}
		}
		return i
	}
	return -1
}

// Run returns the speeds of a run, and the steps of the valve (-1 where none is safe).
func Run(c Control, speed dyad.Span, forces []dyad.Span, k int) ([]dyad.Span, []int, api.Errno) {
	if e := checkStart(c, speed); e != api.OK {
		return nil, nil, e
	}
	if len(forces) > api.MaxSeconds {
		return nil, nil, api.ErrSize
	}
	var speeds []dyad.Span
	var steps []int
	for _, force := range forces {
		step := choose(c, speed, force, k)
		taken := step
		if step < 0 {
			taken = len(c.Pushes) - 1
		}
		speed = next(c, speed, taken, force, k)
		speeds = append(speeds, speed)
		steps = append(steps, step)
	}
	return speeds, steps, api.OK
}
