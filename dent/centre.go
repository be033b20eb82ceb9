package dent

import (
	"iter"

	"wallgauge/api"
	"wallgauge/dyad"
)

// checkSteps returns the error of steps.
func checkSteps(steps []Vector) api.Errno {
	if len(steps) < 1 || len(steps) > api.MaxPoints {
		return api.ErrSize
	}
	for _, step := range steps {
		if !step.within(maxPart) {
			return api.ErrArg
		}
	}
	return api.OK
}

// checkTies returns the error of ties of a line with so many steps.
func checkTies(ties []Tie, steps int) api.Errno {
	if len(ties) < 1 || len(ties) > api.MaxTies {
		return api.ErrSize
	}
	ahead := 0
	for _, tie := range ties {
		switch {
		case tie.Step < 1 || tie.Step > steps || !tie.At.within(maxPlace):
			return api.ErrArg
		case tie.Step <= ahead:
			return api.ErrOrder
		}
		ahead = tie.Step
	}
	return api.OK
}

// Line returns the places behind each step.
func Line(steps []Vector) ([]Vector, api.Errno) {
	if e := checkSteps(steps); e != api.OK {
		return nil, e
	}
	line := make([]Vector, len(steps)+1)
	for n, at := range places(steps) {
		line[n] = at
	}
	return line, api.OK
}

// places goes through the places of a line, from its beginning on, each with the number of steps to it.
func places(steps []Vector) iter.Seq2[int, Vector] {
	return func(yield func(n int, at Vector) bool) {
		var at Vector
		for n, step := range steps {
			if !yield(n, at) {
				return
			}
			at = at.plus(step)
		}
		yield(len(steps), at)
	}
}

// Miss returns by how much a line misses its ties.
func Miss(steps []Vector, ties []Tie) ([]Vector, api.Errno) {
	line, e := Line(steps)
	if e != api.OK {
		return nil, e
	}
	if e := checkTies(ties, len(steps)); e != api.OK {
		return nil, e
	}
	misses := make([]Vector, len(ties))
	for i, tie := range ties {
		misses[i] = tie.At.minus(line[tie.Step])
	}
	return misses, api.OK
}

// Drift returns the drift of each step that explains the misses best.
func Drift(steps []Vector, ties []Tie) (Place, api.Errno) {
	misses, e := Miss(steps, ties)
	if e != api.OK {
		return Place{}, e
	}
	sum := func(of func(step int, miss Vector) int) int {
		total := 0
		for i, tie := range ties {
			total += of(tie.Step, misses[i])
		}
		return total
	}
	missed := Vector{
		X: sum(func(step int, miss Vector) int { return step * miss.X }),
		Y: sum(func(step int, miss Vector) int { return step * miss.Y }),
		Z: sum(func(step int, miss Vector) int { return step * miss.Z }),
	}
	return missed.over(sum(func(step int, _ Vector) int { return step * step })), api.OK
}

// shift is by how much a line is moved behind some steps.
type shift struct {
	step int
	by   Vector
}

// Closed returns the places of a line that goes through its ties.
func Closed(steps []Vector, ties []Tie) ([]Place, api.Errno) {
	misses, e := Miss(steps, ties)
	if e != api.OK {
		return nil, e
	}
	shifts := make([]shift, 1, len(ties)+1) // the beginning is not moved
	for i, tie := range ties {
		ahead, next := shifts[i], shift{tie.Step, misses[i]}
		if !next.by.minus(ahead.by).within((next.step - ahead.step) * maxDrift) {
			return nil, api.ErrClosed
		}
		shifts = append(shifts, next)
	}
	closed := make([]Place, len(steps)+1)
	for n, at := range places(steps) {
		closed[n] = moved(at, n, shifts)
	}
	return closed, api.OK
}

// moved returns where the place behind n steps is moved to. The shifts are in the order of their steps, from 0 on.
func moved(at Vector, n int, shifts []shift) Place {
	ahead := shifts[0]
	for _, next := range shifts[1:] {
		if n <= next.step {
			between := next.step - ahead.step
			more := next.by.minus(ahead.by).times(n - ahead.step)
			return at.plus(ahead.by).times(between).plus(more).over(between)
		}
		ahead = next
	}
	return at.plus(ahead.by).over(1)
}

// Turn returns the square of the sine of the angle between two steps.
func Turn(a, b Vector, k int) (dyad.Span, api.Errno) {
	if !a.within(maxPart) || !b.within(maxPart) {
		return dyad.Span{}, api.ErrArg
	}
	crossed, lengths := sine(a, b)
	return dyad.Quo(crossed, lengths, k)
}

// sine returns the dividend and the divisor of the square of the sine of the angle between two steps. The divisor is 0 if a step has no length.
func sine(a, b Vector) (crossed, lengths dyad.Num) {
	return a.cross(b).square(), a.square().Mul(b.square())
}

// Bent returns the square of the bending strain at the joint of two steps.
func Bent(a, b Vector, outer, step, k int) (dyad.Span, api.Errno) {
	if !a.within(maxPart) || !b.within(maxPart) || !isLength(outer) || !isLength(step) {
		return dyad.Span{}, api.ErrArg
	}
	crossed, lengths := sine(a, b)
	return dyad.Quo(crossed.Mul(number(outer*outer)), lengths.Mul(number(4*step*step)), k)
}
