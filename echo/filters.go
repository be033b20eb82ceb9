package echo

import (
	"iter"

	"wallgauge/api"
	"wallgauge/dyad"
)

// Filter returns what a pulse and a block have in common at each delay.
func Filter(block, pulse []complex64) ([]dyad.Cnum, api.Errno) {
	samples, e := exact(block, api.MaxBlock)
	if e != api.OK {
		return nil, e
	}
	pattern, e := exact(pulse, api.MaxPulse)
	if e != api.OK {
		return nil, e
	}
	if len(pattern) > len(samples) {
		return nil, api.ErrNone
	}
	filtered := make([]dyad.Cnum, len(samples)-len(pattern)+1)
	for delay, window := range windows(samples, len(pattern)) {
		// A window has as many samples as the pulse, so there is no error.
		filtered[delay], _ = dyad.Dot(window, pattern)
	}
	return filtered, api.OK
}

// exact returns the values of the samples of a block or a pulse, which may have at most so many, or its error.
func exact(samples []complex64, most int) ([]dyad.Cnum, api.Errno) {
	if len(samples) < 1 || len(samples) > most {
		return nil, api.ErrSize
	}
	values := make([]dyad.Cnum, len(samples))
	for i, c := range samples {
		x, e := dyad.Complex(c)
		if e != api.OK {
			return nil, e
		}
		values[i] = x
	}
	return values, api.OK
}

// windows goes through the delays of a pulse that is not longer than the block, each with the samples that the pulse meets then.
func windows(block []dyad.Cnum, pulse int) iter.Seq2[int, []dyad.Cnum] {
	return func(yield func(delay int, window []dyad.Cnum) bool) {
		for delay := range len(block) - pulse + 1 {
			if !yield(delay, block[delay:delay+pulse]) {
				return
			}
		}
	}
}

// Envelope returns the squares of amplitudes.
func Envelope(l []dyad.Cnum) ([]dyad.Num, api.Errno) { return each(l, dyad.Cnum.Norm) }

// Report returns amplitudes as floats.
func Report(l []dyad.Cnum) ([]complex64, api.Errno) { return each(l, dyad.Cnum.Near64) }

// each returns what something is of each element, of which a block has no more than its samples.
func each[T any](l []dyad.Cnum, of func(x dyad.Cnum) T) ([]T, api.Errno) {
	if len(l) > api.MaxBlock {
		return nil, api.ErrSize
	}
	out := make([]T, len(l))
	for i, x := range l {
		out[i] = of(x)
	}
	return out, api.OK
}
