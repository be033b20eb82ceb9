package echo

import (
	"slices"

	"wallgauge/api"
	"wallgauge/dyad"
)

// checkEnvelope returns the error of an envelope.
func checkEnvelope(envelope []dyad.Num) api.Errno {
	if len(envelope) < 1 || len(envelope) > api.MaxBlock {
		return api.ErrSize
	}
	for _, x := range envelope {
		if x.Sign() < 0 {
			return api.ErrArg
		}
	}
	return api.OK
}

// checkPart returns the error of an envelope, or that of a part of it.
func checkPart(envelope []dyad.Num, from, to int) api.Errno {
	if e := checkEnvelope(envelope); e != api.OK {
		return e
	}
	if from < 0 || from >= to || to > len(envelope) {
		return api.ErrOrder
	}
	return api.OK
}

// First returns the first sample of a part whose square reaches a level.
func First(envelope []dyad.Num, level dyad.Num, from, to int) (int, api.Errno) {
	if e := checkPart(envelope, from, to); e != api.OK {
		return 0, e
	}
	i := slices.IndexFunc(envelope[from:to], atLeast(level))
	if i < 0 {
		return 0, api.ErrDark
	}
	return from + i, api.OK
}

// Peak returns the first greatest sample of a part.
func Peak(envelope []dyad.Num, from, to int) (Beam, api.Errno) {
	if e := checkPart(envelope, from, to); e != api.OK {
		return Beam{}, e
	}
	peak := Beam{envelope[from], from}
	for i, x := range envelope[from:to] {
		if x.Cmp(peak.Size) > 0 {
			peak = Beam{x, from + i}
		}
	}
	return peak, api.OK
}

// Arrivals returns the samples at which echoes arrive.
func Arrivals(envelope []dyad.Num, level dyad.Num, apart int) ([]int, api.Errno) {
	if e := checkEnvelope(envelope); e != api.OK {
		return nil, e
	}
	if apart < 1 {
		return nil, api.ErrArg
	}
	counts := atLeast(level)
	// A greater distance leads out of the envelope too, but the sum with an index might not fit an int.
	step := min(apart, len(envelope))
	var arrivals []int
search:
	for from := 0; from < len(envelope); {
		i := slices.IndexFunc(envelope[from:], counts)
		switch {
		case i < 0:
			break search
		case len(arrivals) == api.MaxEchoes:
			return nil, api.ErrFull
		}
		arrivals = append(arrivals, from+i)
		from += i + step
	}
	return arrivals, api.OK
}
