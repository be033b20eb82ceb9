package echo

import (
	"wallgauge/api"
	"wallgauge/dyad"
)

// Way returns how long a way is that sound goes there and back between two samples.
func Way(from, to int, tick dyad.Num, speed dyad.Span, k int) (dyad.Span, api.Errno) {
	switch {
	case !isSample(from) || !isSample(to):
		return dyad.Span{}, api.ErrArg
	case from > to:
		return dyad.Span{}, api.ErrOrder
	case tick.Sign() <= 0 || speed.Lo().Sign() <= 0:
		return dyad.Span{}, api.ErrArg
	}
	ticks, _ := dyad.Make(dyad.Int(int64(max(to-from-1, 0))), dyad.Int(int64(to-from+1)))
	half, _ := dyad.New(1, 1)
	return ticks.Mul(dyad.Only(tick)).Mul(speed).Mul(dyad.Only(half)).Round(k), api.OK
}

// Wall returns the stand-off and the wall of a block.
func Wall(arrivals []int, tick dyad.Num, water, steel dyad.Span, k int) (standoff, wall dyad.Span, e api.Errno) {
	switch {
	case len(arrivals) > api.MaxEchoes:
		return dyad.Span{}, dyad.Span{}, api.ErrSize
	case len(arrivals) < 2:
		return dyad.Span{}, dyad.Span{}, api.ErrDark
	}
	standoff, e = Way(0, arrivals[0], tick, water, k)
	if e != api.OK {
		return dyad.Span{}, dyad.Span{}, e
	}
	wall, e = Way(arrivals[0], arrivals[1], tick, steel, k)
	if e != api.OK {
		return dyad.Span{}, dyad.Span{}, e
	}
	return standoff, wall, api.OK
}

// Lost returns how much of a wall is lost.
func Lost(nominal dyad.Num, wall dyad.Span) (dyad.Span, api.Errno) {
	if nominal.Sign() <= 0 || wall.Lo().Sign() < 0 {
		return dyad.Span{}, api.ErrArg
	}
	rest := dyad.Only(nominal).Sub(wall)
	return dyad.Make(notBelowZero(rest.Lo()), notBelowZero(rest.Hi()))
}

// notBelowZero returns x, or 0 where x is below 0: nothing is lost of a wall thicker than the nominal one.
func notBelowZero(x dyad.Num) dyad.Num {
	if x.Sign() < 0 {
		return dyad.Num{}
	}
	return x
}

// Scan tells which blocks were inspected.
func Scan(blocks [][]complex64, pulse []complex64, level dyad.Num, apart int) (Count, api.Errno) {
	if len(blocks) > api.MaxEchoes {
		return Count{}, api.ErrSize
	}
	if apart < 1 {
		return Count{}, api.ErrArg
	}
	var count Count
	for i, block := range blocks {
		inspected, e := isInspected(block, pulse, level, apart)
		switch {
		case e != api.OK:
			return Count{}, e
		case inspected:
			count.Inspected++
		default:
			count.Lost = append(count.Lost, i)
		}
	}
	return count, api.OK
}

// isInspected tells whether a block has the echoes of both sides of the wall.
func isInspected(block, pulse []complex64, level dyad.Num, apart int) (bool, api.Errno) {
	filtered, e := Filter(block, pulse)
	if e != api.OK {
		return false, e
	}
	// Filter has no more elements than the block.
	envelope, _ := Envelope(filtered)
	arrivals, e := Arrivals(envelope, level, apart)
	if e == api.ErrFull {
		return true, api.OK
	}
	return len(arrivals) >= 2, e
}
