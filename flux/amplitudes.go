package flux

import (
	"iter"

	"wallgauge/api"
	"wallgauge/dyad"
)

// amplitude is the quotient of a loss and the reference loss, which is above 0.
type amplitude struct{ loss, full dyad.Num }

// amplitudeOf returns the amplitude of a finite reading.
func amplitudeOf(v float32, r Reading) amplitude {
	zero := exact(r.Zero)
	a := amplitude{exact(v).Sub(zero), exact(r.Full).Sub(zero)}
	if a.full.Sign() < 0 {
		return amplitude{a.loss.Neg(), a.full.Neg()}
	}
	return a
}

// above tells whether a is above b.
func (a amplitude) above(b amplitude) bool { return a.loss.Mul(b.full).Cmp(b.loss.Mul(a.full)) > 0 }

// Equal returns the amplitude of a reading, as a part of the reference loss.
func Equal(v float32, r Reading, k int) (dyad.Span, api.Errno) {
	if !isFinite(v) {
		return dyad.Span{}, api.ErrArg
	}
	if e := checkReading(r); e != api.OK {
		return dyad.Span{}, e
	}
	a := amplitudeOf(v, r)
	return dyad.Quo(a.loss, a.full, k)
}

// Marks returns which readings reach a part of the reference loss.
func Marks(rings [][]float32, l []Reading, dead []bool, part dyad.Num) ([][]bool, api.Errno) {
	if e := checkReadings(rings, l, dead); e != api.OK {
		return nil, e
	}
	marks := make([][]bool, len(rings))
	for i := range marks {
		marks[i] = make([]bool, len(l))
	}
	for sensor, r := range l {
		marked := reaching(r, part)
		for i, ring := range rings {
			marks[i][sensor] = counts(ring, dead, sensor) && marked(ring[sensor])
		}
	}
	return marks, api.OK
}

// reaching returns what tells whether the amplitude of a finite reading is at least part.
func reaching(r Reading, part dyad.Num) func(v float32) bool {
	zero := exact(r.Zero)
	rise := exact(r.Full).Sub(zero)
	least := zero.Add(part.Mul(rise))
	// Where the readings fall with the loss, those that reach the part are the lower ones.
	return func(v float32) bool { return exact(v).Cmp(least)*rise.Sign() >= 0 }
}

// Peak returns the greatest amplitude of the readings of a spot, and its ring and sensor.
func Peak(rings [][]float32, l []Reading, dead []bool, s Spot, k int) (peak dyad.Span, ring, sensor int, e api.Errno) {
	if e := checkReadings(rings, l, dead); e != api.OK {
		return dyad.Span{}, 0, 0, e
	}
	if e := checkSpot(s, len(rings), len(l)); e != api.OK {
		return dyad.Span{}, 0, 0, e
	}
	var best amplitude
	found := false
	for i, readings := range within(rings, s) {
		for at, v := range readings {
			if !has(s.Sensors, at) || !counts(readings, dead, at) {
				continue
			}
			if a := amplitudeOf(v, l[at]); !found || a.above(best) {
				best, ring, sensor, found = a, i, at, true
			}
		}
	}
	if !found {
		return dyad.Span{}, 0, 0, api.ErrDead
	}
	peak, e = dyad.Quo(best.loss, best.full, k)
	return peak, ring, sensor, e
}

// within goes through the rings of a spot, each with its number.
func within(rings [][]float32, s Spot) iter.Seq2[int, []float32] {
	return func(yield func(i int, ring []float32) bool) {
		for i := s.First; i <= s.Last; i++ {
			if !yield(i, rings[i]) {
				return
			}
		}
	}
}

// counts tells whether the reading of a sensor is finite, and the sensor not dead.
func counts(ring []float32, dead []bool, sensor int) bool {
	return !dead[sensor] && isFinite(ring[sensor])
}

// checkReadings returns the error of rings, of the references of their sensors, or of the list of the dead ones.
func checkReadings(rings [][]float32, l []Reading, dead []bool) api.Errno {
	if e := Check(rings); e != api.OK {
		return e
	}
	sensors := len(rings[0])
	if len(l) != sensors {
		return api.ErrSize
	}
	for _, r := range l {
		if e := checkReading(r); e != api.OK {
			return e
		}
	}
	return checkDead(dead, sensors)
}
