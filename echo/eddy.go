package echo

import (
	"wallgauge/api"
	"wallgauge/dyad"
)

// Direction returns how an impedance moves with lift-off.
func Direction(a, b complex64) (dyad.Cnum, api.Errno) {
	moved, e := difference(b, a)
	if e != api.OK {
		return dyad.Cnum{}, e
	}
	if moved.Zero() {
		return dyad.Cnum{}, api.ErrNone
	}
	return moved, api.OK
}

// difference returns a - b.
func difference(a, b complex64) (dyad.Cnum, api.Errno) {
	x, e := dyad.Complex(a)
	if e != api.OK {
		return dyad.Cnum{}, e
	}
	y, e := dyad.Complex(b)
	if e != api.OK {
		return dyad.Cnum{}, e
	}
	return x.Sub(y), api.OK
}

// Across returns the part of an impedance that lift-off does not change.
func Across(z, zero complex64, lift dyad.Cnum) (dyad.Num, api.Errno) {
	w, e := turned(z, zero, lift)
	return w.Im(), e
}

// Along returns how far an impedance has moved with lift-off.
func Along(z, zero complex64, lift dyad.Cnum, k int) (dyad.Span, api.Errno) {
	w, e := turned(z, zero, lift)
	if e != api.OK {
		return dyad.Span{}, e
	}
	return dyad.Quo(w.Re(), lift.Norm(), k)
}

// turned returns how far z is from zero, turned so that lift-off changes the real part alone.
func turned(z, zero complex64, lift dyad.Cnum) (dyad.Cnum, api.Errno) {
	moved, e := difference(z, zero)
	if e != api.OK {
		return dyad.Cnum{}, e
	}
	if lift.Zero() {
		return dyad.Cnum{}, api.ErrZero
	}
	return moved.Mul(lift.Conj()), api.OK
}

// Between reports whether a direction lies between two others.
func Between(z, a, b dyad.Cnum) (bool, api.Errno) {
	switch {
	case z.Zero():
		return false, api.ErrZero
	case cross(a, b).Sign() <= 0:
		return false, api.ErrOrder
	}
	return cross(a, z).Sign() >= 0 && cross(z, b).Sign() >= 0, api.OK
}

// cross returns the cross product of two directions: it is above 0 if v lies to the left of u.
func cross(u, v dyad.Cnum) dyad.Num { return v.Mul(u.Conj()).Im() }

// Depth returns the depth for a signal.
func Depth(table []Point, signal dyad.Num, k int) (dyad.Span, api.Errno) {
	if e := checkTable(table); e != api.OK {
		return dyad.Span{}, e
	}
	for i, far := range table[1:] {
		near := table[i]
		if near.Signal.Cmp(signal) <= 0 && signal.Cmp(far.Signal) <= 0 {
			return interpolated(near, far, signal, k), api.OK
		}
	}
	return dyad.Span{}, api.ErrNone
}

// checkTable returns the error of a table.
func checkTable(table []Point) api.Errno {
	if len(table) < 2 || len(table) > api.MaxTable {
		return api.ErrSize
	}
	for i, p := range table[1:] {
		if p.Signal.Cmp(table[i].Signal) <= 0 {
			return api.ErrOrder
		}
	}
	return api.OK
}

// interpolated returns the depth for a signal between those of two points.
func interpolated(near, far Point, signal dyad.Num, k int) dyad.Span {
	rise := far.Depth.Sub(near.Depth).Mul(signal.Sub(near.Signal))
	// The signals of a table ascend, so nothing is divided by 0.
	more, _ := dyad.Quo(rise, far.Signal.Sub(near.Signal), k)
	return dyad.Only(near.Depth).Add(more).Round(k)
}
