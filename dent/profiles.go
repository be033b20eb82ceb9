package dent

import (
	"wallgauge/api"
	"wallgauge/dyad"
)

// checkProfile returns the error of a profile.
func checkProfile(l []int) api.Errno {
	if len(l) < 3 || len(l) > api.MaxPoints {
		return api.ErrSize
	}
	for _, y := range l {
		if y < -maxHeight || y > maxHeight {
			return api.ErrArg
		}
	}
	return api.OK
}

// checkPiece returns the error of a profile and of one of its pieces.
func checkPiece(l []int, i int) api.Errno {
	if e := checkProfile(l); e != api.OK {
		return e
	}
	if i < 1 || i > len(l)-2 {
		return api.ErrArg
	}
	return api.OK
}

// checkSteppedPiece returns the error of a profile, of one of its pieces and of its step.
func checkSteppedPiece(l []int, i, step int) api.Errno {
	if e := checkPiece(l, i); e != api.OK {
		return e
	}
	if !isLength(step) {
		return api.ErrArg
	}
	return api.OK
}

// Second returns the second differences of a profile.
func Second(l []int) ([]int, api.Errno) {
	if e := checkProfile(l); e != api.OK {
		return nil, e
	}
	seconds := make([]int, len(l)-2)
	for i := range seconds {
		seconds[i] = l[i] - 2*l[i+1] + l[i+2]
	}
	return seconds, api.OK
}

// Chord returns the greatest depth of a profile below the line through its ends, and where it is.
func Chord(l []int, k int) (depth dyad.Span, at int, e api.Errno) {
	if e := checkProfile(l); e != api.OK {
		return dyad.Span{}, 0, e
	}
	last := len(l) - 1
	// The depths are compared last times as great, since then they are whole numbers.
	deep := func(i int) int { return (l[0]-l[i])*last + (l[last]-l[0])*i }
	at = greatest(len(l), deep)
	depth, e = dyad.Quo(number(deep(at)), number(last), k)
	return depth, at, e
}

// greatest returns the first index from 0 to n - 1 at which something is greatest. n is above 0.
func greatest(n int, of func(i int) int) int {
	at := 0
	for i := range n {
		if of(i) > of(at) {
			at = i
		}
	}
	return at
}

// Piece returns the coefficients of a piece of the smooth profile.
func Piece(l []int, i int) ([3]dyad.Num, api.Errno) {
	if e := checkPiece(l, i); e != api.OK {
		return [3]dyad.Num{}, e
	}
	// One bit behind the point is within the limits of New, so there is no error.
	ahead, _ := dyad.New(int64(l[i-1]+l[i]), 1)
	behind, _ := dyad.New(int64(l[i]+l[i+1]), 1)
	return [3]dyad.Num{ahead, number(l[i]), behind}, api.OK
}

// Value returns the height of the smooth profile in a piece.
func Value(l []int, i int, t dyad.Num) (dyad.Num, api.Errno) {
	c, e := Piece(l, i)
	if e != api.OK {
		return dyad.Num{}, e
	}
	if t.Sign() < 0 || t.Cmp(number(1)) > 0 {
		return dyad.Num{}, api.ErrArg
	}
	// Mixing the mixtures gives each coefficient the weight that the document names.
	mixed := func(x, y dyad.Num) dyad.Num { return x.Add(y.Sub(x).Mul(t)) }
	return mixed(mixed(c[0], c[1]), mixed(c[1], c[2])), api.OK
}

// Slopes returns the span of the slopes of a piece.
func Slopes(l []int, i, step, k int) (dyad.Span, api.Errno) {
	if e := checkSteppedPiece(l, i, step); e != api.OK {
		return dyad.Span{}, e
	}
	// A step is above 0, so there is no error.
	ahead, _ := dyad.Quo(number(l[i]-l[i-1]), number(step), k)
	behind, _ := dyad.Quo(number(l[i+1]-l[i]), number(step), k)
	return ahead.Hull(behind), api.OK
}

// Curve returns the curvature of a piece, enclosed.
func Curve(l []int, i, step, k int) (dyad.Span, api.Errno) {
	if e := checkSteppedPiece(l, i, step); e != api.OK {
		return dyad.Span{}, e
	}
	return curvature(l, i, step, number(1), k), api.OK
}

// curvature encloses the curvature of a piece, multiplied by times, which is not below 0.
func curvature(l []int, i, step int, times dyad.Num, k int) dyad.Span {
	ahead, behind := l[i]-l[i-1], l[i+1]-l[i]
	bend := number(abs(behind - ahead)).Mul(times)
	rise := number(max(abs(ahead), abs(behind)))
	square := number(step).Mul(number(step))
	// With q = rise/step, 1 + q^2 is slant/square: so bend/square, divided by the square of this, is bend square/slant^2.
	slant := square.Add(rise.Mul(rise))
	// A step is above 0, so there is no error.
	least, _ := dyad.Quo(bend.Mul(square), slant.Mul(slant), k)
	most, _ := dyad.Quo(bend, square, k)
	return least.Hull(most)
}

// Strain returns the greatest strain of a profile, enclosed, and the piece that has its bound.
func Strain(l []int, step, wall, k int) (strain dyad.Span, piece int, e api.Errno) {
	seconds, e := Second(l)
	if e != api.OK {
		return dyad.Span{}, 0, e
	}
	if !isLength(step) || !isLength(wall) {
		return dyad.Span{}, 0, api.ErrArg
	}
	piece = 1 + greatest(len(seconds), func(i int) int { return abs(seconds[i]) })
	// One bit behind the point is within the limits of New, so there is no error.
	half, _ := dyad.New(int64(wall), 1)
	return curvature(l, piece, step, half, k), piece, api.OK
}
