package drive

import (
	"wallgauge/api"
	"wallgauge/dyad"
)

// corners has, for each of the polynomials that decide about the stability of a box, which end each coefficient has: l the lower, u the upper one. They come again from the fifth coefficient on.
var corners = [...]string{"lluu", "uull", "luul", "ullu"}

// What Margin looks for.
const (
	maxMargin     = 1024
	maxMarginBits = 20
)

// Loop returns the polynomial of a closed loop.
func Loop(plant, under, control, below []dyad.Num) ([]dyad.Num, api.Errno) {
	// All errors of polynomials and their products are ErrSize, so it does not show which one comes first.
	open, e := dyad.Times(under, below)
	if e != api.OK {
		return nil, e
	}
	fed, e := dyad.Times(plant, control)
	if e != api.OK {
		return nil, e
	}
	return dyad.Plus(open, fed)
}

// Corners returns the four polynomials of a box that decide about its stability.
func Corners(box []dyad.Span) ([4][]dyad.Num, api.Errno) {
	if e := checkBox(box); e != api.OK {
		return [4][]dyad.Num{}, e
	}
	var out [4][]dyad.Num
	for i, word := range corners {
		for n, s := range box {
			end := s.Lo()
			if word[n%len(word)] == 'u' {
				end = s.Hi()
			}
			out[i] = append(out[i], end)
		}
	}
	return out, api.OK
}

// Stable reports whether all polynomials of a box are stable, and otherwise the first of the four that is not.
func Stable(box []dyad.Span) (bool, int, api.Errno) {
	four, e := Corners(box)
	if e != api.OK {
		return false, 0, e
	}
	for i, p := range four {
		// The last coefficient is not 0, so p is not the polynomial 0.
		if stable, _ := dyad.Hurwitz(p); !stable {
			return false, i, api.OK
		}
	}
	return true, -1, api.OK
}

// Moved returns a polynomial whose zeros are greater by a number.
func Moved(p []dyad.Num, by dyad.Num) ([]dyad.Num, api.Errno) {
	// Layer 1 tells the error of a polynomial with each value of it.
	if _, e := dyad.At(p, dyad.Num{}); e != api.OK {
		return nil, e
	}
	shift := []dyad.Num{by.Neg(), dyad.Int(1)}
	out := []dyad.Num{{}}
	for i := range p {
		// The degree is at most that of p at the end, and less before, so there is no error.
		product, _ := dyad.Times(out, shift)
		out, _ = dyad.Plus(product, []dyad.Num{p[len(p)-1-i]})
	}
	return out, api.OK
}

// Margin encloses how far the zeros of a stable polynomial are from the right half.
func Margin(p []dyad.Num, k int) (dyad.Span, api.Errno) {
	stable, e := dyad.Hurwitz(p)
	if e != api.OK {
		return dyad.Span{}, e
	}
	if !stable {
		return dyad.Span{}, api.ErrNone
	}
	k = clampBits(k, maxMarginBits)
	unit, _ := dyad.New(1, k)
	still := func(u dyad.Num) bool {
		moved, _ := Moved(p, u)
		stable, _ := dyad.Hurwitz(moved)
		return stable
	}
	// The greatest margin itself is one of the multiples below the end.
	return lastStep(dyad.Num{}, dyad.Int(maxMargin).Add(unit), k, still), api.OK
}
