package dent

import (
	"slices"

	"wallgauge/api"
	"wallgauge/dyad"
)

// checkRadii returns the error of radii.
func checkRadii(radii []int) api.Errno {
	if len(radii) < 4 || len(radii) > api.MaxRays || len(radii)%2 != 0 {
		return api.ErrSize
	}
	for _, r := range radii {
		if r < 1 || r > maxHeight {
			return api.ErrArg
		}
	}
	return api.OK
}

// Oval returns how oval a ring of radii is.
func Oval(radii []int, k int) (dyad.Span, api.Errno) {
	if e := checkRadii(radii); e != api.OK {
		return dyad.Span{}, e
	}
	across := diameters(radii)
	a, b := slices.Max(across), slices.Min(across)
	return dyad.Quo(number(2*a-2*b), number(a+b), k)
}

// diameters returns the sums of the radii of opposite arms, of which there is an even number.
func diameters(radii []int) []int {
	out := make([]int, len(radii)/2)
	for i := range out {
		out[i] = radii[i] + radii[i+len(out)]
	}
	return out
}

// Middle returns the middle radius of a ring.
func Middle(radii []int) (int, api.Errno) {
	if e := checkRadii(radii); e != api.OK {
		return 0, e
	}
	return slices.Sorted(slices.Values(radii))[(len(radii)-1)/2], api.OK
}

// Dented returns the arms of a ring that are pressed in, and by how much.
func Dented(radii []int, least int) ([][2]int, api.Errno) {
	middle, e := Middle(radii)
	if e != api.OK {
		return nil, e
	}
	if least < 1 {
		return nil, api.ErrArg
	}
	var dents [][2]int
	for arm, r := range radii {
		if middle-r >= least {
			dents = append(dents, [2]int{arm, middle - r})
		}
	}
	return dents, api.OK
}
