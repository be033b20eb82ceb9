package line

import (
	"wallgauge/api"
	"wallgauge/dyad"
)

// yields has the yield strength of each grade, in kilopascals.
var yields = [...]int{290000, 317000, 359000, 386000, 414000, 448000, 483000, 552000}

// factors has, for the classes from 1 on, how many hundredths of the yield strength are allowed.
var factors = [...]int{72, 60, 50, 40}

// Yield returns the yield strength of a grade, in kilopascals.
func Yield(grade int) (int, api.Errno) {
	if !between(grade, 0, len(yields)-1) {
		return 0, api.ErrGrade
	}
	return yields[grade], api.OK
}

// Allowed returns the pressure that an item may have in a class.
func Allowed(x Item, class, k int) (dyad.Span, api.Errno) {
	if e := checkItem(x); e != api.OK {
		return dyad.Span{}, e
	}
	if !between(class, 1, len(factors)) {
		return dyad.Span{}, api.ErrArg
	}
	above, below := allowed(x, class)
	return dyad.Quo(dyad.Int(int64(above)), dyad.Int(int64(below)), k)
}

// allowed returns the pressure that an item without an error may have in a class, as a fraction.
func allowed(x Item, class int) (above, below int) {
	return 2 * x.Wall * yields[x.Grade] * factors[class-1], 100 * x.Outer
}

// Weak returns the sections whose limit is above the pressure that is allowed.
func Weak(l Line) ([]int, api.Errno) {
	if e := Check(l); e != api.OK {
		return nil, e
	}
	var weak []int
	for i, x := range sectionsOf(l) {
		above, below := allowed(l.Items[x.Item], x.Class)
		// Within the limits of items and pressures both sides are less than 2^49.
		if x.Most*below > above {
			weak = append(weak, i)
		}
	}
	return weak, api.OK
}
