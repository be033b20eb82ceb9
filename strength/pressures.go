package strength

import (
	"slices"

	"wallgauge/api"
	"wallgauge/dyad"
)

// CheckPipe returns the error of a pipe.
func CheckPipe(p Pipe) api.Errno {
	if !isWithin(p.Diameter, leastDiameter, mostDiameter) || !isWithin(p.Wall, leastWall, mostWall) || !isWithin(p.Flow, 1, maxFlow) {
		return api.ErrArg
	}
	return api.OK
}

// Bulge returns the factor by which a long defect bulges.
func Bulge(p Pipe, length, k int) (dyad.Span, api.Errno) {
	if e := CheckPipe(p); e != api.OK {
		return dyad.Span{}, e
	}
	if !isWithin(length, 1, maxLong) {
		return dyad.Span{}, api.ErrArg
	}
	return p.bulge(length, bits(k)), api.OK
}

// bulge returns the factor by which a defect of such a length bulges. It is at least 1.
func (p Pipe) bulge(length, k int) dyad.Span {
	a, b := number(1000*length*length), number(p.Diameter*p.Wall)
	if a.Cmp(b.Mul(number(50))) > 0 {
		return quotient(a.Mul(number(32)).Add(b.Mul(number(3300))), b.Mul(number(1000)), k)
	}
	whole := b.Mul(b).Mul(number(8000))
	above := whole.Add(a.Mul(b).Mul(number(5020))).Sub(a.Mul(a).Mul(number(27)))
	factor, _ := quotient(above, whole, k).Root(k)
	return factor
}

// checkLoss returns the first error of a pipe and a profile of its metal loss.
func checkLoss(p Pipe, l []Step) api.Errno {
	if e := CheckPipe(p); e != api.OK {
		return e
	}
	if e := checkProfile(l); e != api.OK {
		return e
	}
	if slices.ContainsFunc(l, func(s Step) bool { return 100*s.Depth > 99*p.Wall }) {
		return api.ErrBurst
	}
	return api.OK
}

// Failure returns the pressure at which a part of a profile fails.
func Failure(p Pipe, l []Step, first, last, k int) (dyad.Span, api.Errno) {
	if e := checkLoss(p, l); e != api.OK {
		return dyad.Span{}, e
	}
	if !isIndex(last, len(l)) || !isWithin(first, 0, last) {
		return dyad.Span{}, api.ErrArg
	}
	return p.failure(l[first:last+1], bits(k)), api.OK
}

// failure returns the pressure at which neighbouring steps fail.
func (p Pipe) failure(l []Step, k int) dyad.Span {
	sum := 0
	for _, s := range l {
		sum += s.Depth * (s.To - s.From)
	}
	lost := quotient(number(sum), number(p.Wall*extent(l)), k)
	sound := quotient(number(2*p.Flow*p.Wall), number(1000*p.Diameter), k)
	// At least a hundredth of the wall is left, which k bits do not round away, so that nothing is divided by 0.
	bulged := only(1).Sub(divided(lost, p.bulge(extent(l), k), k))
	return divided(sound.Mul(only(1).Sub(lost)), bulged, k)
}

// Least returns the least failure pressure of all parts of a profile, and the part that has it.
func Least(p Pipe, l []Step, k int) (dyad.Span, [2]int, api.Errno) {
	if e := checkLoss(p, l); e != api.OK {
		return dyad.Span{}, [2]int{}, e
	}
	least, part := p.failure(l[:1], bits(k)), [2]int{}
	for first, last := range parts(len(l)) {
		failure := p.failure(l[first:last+1], bits(k))
		if failure.Lo().Cmp(least.Lo()) < 0 {
			least, part = failure, [2]int{first, last}
		}
	}
	return least, part, api.OK
}
