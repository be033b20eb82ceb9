package drive

import (
	"wallgauge/api"
	"wallgauge/dyad"
)

// eighths is how far the bypass can be opened; then it is open wholly.
const eighths = 8

// Check returns the error of a tool.
func Check(t Tool) api.Errno {
	if t.Area.Sign() <= 0 || t.Pass.Sign() < 0 {
		return api.ErrArg
	}
	return api.OK
}

// Bypass returns how much flows past a tool.
func Bypass(t Tool, open int, force dyad.Span, k int) (dyad.Span, api.Errno) {
	if e := Check(t); e != api.OK {
		return dyad.Span{}, e
	}
	if open < 0 || open > eighths || force.Lo().Sign() < 0 {
		return dyad.Span{}, api.ErrArg
	}
	// The area is above 0 and the force not below it, so there is a quotient, and it has a root.
	pressure, _ := force.Div(dyad.Only(t.Area), k)
	root, _ := pressure.Root(k)
	part, _ := dyad.Int(int64(open)).Over(dyad.Int(eighths))
	return root.Mul(dyad.Only(t.Pass)).Mul(dyad.Only(part)), api.OK
}

// Speed returns the speed of a tool.
func Speed(t Tool, flow dyad.Span, open int, force dyad.Span, k int) (dyad.Span, api.Errno) {
	past, e := Bypass(t, open, force, k)
	if e != api.OK {
		return dyad.Span{}, e
	}
	return flow.Sub(past).Div(dyad.Only(t.Area), k)
}
