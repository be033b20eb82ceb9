package line

import (
	"slices"

	"wallgauge/api"
)

// maxTool is the greatest length and diameter of a tool.
const maxTool = 1 << 24

// Tool is a pig: its stiff length, its diameter there, the least bore that its cups allow, and the length that they seal. All in micrometres.
type Tool struct{ Stiff, Thick, Least, Seal int }

// Passes returns the first item that a tool does not pass, or -1.
func Passes(l Line, t Tool) (int, api.Errno) {
	if e := Check(l); e != api.OK {
		return 0, e
	}
	for _, n := range [...]int{t.Stiff, t.Thick, t.Least, t.Seal} {
		if !between(n, 1, maxTool) {
			return 0, api.ErrFit
		}
	}
	return slices.IndexFunc(l.Items, func(x Item) bool { return !passes(x, t) }), api.OK
}

// passes reports whether a tool passes an item.
func passes(x Item, t Tool) bool {
	b := bore(x)
	if b < t.Thick || b < t.Least {
		return false
	}
	switch x.Kind {
	case Bend:
		return square(2*x.Radius-b+2*t.Thick)+square(t.Stiff) <= square(2*x.Radius+b)
	case Valve:
		return t.Seal > 1000*x.Length
	}
	return true
}

// square returns n n.
func square(n int) int { return n * n }
