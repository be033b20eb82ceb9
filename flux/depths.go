package flux

import (
	"wallgauge/api"
	"wallgauge/dyad"
)

// CheckTable returns the error of a table.
func CheckTable(t []Entry) api.Errno {
	if len(t) < 1 || len(t) > api.MaxTable {
		return api.ErrSize
	}
	for i, entry := range t {
		switch {
		case i > 0 && entry.From.Cmp(t[i-1].From) <= 0:
			return api.ErrOrder
		case entry.Depth.Lo().Sign() < 0 || i > 0 && falls(t[i-1].Depth, entry.Depth):
			return api.ErrArg
		}
	}
	return api.OK
}

// falls tells whether an end of a depth is less than the same end of the one ahead.
func falls(ahead, depth dyad.Span) bool {
	return depth.Lo().Cmp(ahead.Lo()) < 0 || depth.Hi().Cmp(ahead.Hi()) < 0
}

// Sized returns the depth for an amplitude.
func Sized(t []Entry, amplitude dyad.Span) (dyad.Span, api.Errno) {
	if e := CheckTable(t); e != api.OK {
		return dyad.Span{}, e
	}
	if amplitude.Lo().Cmp(t[0].From) < 0 {
		return dyad.Span{}, api.ErrNone
	}
	// The ends of the depths do not fall from entry to entry, so these are in order.
	return dyad.Make(depth(t, amplitude.Lo()).Lo(), depth(t, amplitude.Hi()).Hi())
}

// depth returns the depth of the last entry whose From is not above x. The first one's is not.
func depth(t []Entry, x dyad.Num) dyad.Span {
	last := t[0]
	for _, entry := range t {
		if entry.From.Cmp(x) <= 0 {
			last = entry
		}
	}
	return last.Depth
}
