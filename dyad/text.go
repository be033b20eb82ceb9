package dyad

import (
	"slices"
	"strconv"
	"strings"

	"wallgauge/api"
)

// Decimal digits are read and written in groups, of which each fits a limb.
const (
	groupDigits = 19
	groupBase   = 10_000_000_000_000_000_000
)

// Parse returns the number with a text.
func Parse(s string) (Num, api.Errno) {
	if len(s) > api.MaxDigits {
		return Num{}, api.ErrSize
	}
	digits, negative := strings.CutPrefix(s, "-")
	above, below, broken := strings.Cut(digits, "/")
	magnitude, ok := parseNatural(above)
	if !ok || negative && len(magnitude) == 0 {
		return Num{}, api.ErrForm
	}
	if !broken {
		return build(negative, magnitude, 0), api.OK
	}
	power, ok := parseNatural(below)
	if !ok || !lowest(magnitude, power) {
		return Num{}, api.ErrForm
	}
	return build(negative, magnitude, -power.trailing()), api.OK
}

// lowest reports whether above/below is a fraction in lowest terms whose lower part is a power of two from 2 on.
func lowest(above, below limbs) bool {
	if above.bit(0) == 0 || len(below) == 0 {
		return false
	}
	n := below.trailing()
	return n > 0 && below.length() == n+1
}

// parseNatural returns the natural number with decimal digits, without leading zeros.
func parseNatural(s string) (limbs, bool) {
	if s == "" || s[0] == '0' && s != "0" {
		return nil, false
	}
	var n limbs
	for s != "" {
		// The first group is the one that may be short.
		size := (len(s)-1)%groupDigits + 1
		group, err := strconv.ParseUint(s[:size], 10, limbBits)
		if err != nil {
			return nil, false
		}
		n = n.times(natural(groupBase)).plus(natural(group))
		s = s[size:]
	}
	return n, true
}

// decimal returns the decimal digits of a.
func (a limbs) decimal() string {
	var groups []string
	rest := slices.Clone(a)
	for rest.compare(natural(groupBase)) >= 0 {
		group := strconv.FormatUint(divideBy(rest, groupBase), 10)
		rest = rest.trimmed()
		groups = append(groups, strings.Repeat("0", groupDigits-len(group))+group)
	}
	groups = append(groups, strconv.FormatUint(rest.word(), 10))
	slices.Reverse(groups)
	return strings.Join(groups, "")
}

// Text returns the text of x.
func (x Num) Text() string {
	s := x.magnitude.left(max(x.exponent, 0)).decimal()
	if x.negative {
		s = "-" + s
	}
	if x.exponent < 0 {
		s += "/" + natural(1).left(-x.exponent).decimal()
	}
	return s
}

// Text returns the text of a span.
func (x Span) Text() string { return "[" + x.lo.Text() + "," + x.hi.Text() + "]" }
