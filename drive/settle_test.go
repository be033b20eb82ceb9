package drive_test

import (
	"math"
	"slices"
	"testing"

	"wallgauge/api"
	"wallgauge/drive"
	"wallgauge/dyad"
)

func TestP3_1Settle(t *testing.T) {
	for _, c := range []struct {
		p, lo, hi string
		k         int
		want      string
	}{
		{"3 -1", "0", "8", 0, "[3,4]"}, {"3 -1", "0", "8", 3, "[3,25/8]"}, {"3 -1", "0", "8", -4, "[3,4]"}, {"5/2 -1", "0", "8", 0, "[2,3]"}, {"5/2 -1", "0", "8", 1, "[5/2,3]"},
		{"1 -3", "0", "1", 2, "[1/4,1/2]"}, {"-1 -3", "-1", "0", 2, "[-1/2,-1/4]"}, {"-7 -2 0 0 0 0 0 0 0", "-9", "9", 0, "[-4,-3]"}, {"-7 -2", "-9", "9", 1, "[-7/2,-3]"},
		// The zero is at an end.
		{"8 -1", "0", "8", 0, "[7,8]"}, {"8 -1", "0", "8", 2, "[31/4,8]"}, {"0 -1", "0", "8", 0, "[0,1]"}, {"0 -1", "0", "8", 2, "[0,1/4]"}, {"8 -1", "7", "8", 0, "[7,8]"}, {"7 -1", "7", "8", 0, "[7,8]"},
		// It falls from lo to hi, but not everywhere.
		{"5 0 0 -1", "1", "2", 1, "[3/2,2]"}, {"5 0 0 -1", "1", "2", 4, "[27/16,7/4]"}, {"9 0 -1", "1", "4", 0, "[3,4]"}, {"9 0 -1", "1/2", "7/2", 1, "[3,7/2]"}, {"0 -3 0 1", "-1/2", "1/2", 1, "[0,1/2]"}, {"0 -3 0 1", "-1/2", "1/2", 2, "[0,1/4]"},
		{"-4 0 1", "-5", "-1", 0, "[-2,-1]"}, {"-4 0 1", "-5", "-1", 2, "[-2,-7/4]"},
		{"1 0 0 0 0 0 0 0 -256", "1/4", "4", 2, "[1/2,3/4]"}, {"2 0 0 0 0 0 0 0 -256", "1/4", "4", 6, "[17/32,35/64]"},
		// The greatest ends.
		{"1048575 -1", "-1048576", "1048576", 0, "[1048575,1048576]"}, {"-1048576 -1", "-1048576", "1048576", 0, "[-1048576,-1048575]"}, {"0 -1", "-1048576", "1048576", 0, "[0,1]"},
	} {
		if s, e := drive.Settle(nums(c.p), num(c.lo), num(c.hi), c.k); s.Text() != c.want || e != api.OK {
			t.Errorf("Settle of %s from %s to %s with %d bits: %s %v, want %s", c.p, c.lo, c.hi, c.k, s.Text(), e, c.want)
		}
	}
}

func TestP3_1SettleClampsBits(t *testing.T) {
	fine := unit(256)
	for _, k := range []int{256, 257, math.MaxInt} {
		s, e := drive.Settle(nums("1 -3"), fine, num("1048576"), k)
		if third := must[dyad.Span](t)(dyad.Quo(num("1"), num("3"), 256)); s.Text() != third.Text() || e != api.OK {
			t.Errorf("Settle with %d bits: %s %v", k, s.Text(), e)
		}
	}
	for _, k := range []int{0, -1, math.MinInt} {
		if s, e := drive.Settle(nums("1 -3"), num("0"), num("5"), k); s.Text() != "[0,1]" || e != api.OK {
			t.Errorf("Settle with %d bits: %s %v", k, s.Text(), e)
		}
		if s, e := drive.Settle(nums("1 -3"), num("0"), num("1/2"), k); s.Text() != "[0,0]" || e != api.ErrArg {
			t.Errorf("Settle up to 1/2 with %d bits: %s %v", k, s.Text(), e)
		}
	}
}

func TestP3_1SettleErrors(t *testing.T) {
	for _, c := range []struct {
		p, lo, hi string
		k         int
		want      api.Errno
	}{
		{"", "0", "8", 0, api.ErrSize}, {"", "9", "8", 0, api.ErrSize}, {"3 -1 0 0 0 0 0 0 0 0", "0", "8", 0, api.ErrSize}, {"3 -1 0 0 0 0 0 0 0 0", "1/2", "0", 0, api.ErrSize},
		{"3 -1", "8", "0", 0, api.ErrOrder}, {"3 -1", "3", "3", 0, api.ErrOrder}, {"3 -1", "1/2", "1/4", 0, api.ErrOrder}, {"3 -1", "1048578", "1048577", 0, api.ErrOrder}, {"3 1", "8", "0", 0, api.ErrOrder}, {"3", "8", "0", 0, api.ErrOrder},
		{"3 -1", "1/2", "8", 0, api.ErrArg}, {"3 -1", "0", "15/2", 0, api.ErrArg}, {"3 -1", "0", "33/8", 2, api.ErrArg}, {"3 -1", "1/8", "4", 2, api.ErrArg},
		{"3 -1", "0", "1048577", 0, api.ErrArg}, {"3 -1", "-1048577", "8", 0, api.ErrArg}, {"3 -1", "0", "2097153/2", 1, api.ErrArg}, {"3 -1", "-2097153/2", "8", 1, api.ErrArg}, {"3 -1", "1048577", "1048578", 0, api.ErrArg}, {"3 -1", "-1048578", "-1048577", 0, api.ErrArg},
		// What does not fall, also if it has no zero.
		{"3", "0", "8", 0, api.ErrArg}, {"0", "0", "8", 0, api.ErrArg}, {"-3 0 0", "0", "8", 0, api.ErrArg}, {"-3 1", "0", "8", 0, api.ErrArg}, {"-9 1", "0", "8", 0, api.ErrArg}, {"9 1", "0", "8", 0, api.ErrArg},
		{"1 0 -1", "0", "8", 0, api.ErrArg}, {"1 0 0 -1", "0", "8", 0, api.ErrArg}, {"1 0 0 -1", "-1", "8", 0, api.ErrArg}, {"0 0 0 -1", "-1", "0", 0, api.ErrArg}, {"-4 0 1", "-5", "0", 0, api.ErrArg}, {"-4 0 1", "-5", "5", 0, api.ErrArg},
		{"0 -3 0 1", "-1/2", "1", 1, api.ErrArg}, {"0 -3 0 1", "0", "2", 1, api.ErrArg}, {"0 -3 0 1", "-1", "1/2", 1, api.ErrArg}, {"0 3 0 -1", "-1/2", "1/2", 1, api.ErrArg},
		{"3 -1", "4", "8", 0, api.ErrNone}, {"3 -1", "0", "2", 0, api.ErrNone}, {"3 -1", "25/8", "8", 3, api.ErrNone}, {"3 -1", "0", "23/8", 3, api.ErrNone}, {"0 0 1", "-5", "-1", 0, api.ErrNone},
	} {
		if s, e := drive.Settle(nums(c.p), num(c.lo), num(c.hi), c.k); s.Text() != "[0,0]" || e != c.want {
			t.Errorf("Settle of %s from %s to %s with %d bits: %s %v, want %v", c.p, c.lo, c.hi, c.k, s.Text(), e, c.want)
		}
	}
}

// All multiples from lo on are tried.
func TestP3_1SettleByTrying(t *testing.T) {
	d := newDice(11)
	found := 0
	for range 4000 {
		p := d.list(1, 9, 3, 2)
		k := d.IntN(4)
		lo, hi := d.signed(1, k), d.signed(2, k)
		s, e := drive.Settle(p, lo, hi, k)
		if lo.Cmp(hi) >= 0 {
			if e != api.ErrOrder {
				t.Fatalf("Settle from %s to %s: %v", lo.Text(), hi.Text(), e)
			}
			continue
		}
		if e != api.OK {
			continue
		}
		found++
		last := lo
		for x := lo; x.Cmp(hi) < 0; x = x.Add(unit(k)) {
			if value(p, x).Sign() >= 0 {
				last = x
			}
		}
		if !s.Lo().Same(last) || !s.Hi().Same(last.Add(unit(k))) {
			t.Fatalf("Settle of %s from %s to %s with %d bits: %s, want %s", texts(p), lo.Text(), hi.Text(), k, s.Text(), last.Text())
		}
	}
	if found < 100 {
		t.Fatalf("only %d balances", found)
	}
}

// falling returns a polynomial that falls from 0 on.
func (d dice) falling(size, bits int) []dyad.Num {
	p := []dyad.Num{d.num(size, bits), d.num(1, 4).Add(num("1/16")).Neg()}
	for range d.IntN(8) {
		p = append(p, d.num(1, 6).Neg())
	}
	return p
}

func TestP3_3Balances(t *testing.T) {
	d := newDice(12)
	for range 500 {
		p, k := d.falling(9, 7), d.IntN(257)
		s, e := drive.Settle(p, num("0"), num("1048576"), k)
		if e != api.OK || !s.Width().Same(unit(k)) || s.Lo().Bits() > k || s.Lo().Sign() < 0 || s.Hi().Cmp(num("1048576")) > 0 {
			t.Fatalf("Settle of %s with %d bits: %s %v", texts(p), k, s.Text(), e)
		}
		if value(p, s.Lo()).Sign() < 0 || value(p, s.Hi()).Sign() > 0 {
			t.Fatalf("Settle of %s with %d bits: %s, where it is %s and %s", texts(p), k, s.Text(), value(p, s.Lo()).Text(), value(p, s.Hi()).Text())
		}
	}
}

func TestP3_1Settled(t *testing.T) {
	for _, c := range []struct {
		box, lo, hi string
		k           int
		want        string
	}{
		{"[3,5] [-1,-1]", "0", "8", 0, "[3,6]"}, {"[3,5] [-1,-1]", "0", "8", 2, "[3,21/4]"}, {"[3,3] [-1,-1]", "0", "8", 0, "[3,4]"}, {"[3,5] [-2,-1]", "0", "8", 0, "[1,6]"}, {"[3,5] [-2,-1] [0,0]", "1", "8", 1, "[3/2,11/2]"},
		{"[1,4] [-1,-1] [-1,0]", "0", "8", 1, "[1/2,9/2]"}, {"[1,4] [-1,-1] [-1,0] [0,0] [0,0] [0,0] [0,0] [0,0] [0,0]", "0", "8", 1, "[1/2,9/2]"},
	} {
		if s, e := drive.Settled(spans(c.box), num(c.lo), num(c.hi), c.k); s.Text() != c.want || e != api.OK {
			t.Errorf("Settled of %s from %s to %s with %d bits: %s %v, want %s", c.box, c.lo, c.hi, c.k, s.Text(), e, c.want)
		}
	}
}

func TestP3_1SettledErrors(t *testing.T) {
	ten := "[3,5] [-1,-1] [0,0] [0,0] [0,0] [0,0] [0,0] [0,0] [0,0] [0,0]"
	for _, c := range []struct {
		box, lo, hi string
		want        api.Errno
	}{
		{"", "0", "8", api.ErrSize}, {"", "-1", "8", api.ErrSize}, {ten, "0", "8", api.ErrSize}, {ten, "-1", "-2", api.ErrSize},
		{"[3,5] [-1,-1]", "-1", "8", api.ErrArg}, {"[3,5] [-1,-1]", "-1", "-2", api.ErrArg}, {"[3,5] [-1,-1]", "-1/2", "1/2", api.ErrArg},
		{"[3,5] [-1,-1]", "8", "8", api.ErrOrder}, {"[3,5] [-1,-1]", "1/2", "1/4", api.ErrOrder}, {"[3,5] [-1,-1]", "0", "1/2", api.ErrArg}, {"[3,5]", "0", "8", api.ErrArg},
		{"[3,9] [-1,-1]", "0", "8", api.ErrNone}, {"[3,5] [-1,-1]", "4", "8", api.ErrNone}, {"[-1,5] [-1,-1]", "0", "8", api.ErrNone}, {"[3,5] [-1,1]", "0", "8", api.ErrArg}, {"[3,5] [1,1]", "0", "8", api.ErrArg},
		// The least one has the first error.
		{"[-1,5] [-1,1]", "0", "8", api.ErrNone}, {"[9,9] [-1,1]", "0", "8", api.ErrNone}, {"[3,5] [0,1]", "0", "8", api.ErrArg}, {"[-9,5] [0,0] [-2,-1]", "0", "8", api.ErrArg}, {"[3,9] [-1,-1] [-9,0]", "0", "8", api.ErrNone},
	} {
		if s, e := drive.Settled(spans(c.box), num(c.lo), num(c.hi), 0); s.Text() != "[0,0]" || e != c.want {
			t.Errorf("Settled of %s from %s to %s: %s %v, want %v", c.box, c.lo, c.hi, s.Text(), e, c.want)
		}
	}
}

func TestP3_3Settled(t *testing.T) {
	d := newDice(13)
	for range 300 {
		var box []dyad.Span
		for _, c := range d.falling(9, 7) {
			// The coefficients of the upper end stay below 0, but for the first one.
			box = append(box, dyad.Only(c).Hull(dyad.Only(c.Mul(d.num(0, 7).Add(num("1/2"))))))
		}
		k := d.IntN(20)
		s := must[dyad.Span](t)(drive.Settled(box, num("0"), num("1048576"), k))
		for range 20 {
			p := make([]dyad.Num, len(box))
			for i := range p {
				p[i] = d.inside(box[i])
			}
			if value(p, s.Lo()).Sign() < 0 || value(p, s.Hi()).Sign() > 0 {
				t.Fatalf("%s of the box %s has no zero in %s", texts(p), texts(box), s.Text())
			}
		}
		least, greatest := slices.Clone(box), slices.Clone(box)
		for i, x := range box {
			least[i], greatest[i] = dyad.Only(x.Lo()), dyad.Only(x.Hi())
		}
		a := must[dyad.Span](t)(drive.Settled(least, num("0"), num("1048576"), k))
		b := must[dyad.Span](t)(drive.Settled(greatest, num("0"), num("1048576"), k))
		if !s.Lo().Same(a.Lo()) || !s.Hi().Same(b.Hi()) {
			t.Fatalf("Settled of %s: %s, of the least one %s, of the greatest one %s", texts(box), s.Text(), a.Text(), b.Text())
		}
	}
}

// A polynomial of the box that falls only between lo and hi has its zero in Settled, too.
func TestP3_3SettledByZeros(t *testing.T) {
	d := newDice(14)
	found := 0
	for range 20000 {
		box := make([]dyad.Span, 2+d.IntN(4))
		for i := range box {
			box[i] = d.wide(d.signed(2, 2), d.IntN(2)-2, 4)
		}
		lo, hi := d.num(1, 2), d.num(2, 2)
		s, e := drive.Settled(box, lo, hi, 2)
		if e != api.OK {
			continue
		}
		found++
		for range 5 {
			p := make([]dyad.Num, len(box))
			for i := range p {
				p[i] = d.inside(box[i])
			}
			own, e := drive.Settle(p, lo, hi, 2)
			if e == api.OK && (value(p, s.Lo()).Sign() < 0 || value(p, s.Hi()).Sign() > 0 || !own.In(s)) {
				t.Fatalf("%s of the box %s settles at %s, not in %s", texts(p), texts(box), own.Text(), s.Text())
			}
		}
	}
	if found < 100 {
		t.Fatalf("only %d boxes", found)
	}
}
