package line_test

import (
	"math"
	"math/big"
	"slices"
	"testing"

	"wallgauge/api"
	"wallgauge/dyad"
	"wallgauge/line"
)

func TestP2_1Yield(t *testing.T) {
	for grade, want := range []int{290000, 317000, 359000, 386000, 414000, 448000, 483000, 552000} {
		if y, e := line.Yield(grade); y != want || e != api.OK {
			t.Errorf("Yield %d: %d %v", grade, y, e)
		}
	}
	for _, grade := range []int{-1, 8, math.MinInt, math.MaxInt} {
		if y, e := line.Yield(grade); y != 0 || e != api.ErrGrade {
			t.Errorf("Yield %d: %d %v", grade, y, e)
		}
	}
}

func TestP2_1Allowed(t *testing.T) {
	x := pipe(12000)
	for _, c := range []struct {
		class, k int
		want     string
	}{
		// 2 10000 359000 72/(100 610000) is 8474 and 46/61.
		{1, 0, "[8474,8475]"}, {1, 1, "[16949/2,8475]"}, {1, 2, "[33899/4,8475]"}, {1, -5, "[8474,8475]"}, {3, 0, "[5885,5886]"}, {2, 0, "[7062,7063]"}, {4, 0, "[4708,4709]"},
		{3, math.MinInt, "[5885,5886]"},
	} {
		if s, e := line.Allowed(x, c.class, c.k); s.Text() != c.want || e != api.OK {
			t.Errorf("Allowed in class %d with %d bits: %s %v", c.class, c.k, s.Text(), e)
		}
	}
	exact := line.Item{Kind: line.Valve, Length: 1, Outer: 1000, Wall: 100, Grade: 0}
	if s, e := line.Allowed(exact, 3, 7); s.Text() != "[29000,29000]" || e != api.OK {
		t.Errorf("Allowed: %s %v", s.Text(), e)
	}
	greatest := line.Item{Length: 1, Outer: 1<<18 + 1, Wall: 1 << 17, Grade: 7}
	if s, e := line.Allowed(greatest, 1, 0); s.Text() != "[397438,397439]" || e != api.OK {
		t.Errorf("Allowed: %s %v", s.Text(), e)
	}
	for _, class := range []int{0, 5, -1, math.MaxInt, math.MinInt} {
		if s, e := line.Allowed(x, class, 3); s.Text() != "[0,0]" || e != api.ErrArg {
			t.Errorf("Allowed in class %d: %s %v", class, s.Text(), e)
		}
	}
	a, _ := line.Allowed(x, 1, 256)
	b, _ := line.Allowed(x, 1, math.MaxInt)
	if a.Text() != b.Text() || a.Lo().Bits() > 256 || a.Lo().Bits() < 250 {
		t.Errorf("Allowed with 256 bits: %s, with more: %s", a.Text(), b.Text())
	}
}

// pressure returns the pressure that an item may have.
func pressure(x line.Item, class int) *big.Rat {
	yield, _ := line.Yield(x.Grade)
	factor := [...]int{0, 72, 60, 50, 40}[class]
	return big.NewRat(int64(2*x.Wall*yield*factor), int64(100*x.Outer))
}

func TestP2_1Weak(t *testing.T) {
	if l, e := line.Weak(example()); !slices.Equal(l, []int{1, 2}) || e != api.OK {
		t.Errorf("Weak: %v %v", l, e)
	}
	// The pressure that is allowed is exactly 29000: just this much is not weak.
	l := line.Line{Items: []line.Item{{Length: 10, Outer: 1000, Wall: 100}}, Zones: []line.Zone{{From: 0, To: 10, Class: 3}}}
	for most, want := range map[int]int{28999: 0, 29000: 0, 29001: 1, 1 << 20: 1, 0: 0} {
		l.Limits = []line.Limit{{From: 0, Most: most}}
		if weak, e := line.Weak(l); len(weak) != want || e != api.OK {
			t.Errorf("Weak with %d: %v %v", most, weak, e)
		}
	}
	for _, l := range shorts(t) {
		sections, _ := line.Sections(l)
		var want []int
		for i, x := range sections {
			if new(big.Rat).SetInt64(int64(x.Most)).Cmp(pressure(l.Items[x.Item], x.Class)) > 0 {
				want = append(want, i)
			}
		}
		if weak, e := line.Weak(l); !slices.Equal(weak, want) || e != api.OK {
			t.Fatalf("%v: Weak: %v %v, want %v", l, weak, e, want)
		}
	}
}

// A Weak section has a pressure above the span that is allowed, or within it.
func TestP2_8WeakAndAllowed(t *testing.T) {
	for _, l := range shorts(t) {
		sections, _ := line.Sections(l)
		weak, _ := line.Weak(l)
		for i, x := range sections {
			s, _ := line.Allowed(l.Items[x.Item], x.Class, 200)
			most := dyad.Int(int64(x.Most))
			if s.Hi().Cmp(most) < 0 && !slices.Contains(weak, i) || s.Lo().Cmp(most) >= 0 && slices.Contains(weak, i) {
				t.Fatalf("%v: the section %v, allowed %s, Weak %v", l, x, s.Text(), weak)
			}
		}
	}
}

func TestP2_8Strength(t *testing.T) {
	noMore := func(what string, x, y line.Item, c, d int) {
		for _, k := range []int{0, 5, 60} {
			a, e := line.Allowed(x, c, k)
			b, f := line.Allowed(y, d, k)
			if e != api.OK || f != api.OK || a.Lo().Cmp(b.Lo()) > 0 || a.Hi().Cmp(b.Hi()) > 0 {
				t.Fatalf("%s: %v in class %d: %s %v; %v in class %d: %s %v", what, x, c, a.Text(), e, y, d, b.Text(), f)
			}
		}
	}
	for _, l := range shorts(t) {
		for _, x := range l.Items {
			for class := 1; class <= 4; class++ {
				thick, high := x, x
				thick.Wall += 1 + x.Length
				noMore("wall", x, thick, class, class)
				high.Grade = min(x.Grade+1, 7)
				noMore("grade", x, high, class, class)
				noMore("class", x, x, min(class+1, 4), class)
			}
		}
	}
}

// The span that is allowed has the pressure, and its ends are the nearest multiples of 2^-k.
func TestP2_8Enclosed(t *testing.T) {
	for _, l := range shorts(t) {
		for i, x := range l.Items {
			class, k := 1+i%4, i*7
			s, e := line.Allowed(x, class, k)
			want := pressure(x, class)
			lo, _ := new(big.Rat).SetString(s.Lo().Text())
			hi, _ := new(big.Rat).SetString(s.Hi().Text())
			unit := new(big.Rat).SetFrac(big.NewInt(1), new(big.Int).Lsh(big.NewInt(1), uint(k)))
			if e != api.OK || lo.Cmp(want) > 0 || hi.Cmp(want) < 0 || new(big.Rat).Sub(hi, lo).Cmp(unit) > 0 || s.Lo().Bits() > k || s.Hi().Bits() > k {
				t.Fatalf("%v in class %d with %d bits: %s %v", x, class, k, s.Text(), e)
			}
		}
	}
}
