package flux_test

import (
	"math"
	"math/big"
	"slices"
	"testing"

	"wallgauge/api"
	"wallgauge/dyad"
	"wallgauge/flux"
)

func TestP5_1Inside(t *testing.T) {
	l := []flux.Dig{
		{span("[1,3]"), num("2")}, {span("[1,3]"), num("1")}, {span("[1,3]"), num("3")}, {span("[1,3]"), num("1023/1024")}, {span("[1,3]"), num("3073/1024")}, {span("[0,0]"), num("0")}, {span("[0,0]"), num("1/1024")}, {span("[-5,-4]"), num("-9/2")}, {span("[-5,-4]"), num("9/2")},
	}
	for n, want := range []int{0, 1, 2, 3, 3, 3, 4, 4, 5, 5} {
		if got, e := flux.Inside(l[:n]); got != want || e != api.OK {
			t.Errorf("Inside of %d digs: %d %v, want %d", n, got, e, want)
		}
	}
	if got, e := flux.Inside(nil); got != 0 || e != api.OK {
		t.Errorf("Inside of nil: %d %v", got, e)
	}
	if got, e := flux.Inside(make([]flux.Dig, 64)); got != 64 || e != api.OK {
		t.Errorf("Inside of 64 digs: %d %v", got, e)
	}
	if got, e := flux.Inside(make([]flux.Dig, 65)); got != 0 || e != api.ErrSize {
		t.Errorf("Inside of 65 digs: %d %v", got, e)
	}
}

// chanceOf returns the sum of the document.
func chanceOf(n, within int, each dyad.Num) *big.Rat {
	power := func(x *big.Rat, n int) *big.Rat {
		out := big.NewRat(1, 1)
		for range n {
			out.Mul(out, x)
		}
		return out
	}
	sum, in := new(big.Rat), rat(each)
	out := new(big.Rat).Sub(big.NewRat(1, 1), in)
	for i := 0; i <= within; i++ {
		term := new(big.Rat).SetInt(new(big.Int).Binomial(int64(n), int64(i)))
		sum.Add(sum, term.Mul(term, power(in, i)).Mul(term, power(out, n-i)))
	}
	return sum
}

func TestP5_1Chance(t *testing.T) {
	for _, c := range []struct {
		n, within int
		each      string
		want      string
	}{
		{3, 1, "1/2", "1/2"}, {8, 3, "3/4", "1789/65536"}, {8, 4, "3/4", "7459/65536"}, {0, 0, "1/2", "1"}, {0, 0, "0", "1"}, {0, 0, "1", "1"}, {1, 0, "1/4", "3/4"}, {1, 1, "1/4", "1"}, {5, 0, "1", "0"}, {5, 4, "1", "0"}, {5, 5, "1", "1"}, {5, 0, "0", "1"}, {5, 3, "0", "1"}, {2, 0, "3/8", "25/64"}, {2, 1, "3/8", "55/64"}, {64, 64, "1/2", "1"}, {64, 0, "1/2", unit(64).Text()}, {64, 63, "1/2", num("1").Sub(unit(64)).Text()},
	} {
		if x, e := flux.Chance(c.n, c.within, num(c.each)); x.Text() != c.want || e != api.OK {
			t.Errorf("Chance of at most %d of %d with %s: %s %v, want %s", c.within, c.n, c.each, x.Text(), e, c.want)
		}
	}
	d := newDice(12)
	for range 200 {
		n := d.from(0, 64)
		within, each := d.from(0, n), d.num(0, d.IntN(12))
		if x, e := flux.Chance(n, within, each); rat(x).Cmp(chanceOf(n, within, each)) != 0 || e != api.OK {
			t.Fatalf("Chance of at most %d of %d with %s: %s %v", within, n, each.Text(), x.Text(), e)
		}
	}
	for within := 0; within <= 64; within++ {
		if x, e := flux.Chance(64, within, num("5/8")); rat(x).Cmp(chanceOf(64, within, num("5/8"))) != 0 || e != api.OK {
			t.Fatalf("Chance of at most %d of 64: %s %v", within, x.Text(), e)
		}
	}
}

// notParts are numbers that are not from 0 to 1.
func notParts() []dyad.Num {
	return []dyad.Num{num("-1"), num("2"), unit(256).Neg(), num("1").Add(unit(256))}
}

func TestP5_1ChanceErrors(t *testing.T) {
	half := num("1/2")
	for _, c := range [][2]int{{-1, 0}, {-1, -1}, {65, 1}, {math.MaxInt, 1}, {math.MinInt, 0}, {8, -1}, {8, 9}, {0, 1}, {64, 65}, {8, math.MaxInt}, {8, math.MinInt}, {math.MinInt, math.MinInt}, {math.MaxInt, math.MaxInt}} {
		if x, e := flux.Chance(c[0], c[1], half); !x.Zero() || e != api.ErrArg {
			t.Errorf("Chance of at most %d of %d: %s %v", c[1], c[0], x.Text(), e)
		}
		if refused, e := flux.Refused(c[0], c[1], half, half); refused || e != api.ErrArg {
			t.Errorf("Refused of %d of %d: %v %v", c[1], c[0], refused, e)
		}
	}
	for _, n := range []int{-1, 65, math.MinInt, math.MaxInt} {
		if least, e := flux.Least(n, half, half); least != 0 || e != api.ErrArg {
			t.Errorf("Least of %d: %d %v", n, least, e)
		}
	}
	for _, bad := range notParts() {
		if x, e := flux.Chance(3, 1, bad); !x.Zero() || e != api.ErrArg {
			t.Errorf("Chance with %s: %s %v", bad.Text(), x.Text(), e)
		}
		for _, c := range [][2]dyad.Num{{bad, half}, {half, bad}, {bad, bad}} {
			if refused, e := flux.Refused(3, 1, c[0], c[1]); refused || e != api.ErrArg {
				t.Errorf("Refused with %s and %s: %v %v", c[0].Text(), c[1].Text(), refused, e)
			}
			if least, e := flux.Least(3, c[0], c[1]); least != 0 || e != api.ErrArg {
				t.Errorf("Least with %s and %s: %d %v", c[0].Text(), c[1].Text(), least, e)
			}
		}
	}
}

func TestP5_1Refused(t *testing.T) {
	for _, c := range []struct {
		n, within    int
		claim, level string
		want         bool
	}{
		{8, 3, "3/4", "1/16", true}, {8, 4, "3/4", "1/16", false}, {8, 3, "3/4", "1789/65536", true}, {8, 3, "3/4", "1788/65536", false}, {3, 1, "1/2", "1/2", true}, {3, 1, "1/2", "511/1024", false}, {3, 3, "1/2", "1", true}, {3, 3, "1/2", "1023/1024", false},
		{3, 0, "0", "1", true}, {3, 0, "0", "1/2", false}, {3, 2, "1", "0", true}, {3, 3, "1", "0", false}, {0, 0, "1", "1/2", false}, {0, 0, "1", "1", true}, {3, 0, "1/2", "0", false},
	} {
		level, e := num("1788").Shift(-16)
		if c.level != "1788/65536" {
			level, e = dyad.Parse(c.level)
		}
		if e != api.OK {
			t.Fatal(e)
		}
		if refused, e := flux.Refused(c.n, c.within, num(c.claim), level); refused != c.want || e != api.OK {
			t.Errorf("Refused of %d of %d with %s and %s: %v %v", c.within, c.n, c.claim, c.level, refused, e)
		}
	}
}

func TestP5_1Least(t *testing.T) {
	for _, c := range []struct {
		n            int
		claim, level string
		want         int
		err          api.Errno
	}{
		{8, "3/4", "1/16", 4, 0}, {8, "3/4", "1789/65536", 4, 0}, {8, "3/4", "1/64", 3, 0}, {8, "1", "0", 8, 0}, {8, "0", "0", 0, 0}, {8, "0", "1023/1024", 0, 0}, {8, "1", "1023/1024", 8, 0}, {8, "1/2", "0", 0, 0}, {3, "1/2", "1/2", 2, 0}, {3, "1/2", "7/8", 3, 0}, {1, "1/2", "1/2", 1, 0}, {0, "1/2", "1/2", 0, 0},
		{0, "1/2", "1", 0, api.ErrNone}, {8, "1/2", "1", 0, api.ErrNone}, {8, "0", "1", 0, api.ErrNone}, {64, "1", "1", 0, api.ErrNone}, {64, "1", "0", 64, 0},
	} {
		if least, e := flux.Least(c.n, num(c.claim), num(c.level)); least != c.want || e != c.err {
			t.Errorf("Least of %d with %s and %s: %d %v, want %d %v", c.n, c.claim, c.level, least, e, c.want, c.err)
		}
	}
}

func TestP5_7Chances(t *testing.T) {
	d := newDice(13)
	for range 60 {
		n, each := d.from(0, 20), d.num(0, 6)
		more := dyad.Only(each.Add(d.num(0, 6))).Hull(dyad.Only(num("1"))).Lo()
		last := dyad.Num{}
		for within := 0; within <= n; within++ {
			x := must[dyad.Num](t)(flux.Chance(n, within, each))
			if x.Cmp(last) < 0 {
				t.Fatalf("Chance of at most %d of %d with %s falls from %s to %s", within, n, each.Text(), last.Text(), x.Text())
			}
			if y := must[dyad.Num](t)(flux.Chance(n, within, more)); y.Cmp(x) > 0 {
				t.Fatalf("Chance of at most %d of %d with %s: %s, with %s: %s", within, n, each.Text(), x.Text(), more.Text(), y.Text())
			}
			last = x
		}
		if !last.Same(num("1")) {
			t.Fatalf("Chance of at most all of %d with %s: %s", n, each.Text(), last.Text())
		}
	}
}

func TestP5_7Claims(t *testing.T) {
	d := newDice(14)
	refusals := 0
	for range 60 {
		n, claim, level := d.from(0, 20), d.num(0, 6), d.num(0, 6)
		var refused []bool
		for within := 0; within <= n; within++ {
			refused = append(refused, must[bool](t)(flux.Refused(n, within, claim, level)))
		}
		least, e := flux.Least(n, claim, level)
		first := slices.Index(refused, false)
		if first < 0 {
			if least != 0 || e != api.ErrNone {
				t.Fatalf("Least of %d with %s and %s: %d %v", n, claim.Text(), level.Text(), least, e)
			}
			continue
		}
		if least != first || e != api.OK || slices.Contains(refused[first:], true) {
			t.Fatalf("Least of %d with %s and %s: %d %v, Refused %v", n, claim.Text(), level.Text(), least, e, refused)
		}
		if least == 0 {
			continue
		}
		refusals++
		// A claim that holds is refused with a chance of at most level.
		holds := dyad.Only(claim.Add(d.num(0, 6))).Hull(dyad.Only(num("1"))).Lo()
		for _, each := range []dyad.Num{claim, holds} {
			if x := must[dyad.Num](t)(flux.Chance(n, least-1, each)); x.Cmp(level) > 0 {
				t.Fatalf("the claim %s is refused with the chance %s, the level is %s", claim.Text(), x.Text(), level.Text())
			}
		}
	}
	if refusals < 20 {
		t.Fatalf("only %d claims can be refused", refusals)
	}
}
