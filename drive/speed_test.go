package drive_test

import (
	"math"
	"math/big"
	"testing"

	"wallgauge/api"
	"wallgauge/drive"
	"wallgauge/dyad"
)

// tool returns a tool with an area and a pass.
func tool(area, pass string) drive.Tool { return drive.Tool{Area: num(area), Pass: num(pass)} }

func TestP3_1Check(t *testing.T) {
	for _, c := range []struct {
		tool drive.Tool
		want api.Errno
	}{
		{tool("4", "2"), api.OK}, {tool("1/1024", "0"), api.OK}, {tool("1", "1/1024"), api.OK},
		{drive.Tool{}, api.ErrArg}, {tool("0", "2"), api.ErrArg}, {tool("-1", "2"), api.ErrArg}, {tool("-1/1024", "0"), api.ErrArg},
		{tool("4", "-1"), api.ErrArg}, {tool("4", "-1/1024"), api.ErrArg}, {tool("0", "-1"), api.ErrArg},
	} {
		if e := drive.Check(c.tool); e != c.want {
			t.Errorf("Check of %s, %s: %v, want %v", c.tool.Area.Text(), c.tool.Pass.Text(), e, c.want)
		}
	}
}

func TestP3_1Bypass(t *testing.T) {
	for _, c := range []struct {
		tool  drive.Tool
		open  int
		force string
		k     int
		want  string
	}{
		{tool("4", "2"), 4, "[16,16]", 0, "[2,2]"}, {tool("4", "2"), 8, "[16,16]", 0, "[4,4]"}, {tool("4", "2"), 0, "[16,16]", 0, "[0,0]"}, {tool("4", "2"), 1, "[16,64]", 0, "[1/2,1]"},
		{tool("4", "0"), 8, "[16,64]", 0, "[0,0]"}, {tool("4", "2"), 8, "[0,0]", 0, "[0,0]"}, {tool("4", "2"), 8, "[0,16]", 0, "[0,4]"},
		// 1/3 and 2/3 become 1/4 and 3/4, their roots 1/2 and 1.
		{tool("3", "2"), 5, "[1,2]", 2, "[5/8,5/4]"}, {tool("3", "2"), 5, "[1,2]", 0, "[0,5/4]"}, {tool("3", "2"), 5, "[1,2]", -7, "[0,5/4]"},
		// The product is not rounded.
		{tool("1", "1/1024"), 3, "[1,4]", 0, "[3/8192,3/4096]"}, {tool("1/4", "1"), 8, "[1,1]", 0, "[2,2]"}, {tool("16", "1"), 8, "[1,1]", 0, "[0,1]"}, {tool("16", "1"), 8, "[1,1]", 4, "[1/4,1/4]"}, {tool("16", "1"), 8, "[1,1]", 3, "[0,3/8]"},
	} {
		if s, e := drive.Bypass(c.tool, c.open, span(c.force), c.k); s.Text() != c.want || e != api.OK {
			t.Errorf("Bypass open to %d with %s and %d bits: %s %v, want %s", c.open, c.force, c.k, s.Text(), e, c.want)
		}
	}
}

func TestP3_1BypassErrors(t *testing.T) {
	good := tool("4", "2")
	for _, c := range []struct {
		tool  drive.Tool
		open  int
		force string
	}{
		{drive.Tool{}, 4, "[1,1]"}, {tool("-1", "1"), 4, "[1,1]"}, {tool("1", "-1"), 4, "[1,1]"}, {good, -1, "[1,1]"}, {good, 9, "[1,1]"}, {good, math.MaxInt, "[1,1]"}, {good, math.MinInt, "[1,1]"},
		{good, 4, "[-1/1024,1]"}, {good, 4, "[-2,-1]"}, {good, 0, "[-1,0]"}, {tool("0", "-1"), 9, "[-1,1]"},
	} {
		if s, e := drive.Bypass(c.tool, c.open, span(c.force), 3); s.Text() != "[0,0]" || e != api.ErrArg {
			t.Errorf("Bypass open to %d with %s: %s %v", c.open, c.force, s.Text(), e)
		}
		if s, e := drive.Speed(c.tool, span("[1,2]"), c.open, span(c.force), 3); s.Text() != "[0,0]" || e != api.ErrArg {
			t.Errorf("Speed open to %d with %s: %s %v", c.open, c.force, s.Text(), e)
		}
	}
}

func TestP3_1Speed(t *testing.T) {
	for _, c := range []struct {
		tool  drive.Tool
		flow  string
		open  int
		force string
		k     int
		want  string
	}{
		{tool("4", "2"), "[10,10]", 4, "[16,16]", 0, "[2,2]"}, {tool("4", "2"), "[10,10]", 0, "[16,16]", 0, "[2,3]"}, {tool("4", "2"), "[10,10]", 0, "[16,16]", 1, "[5/2,5/2]"},
		{tool("4", "2"), "[0,0]", 8, "[16,16]", 0, "[-1,-1]"}, {tool("4", "2"), "[-8,8]", 8, "[0,16]", 0, "[-3,2]"}, {tool("4", "2"), "[5,6]", 8, "[16,64]", 2, "[-3/4,1/2]"},
		{tool("3", "2"), "[1,2]", 5, "[1,2]", 2, "[-1/4,1/2]"}, {tool("3", "2"), "[1,2]", 5, "[1,2]", -1, "[-1,1]"},
	} {
		if s, e := drive.Speed(c.tool, span(c.flow), c.open, span(c.force), c.k); s.Text() != c.want || e != api.OK {
			t.Errorf("Speed of %s open to %d with %s and %d bits: %s %v, want %s", c.flow, c.open, c.force, c.k, s.Text(), e, c.want)
		}
	}
}

// down returns the greatest multiple of 2^-k that is not above x.
func down(x *big.Rat, k int) *big.Rat {
	one := new(big.Int).Lsh(big.NewInt(1), uint(k))
	up := new(big.Int).Mul(x.Num(), one)
	// Div of package big rounds down, since the denominator is above 0.
	return new(big.Rat).SetFrac(up.Div(up, x.Denom()), one)
}

// up returns the least multiple of 2^-k that is not below x.
func up(x *big.Rat, k int) *big.Rat {
	x = down(new(big.Rat).Neg(x), k)
	return x.Neg(x)
}

// rootDown returns the greatest multiple of 2^-k that is not above the root of x.
func rootDown(x *big.Rat, k int) *big.Rat {
	one := new(big.Int).Lsh(big.NewInt(1), uint(k))
	square := new(big.Int).Mul(x.Num(), new(big.Int).Mul(one, one))
	square.Div(square, x.Denom())
	return new(big.Rat).SetFrac(square.Sqrt(square), one)
}

// rootUp returns the least multiple of 2^-k that is not below the root of x.
func rootUp(x *big.Rat, k int) *big.Rat {
	r := rootDown(x, k)
	if new(big.Rat).Mul(r, r).Cmp(x) < 0 {
		r.Add(r, new(big.Rat).SetFrac(big.NewInt(1), new(big.Int).Lsh(big.NewInt(1), uint(k))))
	}
	return r
}

// ride returns what Speed is asked of: a tool, a flow, a force and an opening.
func (d dice) ride() (x drive.Tool, flow, force dyad.Span, open int) {
	x = drive.Tool{Area: d.num(5, 4).Add(num("1/16")), Pass: d.num(4, 3)}
	return x, d.wide(num("0"), 10, 5), d.wide(num("600"), 9, 5), d.IntN(9)
}

// The ends of Bypass and Speed, calculated with fractions.
func TestP3_1SpeedByFractions(t *testing.T) {
	d := newDice(1)
	for range 2000 {
		x, flow, force, open := d.ride()
		k := d.IntN(60)
		area, factor := rat(x.Area), new(big.Rat).Mul(rat(x.Pass), big.NewRat(int64(open), 8))
		lo := rootDown(down(new(big.Rat).Quo(rat(force.Lo()), area), k), k)
		hi := rootUp(up(new(big.Rat).Quo(rat(force.Hi()), area), k), k)
		lo.Mul(lo, factor)
		hi.Mul(hi, factor)
		past := must[dyad.Span](t)(drive.Bypass(x, open, force, k))
		if rat(past.Lo()).Cmp(lo) != 0 || rat(past.Hi()).Cmp(hi) != 0 {
			t.Fatalf("Bypass open to %d with %s and %d bits: %s, want from %s to %s", open, force.Text(), k, past.Text(), lo, hi)
		}
		lo, hi = new(big.Rat).Sub(rat(flow.Lo()), hi), new(big.Rat).Sub(rat(flow.Hi()), lo)
		lo, hi = down(lo.Quo(lo, area), k), up(hi.Quo(hi, area), k)
		speed := must[dyad.Span](t)(drive.Speed(x, flow, open, force, k))
		if rat(speed.Lo()).Cmp(lo) != 0 || rat(speed.Hi()).Cmp(hi) != 0 {
			t.Fatalf("Speed open to %d with %s and %d bits: %s, want from %s to %s", open, force.Text(), k, speed.Text(), lo, hi)
		}
	}
}

func TestP3_1SpeedClampsBits(t *testing.T) {
	for _, pair := range [][2]int{{256, 257}, {256, math.MaxInt}, {0, -1}, {0, math.MinInt}} {
		a := must[dyad.Span](t)(drive.Speed(tool("3", "2"), span("[1,2]"), 5, span("[1,2]"), pair[0]))
		b := must[dyad.Span](t)(drive.Speed(tool("3", "2"), span("[1,2]"), 5, span("[1,2]"), pair[1]))
		if a.Text() != b.Text() {
			t.Errorf("%d bits: %s, %d bits: %s", pair[0], a.Text(), pair[1], b.Text())
		}
	}
}

func TestP3_2TrueSpeeds(t *testing.T) {
	d := newDice(2)
	for range 2000 {
		x := drive.Tool{Area: d.num(4, 4).Add(num("1/16")), Pass: d.num(4, 3)}
		// The force is the one that has this root.
		root, rate := d.num(4, 4), d.signed(10, 5)
		force := root.Mul(root).Mul(x.Area)
		least := force.Mul(d.num(0, 6))
		forces, flow := dyad.Only(least).Hull(dyad.Only(force.Add(d.num(3, 6)))), d.wide(rate, 6, 5)
		if d.IntN(3) == 0 {
			forces, flow = dyad.Only(force), dyad.Only(rate)
		}
		open := d.IntN(9)
		actual := new(big.Rat).Quo(rat(rate.Sub(root.Mul(x.Pass).Mul(dyad.Int(int64(open))).Mul(num("1/8")))), rat(x.Area))
		speed := must[dyad.Span](t)(drive.Speed(x, flow, open, forces, d.IntN(40)))
		if actual.Cmp(rat(speed.Lo())) < 0 || actual.Cmp(rat(speed.Hi())) > 0 {
			t.Fatalf("the speed %s is not in %s", actual, speed.Text())
		}
	}
}

// With any number of the Root that Bypass uses, the speed lies in Speed.
func TestP3_2AnyRoot(t *testing.T) {
	d := newDice(3)
	for range 1000 {
		x, flow, force, open := d.ride()
		k := d.IntN(12)
		speed := must[dyad.Span](t)(drive.Speed(x, flow, open, force, k))
		part := must[dyad.Span](t)(dyad.Only(d.inside(force)).Div(dyad.Only(x.Area), k))
		root := d.inside(must[dyad.Span](t)(part.Root(k)))
		left := rat(d.inside(flow).Sub(root.Mul(x.Pass).Mul(dyad.Int(int64(open))).Mul(num("1/8"))))
		left.Quo(left, rat(x.Area))
		if left.Cmp(rat(speed.Lo())) < 0 || left.Cmp(rat(speed.Hi())) > 0 {
			t.Fatalf("with the root %s the speed %s is not in %s", root.Text(), left, speed.Text())
		}
	}
}

func TestP3_2WiderSpans(t *testing.T) {
	d := newDice(4)
	for range 1000 {
		x, flow, force, open := d.ride()
		k := d.IntN(20)
		speed := must[dyad.Span](t)(drive.Speed(x, flow, open, force, k))
		for _, c := range []struct {
			flow, force dyad.Span
			k           int
		}{{d.within(flow), force, k}, {flow, d.within(force), k}, {flow, force, k + 1}, {flow, force, k + d.IntN(30)}, {d.within(flow), d.within(force), k + 3}} {
			if s := must[dyad.Span](t)(drive.Speed(x, c.flow, open, c.force, c.k)); !s.In(speed) {
				t.Fatalf("%s with %s and %d bits has the Speed %s, %s with %s and %d bits has %s", flow.Text(), force.Text(), k, speed.Text(), c.flow.Text(), c.force.Text(), c.k, s.Text())
			}
		}
	}
}

func TestP3_2MoreIsNotFaster(t *testing.T) {
	d := newDice(5)
	for range 1000 {
		x, flow, force, open := d.ride()
		k := d.IntN(20)
		speed := must[dyad.Span](t)(drive.Speed(x, flow, open, force, k))
		more := dyad.Only(d.num(8, 4))
		for _, c := range []struct {
			open  int
			force dyad.Span
		}{{open, force.Add(more)}, {min(open+1, 8), force}, {8, force.Add(more)}} {
			s := must[dyad.Span](t)(drive.Speed(x, flow, c.open, c.force, k))
			if s.Lo().Cmp(speed.Lo()) > 0 || s.Hi().Cmp(speed.Hi()) > 0 {
				t.Fatalf("open to %d with %s: %s; open to %d with %s: %s", open, force.Text(), speed.Text(), c.open, c.force.Text(), s.Text())
			}
		}
	}
}
