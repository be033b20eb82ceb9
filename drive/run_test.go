package drive_test

import (
	"math"
	"slices"
	"testing"

	"wallgauge/api"
	"wallgauge/drive"
	"wallgauge/dyad"
)

func TestP3_1Next(t *testing.T) {
	for _, c := range []struct {
		speed string
		valve int
		force string
		k     int
		want  string
	}{
		{"[4,4]", 0, "[4,6]", 0, "[3,4]"}, {"[4,4]", 1, "[4,6]", 0, "[5,6]"}, {"[4,5]", 0, "[4,6]", 0, "[3,5]"}, {"[4,4]", 0, "[4,5]", 0, "[3,4]"}, {"[4,4]", 0, "[4,5]", 1, "[7/2,4]"}, {"[4,4]", 0, "[5,5]", 0, "[3,4]"},
		{"[4,4]", 0, "[4,5]", -1, "[3,4]"}, {"[0,0]", 0, "[4,4]", 3, "[0,0]"}, {"[1/1024,1/512]", 0, "[4,4]", 3, "[0,1/8]"}, {"[1/1024,1/512]", 0, "[4,4]", 10, "[1/1024,1/512]"},
		// The tool stands.
		{"[1,2]", 0, "[6,8]", 0, "[0,1]"}, {"[1,2]", 0, "[7,9]", 1, "[0,1/2]"}, {"[1,2]", 0, "[8,8]", 0, "[0,0]"}, {"[1,2]", 0, "[99,100]", 0, "[0,0]"}, {"[0,0]", 0, "[-4,5]", 1, "[0,4]"}, {"[1,1]", 1, "[-9,9]", 1, "[1/2,19/2]"},
	} {
		if s, e := drive.Next(control("4 8"), span(c.speed), c.valve, span(c.force), c.k); s.Text() != c.want || e != api.OK {
			t.Errorf("Next of %s with the valve %d and %s: %s %v, want %s", c.speed, c.valve, c.force, s.Text(), e, c.want)
		}
	}
}

func TestP3_1NextErrors(t *testing.T) {
	good, minus := span("[4,4]"), span("[-1/1024,4]")
	for want, list := range badControls() {
		for _, c := range list {
			for _, speed := range []dyad.Span{good, minus} {
				if s, e := drive.Next(c, speed, 9, good, 0); s.Text() != "[0,0]" || e != want {
					t.Errorf("Next: %s %v, want %v", s.Text(), e, want)
				}
				if n, e := drive.Choose(c, speed, good, 0); n != 0 || e != want {
					t.Errorf("Choose: %d %v, want %v", n, e, want)
				}
				if s, n, e := drive.Run(c, speed, make([]dyad.Span, 257), 0); len(s) != 0 || len(n) != 0 || e != want {
					t.Errorf("Run: %s %v %v, want %v", texts(s), n, e, want)
				}
			}
		}
	}
	for _, c := range []struct {
		speed dyad.Span
		valve int
		want  api.Errno
	}{
		{minus, 0, api.ErrArg}, {span("[-2,-1]"), 2, api.ErrArg}, {good, 2, api.ErrNone}, {good, -1, api.ErrNone}, {good, math.MaxInt, api.ErrNone}, {good, math.MinInt, api.ErrNone},
	} {
		if s, e := drive.Next(control("4 8"), c.speed, c.valve, good, 0); s.Text() != "[0,0]" || e != c.want {
			t.Errorf("Next of %s with the valve %d: %s %v, want %v", c.speed.Text(), c.valve, s.Text(), e, c.want)
		}
	}
	if _, e := drive.Next(control("1 2 3 4 5 6 7 8"), good, 7, good, 0); e != api.OK {
		t.Errorf("Next with 8 Pushes: %v", e)
	}
}

func TestP3_1Choose(t *testing.T) {
	for _, c := range []struct {
		pushes, speed, force string
		k, want              int
	}{
		{"4 8", "[4,4]", "[4,6]", 0, 0}, {"8 4", "[4,4]", "[4,6]", 0, 0}, {"0 4 8", "[4,4]", "[4,6]", 0, 1}, {"-9 99 8 4", "[4,4]", "[4,6]", 0, 2}, {"1 2 3 0 0 0 0 4", "[4,4]", "[4,8]", 0, 7},
		// Both limits are still safe: from 2 to 6.
		{"4", "[2,6]", "[4,4]", 0, 0}, {"4", "[4,4]", "[0,8]", 0, 0}, {"4", "[4,4]", "[4,9]", 0, -1}, {"4", "[4,4]", "[-1,4]", 0, -1}, {"4", "[4,4]", "[-1/1024,4]", 1, -1}, {"4", "[4,4]", "[4,8193/1024]", 1, -1},
		// Rounding decides.
		{"4", "[2,2]", "[7/2,15/4]", 0, 0}, {"4", "[6,6]", "[4,9/2]", 0, 0}, {"4", "[6,6]", "[7/2,9/2]", 0, -1}, {"4", "[23/4,23/4]", "[15/4,15/4]", 0, 0}, {"4", "[23/4,23/4]", "[13/4,13/4]", 0, -1}, {"4", "[23/4,23/4]", "[7/2,7/2]", 0, 0},
		// What stands is too slow.
		{"0 4", "[4,4]", "[20,20]", 0, -1}, {"0 20", "[4,4]", "[20,20]", 0, 1},
	} {
		want := api.OK
		if c.want < 0 {
			want = api.ErrUnsafe
		}
		if n, e := drive.Choose(control(c.pushes), span(c.speed), span(c.force), c.k); n != max(c.want, 0) || e != want {
			t.Errorf("Choose of %s from %s with %s: %d %v, want %d", c.pushes, c.speed, c.force, n, e, c.want)
		}
	}
	if n, e := drive.Choose(control("99"), span("[-1,1]"), span("[0,0]"), 0); n != 0 || e != api.ErrArg {
		t.Errorf("Choose of a speed below 0: %d %v", n, e)
	}
}

func TestP3_1ChooseLimits(t *testing.T) {
	c := control("0 4")
	c.Low, c.High = num("-3"), num("0")
	if n, e := drive.Choose(c, span("[1,1]"), span("[4,4]"), 0); n != 0 || e != api.OK {
		t.Errorf("a tool that stands, with the limits -3 and 0: %d %v", n, e)
	}
	c.High = num("-1")
	if n, e := drive.Choose(c, span("[1,1]"), span("[4,4]"), 0); n != 0 || e != api.ErrUnsafe {
		t.Errorf("no speed is below 0: %d %v", n, e)
	}
	c.Low, c.High = num("1"), num("1")
	if n, e := drive.Choose(c, span("[1,1]"), span("[4,4]"), 0); n != 1 || e != api.OK {
		t.Errorf("just one speed: %d %v", n, e)
	}
}

func TestP3_1Run(t *testing.T) {
	speeds, steps, e := drive.Run(control("4 8"), span("[4,4]"), spans("[4,6] [4,6] [12,13] [4,4] [6,6] [0,0]"), 0)
	if texts(speeds) != "[3,4] [2,4] [0,2] [2,4] [3,5] [7,9]" || !slices.Equal(steps, []int{0, 0, -1, 1, 1, -1}) || e != api.OK {
		t.Errorf("Run: %s %v %v", texts(speeds), steps, e)
	}
	// The first speed is not rounded, and need not be safe.
	speeds, steps, e = drive.Run(control("4 8"), span("[99/8,99/8]"), spans("[22,22] [1,1]"), 0)
	if texts(speeds) != "[3,4] [4,6]" || !slices.Equal(steps, []int{0, 0}) || e != api.OK {
		t.Errorf("Run: %s %v %v", texts(speeds), steps, e)
	}
	for _, none := range [][]dyad.Span{nil, {}} {
		if speeds, steps, e := drive.Run(control("4"), span("[4,4]"), none, 0); len(speeds) != 0 || len(steps) != 0 || e != api.OK {
			t.Errorf("Run of no second: %s %v %v", texts(speeds), steps, e)
		}
	}
}

func TestP3_1RunErrors(t *testing.T) {
	for _, c := range []struct {
		speed   string
		seconds int
		want    api.Errno
	}{{"[4,4]", 256, api.OK}, {"[4,4]", 257, api.ErrSize}, {"[-1/1024,4]", 0, api.ErrArg}, {"[-1,4]", 257, api.ErrArg}, {"[-2,-1]", 3, api.ErrArg}} {
		speeds, steps, e := drive.Run(control("4"), span(c.speed), make([]dyad.Span, c.seconds), 0)
		length := c.seconds
		if c.want != api.OK {
			length = 0
		}
		if len(speeds) != length || len(steps) != length || e != c.want {
			t.Errorf("Run from %s for %d seconds: %d %d %v, want %v", c.speed, c.seconds, len(speeds), len(steps), e, c.want)
		}
	}
}

// control returns a control and a speed at which it can begin.
func (d dice) control() (drive.Control, dyad.Span) {
	c := drive.Control{Gain: d.num(0, 5).Add(num("1/32")), Low: d.num(2, 3), High: d.num(4, 3).Add(num("4"))}
	for range 1 + d.IntN(8) {
		c.Pushes = append(c.Pushes, d.signed(4, 2))
	}
	return c, dyad.Only(d.num(3, 6)).Hull(dyad.Only(d.num(3, 6)))
}

// forces returns forces for some seconds.
func (d dice) forces() []dyad.Span {
	var out []dyad.Span
	for range d.IntN(30) {
		out = append(out, d.wide(d.signed(4, 3), 1, 3))
	}
	return out
}

// Run, second by second, from what Choose and Next return.
func TestP3_1RunBySteps(t *testing.T) {
	d := newDice(31)
	chosen, unsafe := 0, 0
	for range 300 {
		c, speed := d.control()
		forces, k := d.forces(), d.IntN(12)-2
		speeds, steps, e := drive.Run(c, speed, forces, k)
		if e != api.OK || len(speeds) != len(forces) || len(steps) != len(forces) {
			t.Fatalf("Run: %d %d %v", len(speeds), len(steps), e)
		}
		for i, force := range forces {
			step, e := drive.Choose(c, speed, force, k)
			taken := step
			if e == api.ErrUnsafe {
				unsafe++
				step, taken = -1, len(c.Pushes)-1
			} else if chosen++; e != api.OK {
				t.Fatalf("Choose: %v", e)
			}
			speed = must[dyad.Span](t)(drive.Next(c, speed, taken, force, k))
			if steps[i] != step || speeds[i].Text() != speed.Text() {
				t.Fatalf("the second %d: %s %d, want %s %d", i, speeds[i].Text(), steps[i], speed.Text(), step)
			}
		}
	}
	if chosen < 100 || unsafe < 100 {
		t.Fatalf("%d steps were chosen, %d not", chosen, unsafe)
	}
}

// Choose, compared with Next of each step.
func TestP3_1ChooseBySteps(t *testing.T) {
	d := newDice(32)
	for range 500 {
		c, speed := d.control()
		force, k := d.wide(d.signed(4, 3), 1, 3), d.IntN(12)
		want, limits := -1, must[dyad.Span](t)(dyad.Make(c.Low, c.High))
		for i := range c.Pushes {
			s := must[dyad.Span](t)(drive.Next(c, speed, i, force, k))
			if want < 0 && s.In(limits) {
				want = i
			}
		}
		n, e := drive.Choose(c, speed, force, k)
		if want >= 0 && (n != want || e != api.OK) || want < 0 && (n != 0 || e != api.ErrUnsafe) {
			t.Fatalf("Choose: %d %v, want %d", n, e, want)
		}
	}
}

func TestP3_6Runs(t *testing.T) {
	d := newDice(33)
	for range 300 {
		c, speed := d.control()
		forces := d.forces()
		speeds, steps, e := drive.Run(c, speed, forces, d.IntN(12))
		if e != api.OK {
			t.Fatal(e)
		}
		for range 5 {
			actual := d.inside(speed)
			for i, force := range forces {
				push := c.Pushes[len(c.Pushes)-1]
				if steps[i] >= 0 {
					push = c.Pushes[steps[i]]
				}
				actual = actual.Add(c.Gain.Mul(push.Sub(d.inside(force))))
				if actual.Sign() < 0 {
					actual = dyad.Num{}
				}
				if !speeds[i].Has(actual) {
					t.Fatalf("the second %d: %s is not in %s", i, actual.Text(), speeds[i].Text())
				}
				if steps[i] != -1 && (actual.Cmp(c.Low) < 0 || actual.Cmp(c.High) > 0) {
					t.Fatalf("the second %d: %s is not from %s to %s", i, actual.Text(), c.Low.Text(), c.High.Text())
				}
			}
		}
	}
}
