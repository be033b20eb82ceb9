package echo_test

import (
	"math"
	"testing"

	"wallgauge/api"
	"wallgauge/dyad"
	"wallgauge/echo"
)

// beam returns a beam with a Size.
func beam(size string, at int) echo.Beam { return echo.Beam{Size: num(size), At: at} }

func TestP6_1Classify(t *testing.T) {
	four := echo.Rules{Least: num("4"), Straight: num("3"), Apart: 2}
	for _, c := range []struct {
		left, right echo.Beam
		straight    string
		apart, want int
	}{
		{beam("9", 20), beam("16", 22), "0", 2, echo.Crack}, {beam("9", 20), beam("16", 22), "0", 1, echo.Unclear}, {beam("9", 22), beam("16", 20), "0", 1, echo.Unclear}, {beam("9", 22), beam("16", 20), "0", 2, echo.Crack}, {beam("9", 20), beam("16", 20), "0", 0, echo.Crack}, {beam("9", 20), beam("16", 21), "0", 0, echo.Unclear},
		{beam("4", 20), beam("4", 21), "9", 2, echo.Crack}, {beam("4", 20), beam("4", 29), "9", 2, echo.Unclear}, {beam("4", 20), beam("4", 29), "0", 2, echo.Unclear}, {beam("4", 0), beam("4", 1<<20), "0", 1 << 20, echo.Crack}, {beam("4", 0), beam("4", 1<<20), "0", 1<<20 - 1, echo.Unclear}, {beam("4", 1<<20), beam("4", 0), "0", math.MaxInt, echo.Crack},
		{beam("4", 20), beam("15/4", 20), "0", 2, echo.Unclear}, {beam("15/4", 20), beam("4", 20), "0", 2, echo.Unclear}, {beam("15/4", 20), beam("4", 20), "3", 2, echo.Unclear}, {beam("4", 20), beam("0", 90), "3", 2, echo.Unclear},
		{beam("15/4", 20), beam("15/4", 20), "3", 2, echo.Lamination}, {beam("0", 20), beam("0", 90), "99", 2, echo.Lamination}, {beam("15/4", 20), beam("15/4", 20), "11/4", 2, echo.Nothing}, {beam("0", 0), beam("0", 0), "0", 0, echo.Nothing},
	} {
		r := four
		r.Apart = c.apart
		if class, e := echo.Classify(c.left, c.right, num(c.straight), r); class != c.want || e != api.OK {
			t.Errorf("Classify of %s at %d, %s at %d and %s with %d: %d %v, want %d", c.left.Size.Text(), c.left.At, c.right.Size.Text(), c.right.At, c.straight, c.apart, class, e, c.want)
		}
	}
	if echo.Nothing != 0 || echo.Crack != 1 || echo.Lamination != 2 || echo.Unclear != 3 {
		t.Errorf("the classes are %d, %d, %d and %d", echo.Nothing, echo.Crack, echo.Lamination, echo.Unclear)
	}
}

func TestP6_1ClassifyErrors(t *testing.T) {
	good := echo.Rules{Least: num("4"), Straight: num("4"), Apart: 2}
	few := unit(256)
	for _, r := range []echo.Rules{
		{Least: num("0"), Straight: num("4"), Apart: 2}, {Least: num("4"), Straight: num("0"), Apart: 2}, {Least: few.Neg(), Straight: num("4"), Apart: 2}, {Least: num("4"), Straight: few.Neg(), Apart: 2}, {Least: num("4"), Straight: num("4"), Apart: -1}, {Least: num("4"), Straight: num("4"), Apart: math.MinInt}, {},
	} {
		if class, e := echo.Classify(beam("9", 20), beam("9", 20), num("1"), r); class != 0 || e != api.ErrArg {
			t.Errorf("Classify with the rules %s, %s and %d: %d %v", r.Least.Text(), r.Straight.Text(), r.Apart, class, e)
		}
	}
	for _, bad := range []echo.Beam{{Size: few.Neg()}, beam("-9", 20), beam("9", -1), beam("9", 1<<20+1), beam("9", math.MinInt), beam("9", math.MaxInt), beam("0", -1)} {
		for _, beams := range [][2]echo.Beam{{bad, beam("9", 20)}, {beam("9", 20), bad}, {bad, bad}} {
			if class, e := echo.Classify(beams[0], beams[1], num("1"), good); class != 0 || e != api.ErrArg {
				t.Errorf("Classify of %s at %d: %d %v", bad.Size.Text(), bad.At, class, e)
			}
		}
	}
	if class, e := echo.Classify(beam("9", 20), beam("9", 20), few.Neg(), good); class != 0 || e != api.ErrArg {
		t.Errorf("Classify with a straight beam below 0: %d %v", class, e)
	}
	if class, e := echo.Classify(beam("0", 0), beam("0", 1<<20), dyad.Num{}, echo.Rules{Least: few, Straight: few}); class != echo.Nothing || e != api.OK {
		t.Errorf("Classify with the least rules: %d %v", class, e)
	}
}

func TestP6_6Classes(t *testing.T) {
	d := newDice(11)
	var told [4]int
	for range 1000 {
		left, right := echo.Beam{Size: d.num(2, 1), At: d.from(0, 6)}, echo.Beam{Size: d.num(2, 1), At: d.from(0, 6)}
		straight := d.num(2, 1)
		r := echo.Rules{Least: d.num(2, 1).Add(unit(1)), Straight: d.num(2, 1).Add(unit(1)), Apart: d.from(0, 4)}
		class := must[int](t)(echo.Classify(left, right, straight, r))
		told[class]++
		if mirrored := must[int](t)(echo.Classify(right, left, straight, r)); mirrored != class {
			t.Fatalf("the class is %d, mirrored %d", class, mirrored)
		}
		seen := 0
		for _, b := range []echo.Beam{left, right} {
			if b.Size.Cmp(r.Least) >= 0 {
				seen++
			}
		}
		if class == echo.Crack && seen != 2 || class == echo.Lamination && seen != 0 || class == echo.Unclear && seen == 0 || class == echo.Nothing && seen != 0 {
			t.Fatalf("the class is %d, %d beams see", class, seen)
		}
		higher := r
		higher.Least = r.Least.Add(d.num(1, 1))
		if above := must[int](t)(echo.Classify(left, right, straight, higher)); above == echo.Crack && class != echo.Crack {
			t.Fatalf("with a higher Least the class %d becomes a Crack", class)
		}
	}
	for class, n := range told {
		if n < 20 {
			t.Errorf("the class %d was told only %d times", class, n)
		}
	}
}
