package drive_test

import (
	"math"
	"slices"
	"testing"

	"wallgauge/api"
	"wallgauge/drive"
	"wallgauge/dyad"
)

// used are arguments, of which the lists have something behind their ends.
type used struct {
	p, q, pushes         []dyad.Num
	box, speeds          []dyad.Span
	dead, why            []int
	wholeP, wholePushes  []dyad.Num
	wholeBox, wholeSpeed []dyad.Span
	wholeDead, wholeWhy  []int
}

func newUsed() *used {
	u := &used{
		wholeP: nums("5 4 1 99 98"), wholePushes: nums("4 8 99"), wholeBox: spans("[1,2] [3,4] [5,6] [7,9]"), wholeSpeed: spans("[4,5] [5,7] [1,2] [9,9]"),
		wholeDead: []int{1, 0, 5, 77}, wholeWhy: []int{0, 1, 1, 77},
	}
	u.p, u.q, u.pushes, u.box, u.speeds = u.wholeP[:3], u.wholeP[:2], u.wholePushes[:2], u.wholeBox[:3], u.wholeSpeed[:3]
	u.dead, u.why = u.wholeDead[:3], u.wholeWhy[:3]
	return u
}

func (u *used) same(v *used) bool {
	return texts(u.wholeP) == texts(v.wholeP) && texts(u.wholePushes) == texts(v.wholePushes) && texts(u.wholeBox) == texts(v.wholeBox) && texts(u.wholeSpeed) == texts(v.wholeSpeed) &&
		slices.Equal(u.wholeDead, v.wholeDead) && slices.Equal(u.wholeWhy, v.wholeWhy)
}

// spoil changes a list, and what is behind its end.
func spoil[T any](l []T) {
	clear(l[:cap(l)])
}

func TestR4Memory(t *testing.T) {
	u := newUsed()
	c := drive.Control{Pushes: u.pushes, Gain: num("1/2"), Low: num("2"), High: num("6")}
	drive.Settle(nums("3 -1"), num("0"), num("8"), 0)
	drive.Settled(u.box[:2], num("0"), num("8"), 0)
	drive.Stable(u.box)
	drive.Margin(u.p, 3)
	drive.Next(c, u.speeds[0], 1, u.box[0], 3)
	drive.Choose(c, u.speeds[0], u.box[0], 3)
	drive.Dashes(u.speeds, num("1"))
	four, e := drive.Corners(u.box)
	if e != api.OK {
		t.Fatal(e)
	}
	before := texts(four[1]) + texts(four[3])
	spoil(four[0])
	spoil(four[2])
	if texts(four[1])+texts(four[3]) != before {
		t.Error("the four polynomials share memory")
	}
	for _, by := range []string{"0", "1"} {
		moved, _ := drive.Moved(u.p, num(by))
		spoil(moved)
	}
	for _, one := range [][]dyad.Num{nums("1"), nums("0")} {
		loop, _ := drive.Loop(one, u.q, one, nums("1"))
		spoil(loop)
		loop, _ = drive.Loop(u.q, one, nums("1"), one)
		spoil(loop)
	}
	speeds, steps, _ := drive.Run(c, u.speeds[0], u.box, 3)
	spoil(speeds)
	spoil(steps)
	why, _ := drive.Inspect(u.speeds, u.dead, num("2"), num("6"), 3)
	spoil(why)
	gaps, _ := drive.Gaps(u.why)
	spoil(gaps)
	dashes, _ := drive.Dashes(u.speeds, num("0"))
	spoil(dashes)
	if !u.same(newUsed()) {
		t.Errorf("the arguments became %+v", u)
	}
}

// All functions end without a panic, whatever the arguments are, and have zero values with an error.
func TestP1AnyArguments(t *testing.T) {
	huge := dyad.Int(1)
	for range 40 {
		huge, _ = huge.Shift(api.MaxBits)
	}
	numbers := []dyad.Num{{}, num("-1"), num("3/8"), huge, huge.Neg(), num("1").Add(unit(256))}
	lists := [][]dyad.Num{nil, {}, nums("1"), nums("0 0"), nums("5 4 1"), {huge, huge.Neg()}, {huge.Neg(), huge, huge}, long(), make([]dyad.Num, 9)}
	boxes := [][]dyad.Span{nil, {{}}, spans("[3,5] [-1,-1]"), spans("[1,2] [3,4] [5,6]"), {dyad.Only(huge), dyad.Only(huge).Hull(dyad.Only(num("1")))}, make([]dyad.Span, 300)}
	ints := []int{math.MinInt, -1, 0, 1, 8, 300, math.MaxInt}
	zero := func(what string, s dyad.Span, e api.Errno) {
		if e != api.OK && s.Text() != "[0,0]" {
			t.Errorf("%s: %s %v", what, s.Text(), e)
		}
	}
	for _, x := range numbers {
		for _, y := range numbers {
			both := dyad.Only(x).Hull(dyad.Only(y))
			for _, n := range ints {
				s, e := drive.Bypass(drive.Tool{Area: x, Pass: y}, n, both, n)
				zero("Bypass", s, e)
				s, e = drive.Speed(drive.Tool{Area: x, Pass: y}, both, n, both, 3)
				zero("Speed", s, e)
				for _, p := range lists {
					s, e = drive.Settle(p, x, y, n)
					zero("Settle", s, e)
					c := drive.Control{Pushes: p, Gain: x, Low: y, High: x}
					s, e = drive.Next(c, both, n, both, n)
					zero("Next", s, e)
					if step, e := drive.Choose(c, both, both, n); e != api.OK && step != 0 {
						t.Errorf("Choose: %d %v", step, e)
					}
				}
				for _, box := range boxes {
					s, e = drive.Settled(box, x, y, n)
					zero("Settled", s, e)
					if speeds, steps, e := drive.Run(drive.Control{Pushes: nums("1 2"), Gain: x, High: y}, both, box, n); e != api.OK && len(speeds)+len(steps) > 0 {
						t.Errorf("Run: %v", e)
					}
					if why, e := drive.Inspect(box, make([]int, len(box)), x, y, n); e != api.OK && len(why) > 0 {
						t.Errorf("Inspect: %v", e)
					}
				}
			}
		}
	}
	for _, p := range lists {
		for _, n := range ints {
			s, e := drive.Margin(p, n)
			zero("Margin", s, e)
		}
		for _, x := range numbers {
			if q, e := drive.Moved(p, x); e != api.OK && len(q) > 0 {
				t.Errorf("Moved: %v", e)
			}
		}
		for _, q := range lists {
			if l, e := drive.Loop(p, q, q, p); e != api.OK && len(l) > 0 {
				t.Errorf("Loop: %v", e)
			}
		}
	}
	for _, box := range boxes {
		if ok, i, e := drive.Stable(box); e != api.OK && (ok || i != 0) {
			t.Errorf("Stable: %v", e)
		}
		if dashes, e := drive.Dashes(box, huge.Neg()); e != api.ErrSize && e != api.ErrArg || len(dashes) > 0 {
			t.Errorf("Dashes: %v", e)
		}
	}
}
