package drive_test

import (
	"math"
	"slices"
	"testing"

	"wallgauge/api"
	"wallgauge/drive"
	"wallgauge/dyad"
)

func TestP3_1Reasons(t *testing.T) {
	if drive.Inspected != 0 || drive.Fast != 1 || drive.Slow != 2 || drive.Blind != 3 {
		t.Error("other reasons than the document's")
	}
}

func TestP3_1Inspect(t *testing.T) {
	for _, c := range []struct {
		speed           string
		dead, most, why int
	}{
		{"[2,6]", 3, 3, 0}, {"[2,6]", 0, 0, 0}, {"[3,4]", 0, 3, 0}, {"[2,6]", 4, 3, 3}, {"[2,6]", 1, 0, 3}, {"[2,6]", math.MaxInt, math.MaxInt, 0}, {"[2,6]", 1000, 999, 3},
		{"[2,6145/1024]", 0, 3, 1}, {"[7,8]", 0, 3, 1}, {"[2047/1024,6]", 0, 3, 2}, {"[0,1]", 0, 3, 2}, {"[-5,4]", 0, 3, 2},
		// The first reason that applies.
		{"[0,7]", 4, 3, 1}, {"[0,7]", 0, 3, 1}, {"[7,8]", 4, 3, 1}, {"[0,1]", 4, 3, 2},
	} {
		if why, e := drive.Inspect(spans(c.speed), []int{c.dead}, num("2"), num("6"), c.most); !slices.Equal(why, []int{c.why}) || e != api.OK {
			t.Errorf("Inspect %s with %d of %d dead: %v %v, want %d", c.speed, c.dead, c.most, why, e, c.why)
		}
	}
	if why, e := drive.Inspect(spans("[2,3] [9,9] [0,0] [4,4]"), []int{0, 0, 9, 9}, num("2"), num("6"), 3); !slices.Equal(why, []int{0, 1, 2, 3}) || e != api.OK {
		t.Errorf("Inspect: %v %v", why, e)
	}
	if why, e := drive.Inspect(spans("[6,6] [6,7]"), []int{0, 0}, num("6"), num("6"), 0); !slices.Equal(why, []int{0, 1}) || e != api.OK {
		t.Errorf("Inspect with one speed: %v %v", why, e)
	}
	for _, none := range [][]int{nil, {}} {
		if why, e := drive.Inspect(nil, none, num("2"), num("6"), 0); len(why) != 0 || e != api.OK {
			t.Errorf("Inspect of no second: %v %v", why, e)
		}
	}
}

func TestP3_1InspectErrors(t *testing.T) {
	for _, c := range []struct {
		speeds    int
		dead      []int
		low, high string
		most      int
		want      api.Errno
	}{
		{256, make([]int, 256), "2", "6", 0, api.OK}, {257, make([]int, 257), "2", "6", 0, api.ErrSize}, {257, make([]int, 257), "6", "2", -1, api.ErrSize}, {1, nil, "2", "6", 0, api.ErrSize}, {0, []int{1}, "2", "6", 0, api.ErrSize},
		{2, []int{1, 1, 1}, "2", "6", 0, api.ErrSize}, {2, []int{-1}, "6", "2", -1, api.ErrSize}, {1, []int{-1}, "6", "2", -1, api.ErrOrder}, {0, nil, "2", "2047/1024", 0, api.ErrOrder},
		{1, []int{0}, "2", "6", -1, api.ErrArg}, {0, nil, "2", "6", math.MinInt, api.ErrArg}, {1, []int{-1}, "2", "6", 0, api.ErrArg}, {3, []int{0, 0, math.MinInt}, "2", "6", 0, api.ErrArg}, {3, []int{0, -1, 0}, "2", "6", 9, api.ErrArg},
	} {
		why, e := drive.Inspect(make([]dyad.Span, c.speeds), c.dead, num(c.low), num(c.high), c.most)
		if e != c.want || len(why) != 0 && e != api.OK {
			t.Errorf("Inspect of %d speeds, %d dead, from %s to %s, %d at most: %v %v, want %v", c.speeds, len(c.dead), c.low, c.high, c.most, why, e, c.want)
		}
	}
}

func TestP3_1Gaps(t *testing.T) {
	for _, c := range []struct {
		why  []int
		want []api.Gap
	}{
		{[]int{0, 1, 1, 2, 0, 3}, []api.Gap{{From: 1, To: 3, Why: 1}, {From: 3, To: 4, Why: 2}, {From: 5, To: 6, Why: 3}}}, {nil, nil}, {[]int{}, nil}, {[]int{0}, nil}, {[]int{0, 0, 0}, nil},
		{[]int{3}, []api.Gap{{From: 0, To: 1, Why: 3}}}, {[]int{2, 2, 2}, []api.Gap{{From: 0, To: 3, Why: 2}}}, {[]int{1, 0, 1}, []api.Gap{{From: 0, To: 1, Why: 1}, {From: 2, To: 3, Why: 1}}}, {[]int{3, 1, 1, 0}, []api.Gap{{From: 0, To: 1, Why: 3}, {From: 1, To: 3, Why: 1}}},
		{slices.Repeat([]int{1}, 256), []api.Gap{{From: 0, To: 256, Why: 1}}},
	} {
		if gaps, e := drive.Gaps(c.why); !slices.Equal(gaps, c.want) || e != api.OK {
			t.Errorf("Gaps of %v: %v %v, want %v", c.why, gaps, e, c.want)
		}
	}
	for _, c := range []struct {
		why  []int
		want api.Errno
	}{
		{make([]int, 257), api.ErrSize}, {slices.Repeat([]int{4}, 257), api.ErrSize}, {[]int{4}, api.ErrArg}, {[]int{-1}, api.ErrArg}, {[]int{0, 1, math.MaxInt}, api.ErrArg}, {[]int{1, math.MinInt, 1}, api.ErrArg}, {slices.Repeat([]int{4}, 256), api.ErrArg},
	} {
		if gaps, e := drive.Gaps(c.why); len(gaps) != 0 || e != c.want {
			t.Errorf("Gaps: %v %v, want %v", gaps, e, c.want)
		}
	}
}

func TestP3_1Dashes(t *testing.T) {
	for _, c := range []struct {
		speeds, rise string
		want         []int
	}{
		{"[1,2] [2,4] [4,4] [1,1]", "2", []int{1}}, {"[1,2] [2,4] [4,4] [1,1]", "3", nil}, {"[1,2] [2,4] [4,4] [1,1]", "3071/1024", []int{1}}, {"[1,2] [2,4] [4,4] [1,1]", "0", []int{1, 2}}, {"[3,3] [3,3]", "0", nil}, {"[2,3] [2,3] [2,3]", "0", []int{1, 2}},
		{"[9,9]", "0", nil}, {"", "0", nil}, {"[0,9] [-9,9] [-9,9]", "9", []int{2}}, {"[0,9] [-9,9] [-9,9]", "17", []int{2}}, {"[0,9] [-9,9] [-9,9]", "18", nil}, {"[5,6] [1,2]", "0", nil},
	} {
		if dashes, e := drive.Dashes(spans(c.speeds), num(c.rise)); !slices.Equal(dashes, c.want) || e != api.OK {
			t.Errorf("Dashes of %s with %s: %v %v, want %v", c.speeds, c.rise, dashes, e, c.want)
		}
	}
	for _, c := range []struct {
		speeds int
		rise   string
		want   api.Errno
	}{{256, "0", api.OK}, {257, "0", api.ErrSize}, {257, "-1", api.ErrSize}, {256, "-1/1024", api.ErrArg}, {0, "-1", api.ErrArg}} {
		if dashes, e := drive.Dashes(make([]dyad.Span, c.speeds), num(c.rise)); len(dashes) != 0 || e != c.want {
			t.Errorf("Dashes of %d speeds with %s: %v %v, want %v", c.speeds, c.rise, dashes, e, c.want)
		}
	}
}

// seconds returns speeds and dead sensors for some seconds.
func (d dice) seconds() ([]dyad.Span, []int) {
	var speeds []dyad.Span
	var dead []int
	for range d.IntN(40) {
		speeds = append(speeds, d.wide(d.num(3, 1), 0, 1))
		dead = append(dead, d.IntN(4))
	}
	return speeds, dead
}

func TestP3_7Seconds(t *testing.T) {
	d := newDice(41)
	for range 500 {
		speeds, dead := d.seconds()
		why := must[[]int](t)(drive.Inspect(speeds, dead, num("1"), num("7"), 2))
		gaps := must[[]api.Gap](t)(drive.Gaps(why))
		count := make([]int, len(why))
		for i, g := range gaps {
			if g.From >= g.To || i > 0 && (g.From < gaps[i-1].To || g.From == gaps[i-1].To && g.Why == gaps[i-1].Why) {
				t.Fatalf("Gaps of %v: %v", why, gaps)
			}
			for s := g.From; s < g.To; s++ {
				count[s]++
				if why[s] != g.Why {
					t.Fatalf("Gaps of %v: %v", why, gaps)
				}
			}
		}
		for s, reason := range why {
			if (reason == drive.Inspected) != (count[s] == 0) || count[s] > 1 {
				t.Fatalf("the second %d of %v is in %d of %v", s, why, count[s], gaps)
			}
		}
	}
}

func TestP3_7WiderLimits(t *testing.T) {
	d := newDice(42)
	for range 500 {
		speeds, dead := d.seconds()
		low, high, most := d.num(2, 1), d.num(2, 1).Add(num("4")), d.IntN(4)
		why := must[[]int](t)(drive.Inspect(speeds, dead, low, high, most))
		for _, c := range []struct {
			low, high dyad.Num
			most      int
		}{{low.Sub(d.num(2, 1)), high, most}, {low, high.Add(d.num(2, 1)), most}, {low, high, most + d.IntN(3)}, {low.Sub(d.num(2, 1)), high.Add(d.num(2, 1)), most + 1}} {
			wider := must[[]int](t)(drive.Inspect(speeds, dead, c.low, c.high, c.most))
			for s := range why {
				if why[s] == drive.Inspected && wider[s] != drive.Inspected {
					t.Fatalf("the second %d is lost: %v %v", s, why, wider)
				}
			}
		}
	}
}

// Each reason, found by asking each second again with all other limits gone.
func TestP3_1InspectByLimits(t *testing.T) {
	d := newDice(43)
	for range 300 {
		speeds, dead := d.seconds()
		why := must[[]int](t)(drive.Inspect(speeds, dead, num("1"), num("7"), 2))
		if len(why) != len(speeds) {
			t.Fatalf("%d of %d seconds", len(why), len(speeds))
		}
		for i, s := range speeds {
			want := drive.Inspected
			if dead[i] > 2 {
				want = drive.Blind
			}
			if s.Lo().Cmp(num("1")) < 0 {
				want = drive.Slow
			}
			if s.Hi().Cmp(num("7")) > 0 {
				want = drive.Fast
			}
			if why[i] != want {
				t.Fatalf("Inspect %s with %d dead: %d, want %d", s.Text(), dead[i], why[i], want)
			}
		}
	}
}

func TestP3_1DashesByPairs(t *testing.T) {
	d := newDice(44)
	for range 300 {
		speeds, _ := d.seconds()
		rise := d.num(2, 1)
		var want []int
		for i := 1; i < len(speeds); i++ {
			if speeds[i].Hi().Cmp(speeds[i-1].Lo().Add(rise)) > 0 {
				want = append(want, i)
			}
		}
		if dashes, e := drive.Dashes(speeds, rise); !slices.Equal(dashes, want) || e != api.OK {
			t.Fatalf("Dashes of %s with %s: %v %v, want %v", texts(speeds), rise.Text(), dashes, e, want)
		}
	}
}
