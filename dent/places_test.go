package dent_test

import (
	"math"
	"testing"

	"wallgauge/api"
	"wallgauge/dent"
)

func TestP7_1OnWeld(t *testing.T) {
	for _, c := range []struct {
		welds        []int
		from, to, by int
		want         int
	}{
		{nil, 10, 20, 5, -1},
		{[]int{4, 5, 15}, 10, 20, 5, 1},
		{[]int{26, 25, 15}, 10, 20, 5, 1},
		{[]int{4, 26}, 10, 20, 5, -1},
		{[]int{9, 10, 20}, 10, 20, 0, 1},
		{[]int{21, 20}, 10, 20, 0, 1},
		{[]int{11, 10}, 10, 10, 0, 1},
		{[]int{-1, -4, -5}, 1, 2, 5, 0}, // ahead of the launcher
		{[]int{math.MinInt, math.MaxInt, -1<<30 - 1, 1<<31 + 1}, 0, 1 << 30, 1 << 30, -1},
		{[]int{math.MinInt, math.MaxInt, -1 << 30, 1 << 31}, 0, 1 << 30, 1 << 30, 2},
		{[]int{math.MinInt, math.MaxInt, 1 << 31}, 0, 1 << 30, 1 << 30, 2},
		{with(64, 0, 63, 7), 7, 7, 0, 63},
	} {
		if got := must[int](t)(dent.OnWeld(c.welds, c.from, c.to, c.by)); got != c.want {
			t.Errorf("OnWeld of %v, %d to %d, by %d is %d, want %d", c.welds, c.from, c.to, c.by, got, c.want)
		}
	}
	d := newDice(51)
	for range 300 {
		welds, from, by := d.ints(d.from(0, 6), -20, 100), d.from(0, 80), d.from(0, 9)
		to, want := from+d.from(0, 9), -1
		for i := len(welds) - 1; i >= 0; i-- {
			for place := from - by; place <= to+by; place++ {
				if welds[i] == place {
					want = i
				}
			}
		}
		if got := must[int](t)(dent.OnWeld(welds, from, to, by)); got != want {
			t.Errorf("OnWeld of %v, %d to %d, by %d is %d, want %d", welds, from, to, by, got, want)
		}
	}
}

func TestP7_1ErrorsOfOnWeld(t *testing.T) {
	check := func(welds, from, to, by int, want api.Errno) {
		t.Helper()
		if got, e := dent.OnWeld(make([]int, welds), from, to, by); e != want || e != api.OK && got != 0 {
			t.Errorf("OnWeld of %d welds, %d to %d, by %d: %d %v, want %v", welds, from, to, by, got, e, want)
		}
	}
	check(64, 0, 1<<30, 1<<30, api.OK)
	check(65, 0, 1<<30, 1<<30, api.ErrSize)
	check(65, 5, 4, -1, api.ErrSize)
	for _, bad := range []int{-1, 1<<30 + 1, math.MinInt, math.MaxInt} {
		check(1, bad, 1<<30, 0, api.ErrArg)
		check(1, 0, bad, 0, api.ErrArg)
		check(1, 0, 1<<30, bad, api.ErrArg)
		check(1, 1, 0, bad, api.ErrArg) // ahead of ErrOrder
	}
	check(1, 1<<30, 1<<30, 1, api.OK)
	check(1, 1, 0, 1, api.ErrOrder)
	check(0, 1<<30, 1<<30-1, 1<<30, api.ErrOrder)
}

func TestP7_1Clock(t *testing.T) {
	for _, c := range []struct{ arm, arms, roll, want int }{
		{3, 12, 60, 240}, // the document's example
		{0, 1, 0, 0},
		{0, 1, 719, 719},
		{1, 64, 0, 11}, // 11.25
		{63, 64, 0, 708},
		{63, 64, 11, 719},
		{63, 64, 12, 0},
		{63, 64, 719, 707},
		{6, 7, 0, 617}, // 617.1
	} {
		if got := must[int](t)(dent.Clock(c.arm, c.arms, c.roll)); got != c.want {
			t.Errorf("Clock of arm %d of %d, rolled by %d, is %d, want %d", c.arm, c.arms, c.roll, got, c.want)
		}
	}
	for arms := 1; arms <= 64; arms++ {
		for arm := range arms {
			for _, roll := range []int{0, 1, 300, 719} {
				got := must[int](t)(dent.Clock(arm, arms, roll))
				// Without its roll the arm would be at a minute that begins at most at 720 arm/arms, and ends above it.
				m := (got - roll + 720) % 720
				if got < 0 || got > 719 || m*arms > 720*arm || (m+1)*arms <= 720*arm {
					t.Errorf("Clock of arm %d of %d, rolled by %d, is %d", arm, arms, roll, got)
				}
			}
		}
	}
}

func TestP7_1ErrorsOfClock(t *testing.T) {
	check := func(arm, arms, roll int, want api.Errno) {
		t.Helper()
		if got, e := dent.Clock(arm, arms, roll); e != want || e != api.OK && got != 0 {
			t.Errorf("Clock of arm %d of %d, rolled by %d: %d %v, want %v", arm, arms, roll, got, e, want)
		}
	}
	for _, bad := range []int{-1, 720, math.MinInt, math.MaxInt} {
		check(0, 1, bad, api.ErrArg)
		check(5, 12, bad, api.ErrArg)
	}
	for _, bad := range []int{0, -1, 65, math.MinInt, math.MaxInt} {
		check(0, bad, 0, api.ErrArg)
	}
	for _, bad := range []int{-1, 12, 13, math.MinInt, math.MaxInt} {
		check(bad, 12, 0, api.ErrArg)
	}
	check(1, 1, 0, api.ErrArg)
	check(11, 12, 719, api.OK)
	check(64, 64, 0, api.ErrArg)
	check(63, 64, 0, api.OK)
}

func TestP7_8Clock(t *testing.T) {
	for arms := 1; arms <= 64; arms++ {
		at := map[int]int{}
		for arm := range arms {
			m := must[int](t)(dent.Clock(arm, arms, 0))
			if other, taken := at[m]; taken {
				t.Errorf("the arms %d and %d of %d are both at %d", other, arm, arms, m)
			}
			at[m] = arm
		}
		for roll := range 720 {
			arm := roll % arms
			got := must[int](t)(dent.Clock(arm, arms, roll))
			if want := (must[int](t)(dent.Clock(arm, arms, 0)) + roll) % 720; got != want {
				t.Errorf("a roll by %d moves arm %d of %d to %d, want %d", roll, arm, arms, got, want)
			}
		}
	}
}

// How far each minute is from a minute of the lower third is counted by stepping around the clock.
func TestP7_1Restrained(t *testing.T) {
	for minutes := range 720 {
		near := 0
		lower := func(m int) bool { m = (m + 1440) % 720; return m >= 240 && m <= 480 }
		for !lower(minutes-near) && !lower(minutes+near) {
			near++
		}
		for width := 0; width <= 360; width++ {
			if got := must[bool](t)(dent.Restrained(minutes, width)); got != (width >= near) {
				t.Errorf("Restrained at %d by %d is %t, but the lower third is %d away", minutes, width, got, near)
			}
		}
	}
}

func TestP7_1ErrorsOfRestrained(t *testing.T) {
	for _, bad := range []int{-1, 720, math.MinInt, math.MaxInt} {
		if got, e := dent.Restrained(bad, 360); e != api.ErrArg || got {
			t.Errorf("Restrained at %d: %t %v", bad, got, e)
		}
	}
	for _, bad := range []int{-1, 361, math.MinInt, math.MaxInt} {
		if got, e := dent.Restrained(300, bad); e != api.ErrArg || got {
			t.Errorf("Restrained by %d: %t %v", bad, got, e)
		}
	}
}
