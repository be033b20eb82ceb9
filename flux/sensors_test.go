package flux_test

import (
	"math"
	"slices"
	"strings"
	"testing"

	"wallgauge/api"
	"wallgauge/flux"
)

// table returns rings that all have the readings 0.
func table(rings, sensors int) [][]float32 {
	out := make([][]float32, rings)
	for i := range out {
		out[i] = make([]float32, sensors)
	}
	return out
}

// badRings returns rings with an error.
func badRings() map[string][][]float32 {
	return map[string][][]float32{
		"nil": nil, "none": {}, "129 rings": table(129, 2), "an empty ring": {{}}, "a nil ring": {nil}, "nil rings": make([][]float32, 3), "one sensor": {{1}}, "two rings of one sensor": {{1}, {2}}, "65 sensors": table(1, 65),
		"a short ring": {{1, 2, 3}, {4, 5, 6}, {7, 8}}, "a long ring": {{1, 2}, {3, 4, 5}}, "a nil ring at the end": {{1, 2}, nil}, "a short ring ahead": {{1}, {2, 3}},
	}
}

func TestP5_1Check(t *testing.T) {
	for what, rings := range badRings() {
		if e := flux.Check(rings); e != api.ErrSize {
			t.Errorf("%s: %v", what, e)
		}
	}
	for _, rings := range [][][]float32{table(1, 2), table(128, 64), table(1, 64), table(128, 2), {{nan, inf}, {-inf, 1}}} {
		if e := flux.Check(rings); e != api.OK {
			t.Errorf("%d rings of %d sensors: %v", len(rings), len(rings[0]), e)
		}
	}
}

// column returns rings of two sensors, of which the first one reads what is given, and the second one lives.
func column(readings ...float32) [][]float32 {
	var out [][]float32
	for i, v := range readings {
		out = append(out, []float32{v, float32(i) / 1024})
	}
	return out
}

func TestP5_1Dead(t *testing.T) {
	for _, c := range []struct {
		readings []float32
		full     float32
		most     int
		want     bool
	}{
		{[]float32{1, 2, 3}, 9, 0, false}, {[]float32{1, 1, 2}, 9, 0, false}, {[]float32{2, 1, 1}, 9, 0, false}, {[]float32{1, 2, 1}, 9, 0, false},
		{[]float32{1, nan}, 9, 5, true}, {[]float32{nan, 1}, 9, 5, true}, {[]float32{nan, nan}, 9, 5, true}, {[]float32{1, 2, inf}, 9, 5, true}, {[]float32{-inf, 2, 3}, 9, 5, true}, {[]float32{nan}, 9, 5, true}, {[]float32{inf}, 9, 5, true}, {[]float32{-inf}, 9, 5, true},
		{[]float32{5, 5}, 9, 5, true}, {[]float32{5, 5, 5, 5}, 9, 5, true}, {[]float32{0, minus, 0}, 9, 5, true}, {[]float32{minus, 0}, 9, 5, true}, {[]float32{5}, 9, 5, false}, {[]float32{0}, 9, 5, false}, {[]float32{0, tiny}, 9, 5, false}, {[]float32{5, 5, -5}, 9, 5, false},
		{[]float32{9, 1}, 9, 0, true}, {[]float32{-9, 1}, 9, 0, true}, {[]float32{8.75, 1}, 9, 0, false}, {[]float32{9.25, 1}, 9, 0, true}, {[]float32{-9.25, 1}, 9, 0, true}, {[]float32{-8.75, 1}, 9, 0, false}, {[]float32{9}, 9, 0, true}, {[]float32{9}, 9, 1, false},
		{[]float32{9, -9, 1}, 9, 1, true}, {[]float32{9, -9, 1}, 9, 2, false}, {[]float32{9, 1, 10}, 9, 1, true}, {[]float32{9, 1, 10, -11}, 9, 2, true}, {[]float32{9, 1, 10, -11}, 9, 3, false}, {[]float32{9, -9}, 9, math.MaxInt, false}, {[]float32{9, 9}, 9, math.MaxInt, true},
		{[]float32{huge, 1}, huge, 0, true}, {[]float32{huge, 1}, huge, 1, false}, {[]float32{tiny, 0}, tiny, 0, true}, {[]float32{-tiny, 0}, tiny, 0, true},
	} {
		dead, e := flux.Dead(column(c.readings...), c.full, c.most)
		if e != api.OK || len(dead) != 2 || dead[0] != c.want {
			t.Errorf("Dead of %v, saturated from %v on, at most %d: %v %v, want %v", c.readings, c.full, c.most, dead, e, c.want)
		}
	}
	rings := [][]float32{{1, nan, 7, 4, 9}, {2, 1, 7, -9, 9}, {1, 2, 7, 5, 1}}
	if dead, e := flux.Dead(rings, 9, 1); !slices.Equal(dead, digits("01101")) || e != api.OK {
		t.Errorf("Dead of five sensors: %v %v", dead, e)
	}
	if dead, e := flux.Dead(table(128, 64), 1, 0); len(dead) != 64 || slices.Contains(dead, false) || e != api.OK {
		t.Errorf("Dead of the most sensors: %v %v", dead, e)
	}
}

func TestP5_1DeadErrors(t *testing.T) {
	for what, rings := range badRings() {
		for _, full := range []float32{1, nan} {
			if dead, e := flux.Dead(rings, full, -1); len(dead) != 0 || e != api.ErrSize {
				t.Errorf("Dead of %s: %v %v", what, dead, e)
			}
		}
	}
	for _, full := range []float32{0, minus, -tiny, -1, nan, inf, -inf} {
		if dead, e := flux.Dead(table(2, 2), full, 0); len(dead) != 0 || e != api.ErrArg {
			t.Errorf("Dead with %v: %v %v", full, dead, e)
		}
	}
	for _, most := range []int{-1, math.MinInt} {
		if dead, e := flux.Dead(table(2, 2), 1, most); len(dead) != 0 || e != api.ErrArg {
			t.Errorf("Dead with at most %d: %v %v", most, dead, e)
		}
	}
}

func TestP5_1Longest(t *testing.T) {
	for _, c := range []struct {
		word string
		want int
	}{
		{"1001", 2}, {"00", 0}, {"10", 1}, {"01", 1}, {"11", 2}, {"0110", 2}, {"1011", 3}, {"10110111", 4}, {"0111011011", 3}, {"1101", 3}, {"1010", 1},
		{strings.Repeat("1", 64), 64}, {strings.Repeat("0", 64), 0}, {strings.Repeat("1", 63) + "0", 63}, {strings.Repeat("1", 30) + "0" + strings.Repeat("1", 33), 63},
	} {
		if n, e := flux.Longest(digits(c.word)); n != c.want || e != api.OK {
			t.Errorf("Longest of %s: %d %v, want %d", c.word, n, e, c.want)
		}
	}
	for _, n := range []int{0, 1, 65, 1000} {
		if got, e := flux.Longest(make([]bool, n)); got != 0 || e != api.ErrSize {
			t.Errorf("Longest of %d sensors: %d %v", n, got, e)
		}
	}
	if got, e := flux.Longest(nil); got != 0 || e != api.ErrSize {
		t.Errorf("Longest of nil: %d %v", got, e)
	}
}

// Each number of neighbours is tried at each place.
func TestP5_1LongestOfAll(t *testing.T) {
	for sensors := 2; sensors <= 9; sensors++ {
		for set := range uint64(1) << sensors {
			dead := make([]bool, sensors)
			want := 0
			for from := range sensors {
				dead[from] = set>>from&1 == 1
				for n := 0; n <= sensors; n++ {
					row := movedSet(1<<n-1, from, sensors)
					if set&row == row {
						want = max(want, n)
					}
				}
			}
			if n, e := flux.Longest(dead); n != want || e != api.OK {
				t.Fatalf("Longest of %v: %d %v, want %d", dead, n, e, want)
			}
		}
	}
}

func TestP5_1Base(t *testing.T) {
	for _, c := range []struct {
		ring []float32
		dead string
		want string
	}{
		{[]float32{3, 1, 2, 4}, "0000", "2"}, {[]float32{3, 1, 2, 4}, "1000", "2"}, {[]float32{3, 1, 2, 4}, "0001", "2"}, {[]float32{3, 1, 2, 4}, "0100", "3"}, {[]float32{3, 1, 2, 4}, "0110", "3"}, {[]float32{3, 1, 2, 4}, "1110", "4"},
		{[]float32{5, 4, 3, 2, 1}, "00000", "3"}, {[]float32{-1, -3}, "00", "-3"}, {[]float32{-1.5, 0.375}, "10", "3/8"}, {[]float32{7, 7, 1}, "000", "7"}, {[]float32{0, minus, minus}, "000", "0"}, {[]float32{minus, minus}, "00", "0"},
		{[]float32{nan, 2, inf, 1}, "1010", "1"}, {[]float32{nan, 2, -inf}, "101", "2"}, {[]float32{0.1, 9}, "01", "13421773/134217728"}, {[]float32{-huge, huge}, "00", "-340282346638528859811704183484516925440"}, {[]float32{tiny, 1}, "00", unit(149).Text()},
	} {
		if x, e := flux.Base(c.ring, digits(c.dead)); x.Text() != c.want || e != api.OK {
			t.Errorf("Base of %v without %s: %s %v, want %s", c.ring, c.dead, x.Text(), e, c.want)
		}
	}
}

func TestP5_1BaseOfMany(t *testing.T) {
	d := newDice(1)
	for range 500 {
		sensors := d.from(2, 64)
		ring, dead := d.rings(1, sensors)[0], d.flags(sensors, 3)
		var living []float64
		wrong := false
		for k, v := range ring {
			if !dead[k] {
				living, wrong = append(living, float64(v)), wrong || !finite(v)
			}
		}
		x, e := flux.Base(ring, dead)
		switch {
		case len(living) == 0:
			if e != api.ErrDead {
				t.Fatalf("Base of no living sensor: %v", e)
			}
		case wrong:
			if !x.Zero() || e != api.ErrArg {
				t.Fatalf("Base of %v: %s %v", living, x.Text(), e)
			}
		default:
			slices.Sort(living)
			if want := living[(len(living)-1)/2]; x.Near() != want || e != api.OK {
				t.Fatalf("Base of %v: %s %v, want %v", living, x.Text(), e, want)
			}
		}
	}
}

func TestP5_1BaseErrors(t *testing.T) {
	for _, c := range []struct {
		ring []float32
		dead string
		want api.Errno
	}{
		{nil, "", api.ErrSize}, {[]float32{}, "", api.ErrSize}, {[]float32{nan}, "1", api.ErrSize}, {make([]float32, 65), strings.Repeat("1", 65), api.ErrSize}, {make([]float32, 64), strings.Repeat("1", 64), api.ErrDead}, {make([]float32, 64), strings.Repeat("0", 64), api.OK},
		{[]float32{1, nan}, "", api.ErrSize}, {[]float32{1, nan}, "1", api.ErrSize}, {[]float32{1, nan}, "111", api.ErrSize}, {[]float32{nan, inf}, "11", api.ErrDead}, {[]float32{1, 2}, "11", api.ErrDead},
		{[]float32{nan, 1}, "00", api.ErrArg}, {[]float32{inf, 1}, "00", api.ErrArg}, {[]float32{1, -inf}, "00", api.ErrArg}, {[]float32{1, 2, nan}, "100", api.ErrArg}, {[]float32{1, 2, nan}, "001", api.OK},
	} {
		if x, e := flux.Base(c.ring, digits(c.dead)); e != c.want || e != api.OK && !x.Zero() {
			t.Errorf("Base of %v without %s: %s %v, want %v", c.ring, c.dead, x.Text(), e, c.want)
		}
	}
	if _, e := flux.Base([]float32{1, 2}, nil); e != api.ErrSize {
		t.Errorf("Base without a list of the dead: %v", e)
	}
}

func TestP5_3Sensors(t *testing.T) {
	d := newDice(2)
	for range 300 {
		rings, sensors := d.from(1, 5), d.from(2, 64)
		readings, by := d.rings(rings, sensors), d.from(0, sensors)
		if d.IntN(2) == 0 {
			for _, ring := range readings {
				ring[0] = 5
			}
		}
		dead := must[[]bool](t)(flux.Dead(readings, 4, 1))
		if turned := must[[]bool](t)(flux.Dead(movedRows(readings, by), 4, 1)); !slices.Equal(turned, moved(dead, by)) {
			t.Fatalf("Dead of %v moved by %d: %v, want %v", readings, by, turned, moved(dead, by))
		}
		if a, b := must[int](t)(flux.Longest(dead)), must[int](t)(flux.Longest(moved(dead, by))); a != b {
			t.Fatalf("Longest of %v: %d, moved by %d: %d", dead, a, by, b)
		}
		x, e := flux.Base(readings[0], dead)
		if y, f := flux.Base(moved(readings[0], by), moved(dead, by)); !x.Same(y) || e != f {
			t.Fatalf("Base of %v: %s %v, moved by %d: %s %v", readings[0], x.Text(), e, by, y.Text(), f)
		}
	}
}
