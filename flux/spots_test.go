package flux_test

import (
	"math"
	"slices"
	"strings"
	"testing"

	"wallgauge/api"
	"wallgauge/flux"
)

func TestP5_1Spots(t *testing.T) {
	for _, c := range []struct {
		picture string
		want    []flux.Spot
	}{
		{"........ #....... .......#", []flux.Spot{{1, 2, 129}}}, {"....", nil}, {"#.", []flux.Spot{{0, 0, 1}}}, {"## ##", []flux.Spot{{0, 1, 3}}}, {"#. .#", []flux.Spot{{0, 1, 3}}}, {"#. .. .#", []flux.Spot{{0, 0, 1}, {2, 2, 2}}},
		{"#.# ...", []flux.Spot{{0, 0, 5}}}, {"#.#.", []flux.Spot{{0, 0, 1}, {0, 0, 4}}}, {"#.#..", []flux.Spot{{0, 0, 1}, {0, 0, 4}}}, {"#..#", []flux.Spot{{0, 0, 9}}}, {"#.... ..#..", []flux.Spot{{0, 0, 1}, {1, 1, 4}}}, {".#... ..#..", []flux.Spot{{0, 1, 6}}}, {"..#.. .#...", []flux.Spot{{0, 1, 6}}},
		{"#.... .....", []flux.Spot{{0, 0, 1}}}, {"..... ....#", []flux.Spot{{1, 1, 16}}}, {"#.... ..... #....", []flux.Spot{{0, 0, 1}, {2, 2, 1}}}, {"#.... ....# ...#. ..#.. .#...", []flux.Spot{{0, 4, 31}}},
		// The order is that of the first marks: of the ring, then of the sensor.
		{"..#.....#... #...........", []flux.Spot{{0, 0, 4}, {0, 0, 256}, {1, 1, 1}}}, {"....#.. #.#...# .......", []flux.Spot{{0, 0, 16}, {1, 1, 65}, {1, 1, 4}}}, {".....#... .#....... #........", []flux.Spot{{0, 0, 32}, {1, 2, 3}}}, {"#..#.... .......# ......#.", []flux.Spot{{0, 2, 193}, {0, 0, 8}}},
		// A spot around another one.
		{"#####... #...#... #.#.#... #...#... #####...", []flux.Spot{{0, 4, 31}, {2, 2, 4}}},
		// A winding spot is found back from a later ring, too.
		{"#...#.. #...#.. #...#.. .###...", []flux.Spot{{0, 3, 31}}}, {"....... .###... #...#.. #...#.. ....#..", []flux.Spot{{1, 4, 31}}}, {"#.#.#.#. #.#.#.#. ######..", []flux.Spot{{0, 2, 127}}},
	} {
		spots, e := flux.Spots(picture(c.picture))
		if !slices.Equal(spots, c.want) || e != api.OK {
			t.Errorf("Spots of %s: %v %v, want %v", c.picture, spots, e, c.want)
		}
	}
	all := picture(strings.Repeat(strings.Repeat("#", 64)+" ", 128))
	if spots, e := flux.Spots(all); !slices.Equal(spots, []flux.Spot{{0, 127, math.MaxUint64}}) || e != api.OK {
		t.Errorf("Spots of all marks: %v %v", spots, e)
	}
}

// dotted returns marks of which none touch.
func dotted(n int) [][]bool {
	marks := make([][]bool, 2*n)
	for i := range marks {
		marks[i] = make([]bool, 5)
		marks[i][i%5] = i%2 == 0
	}
	return marks
}

func TestP5_1SpotsErrors(t *testing.T) {
	for what, marks := range map[string][][]bool{
		"nil": nil, "none": {}, "129 rings": make([][]bool, 129), "an empty ring": {{}}, "one sensor": {{true}}, "65 sensors": {make([]bool, 65)}, "a short ring": {{true, true}, {true}}, "a long ring": {{true, true}, {true, true, true}}, "a nil ring": {{true, true}, nil}, "30 spots and a short ring": append(dotted(30), nil),
	} {
		if spots, e := flux.Spots(marks); len(spots) != 0 || e != api.ErrSize {
			t.Errorf("Spots of %s: %v %v", what, spots, e)
		}
	}
	long := make([][]bool, 129)
	for i := range long {
		long[i] = make([]bool, 64)
	}
	if spots, e := flux.Spots(long); len(spots) != 0 || e != api.ErrSize {
		t.Errorf("Spots of 129 rings: %v %v", spots, e)
	}
	if spots, e := flux.Spots(long[1:]); len(spots) != 0 || e != api.OK {
		t.Errorf("Spots of 128 rings: %v %v", spots, e)
	}
	if spots, e := flux.Spots(dotted(24)); len(spots) != 24 || e != api.OK {
		t.Errorf("24 Spots: %v %v", spots, e)
	}
	for _, n := range []int{25, 60} {
		if spots, e := flux.Spots(dotted(n)); len(spots) != 0 || e != api.ErrFull {
			t.Errorf("%d Spots: %v %v", n, spots, e)
		}
	}
}

// groups returns the marks that hang together, by changing the numbers of marks that touch until all are the same; in the order of the first marks.
func groups(marks [][]bool) [][][2]int {
	sensors := len(marks[0])
	number := map[[2]int]int{}
	var all [][2]int
	for i, row := range marks {
		for k, marked := range row {
			if marked {
				number[[2]int{i, k}] = len(all)
				all = append(all, [2]int{i, k})
			}
		}
	}
	for changed := true; changed; {
		changed = false
		for _, a := range all {
			for _, b := range all {
				apart := (a[1] - b[1] + sensors) % sensors
				if max(a[0]-b[0], b[0]-a[0]) <= 1 && (apart <= 1 || apart == sensors-1) && number[a] < number[b] {
					number[b], changed = number[a], true
				}
			}
		}
	}
	var out [][][2]int
	for n, first := range all {
		if number[first] != n {
			continue
		}
		var group [][2]int
		for _, m := range all {
			if number[m] == n {
				group = append(group, m)
			}
		}
		out = append(out, group)
	}
	return out
}

func TestP5_4Spots(t *testing.T) {
	d := newDice(8)
	full, several := 0, 0
	for range 400 {
		marks := d.marks(d.from(1, 12), d.from(2, 12), d.from(2, 5))
		spots, e := flux.Spots(marks)
		want := groups(marks)
		if len(want) > api.MaxBoxes {
			full++
			if e != api.ErrFull || len(spots) != 0 {
				t.Fatalf("%d Spots: %v %v", len(want), spots, e)
			}
			continue
		}
		if len(spots) != len(want) || e != api.OK {
			t.Fatalf("Spots of %v: %v %v, want %v", marks, spots, e, want)
		}
		for i, group := range want {
			s := flux.Spot{First: group[0][0]}
			for _, m := range group {
				s.Last, s.Sensors = m[0], s.Sensors|1<<m[1]
			}
			if spots[i] != s {
				t.Fatalf("Spots of %v: %v, number %d must be %v", marks, spots, i, s)
			}
		}
		if len(spots) > 2 {
			several++
		}
	}
	if several < 50 {
		t.Fatalf("%d of the marks have several spots, %d too many", several, full)
	}
}

func TestP5_3Spots(t *testing.T) {
	d := newDice(9)
	for range 300 {
		sensors := d.from(2, 64)
		marks, by := d.marks(d.from(1, 4), sensors, d.from(3, 12)), d.from(0, sensors)
		spots, e := flux.Spots(marks)
		turned, f := flux.Spots(movedRows(marks, by))
		for i := range spots {
			spots[i].Sensors = movedSet(spots[i].Sensors, by, sensors)
		}
		if !slices.Equal(ascending(spots), ascending(turned)) || e != f {
			t.Fatalf("Spots of %v: %v %v, moved by %d: %v %v", marks, spots, e, by, turned, f)
		}
		s := flux.Spot{First: 3, Last: 5, Sensors: d.set(sensors)}
		width := must[int](t)(flux.Width(s, sensors))
		s.Sensors = movedSet(s.Sensors, by, sensors)
		if n := must[int](t)(flux.Width(s, sensors)); n != width {
			t.Fatalf("Width of %v: %d, not moved: %d", s, n, width)
		}
	}
}

// mirrored returns spots whose sensors are counted the other way around the pipe.
func mirrored(l []flux.Spot, sensors int) []flux.Spot {
	out := slices.Clone(l)
	for i, s := range l {
		out[i].Sensors = 0
		for k := range sensors {
			out[i].Sensors |= s.Sensors >> k & 1 << (sensors - 1 - k)
		}
	}
	return ascending(out)
}

func TestP3DirectionOfTheRing(t *testing.T) {
	d := newDice(15)
	for range 300 {
		sensors := d.from(2, 64)
		marks := d.marks(d.from(1, 6), sensors, d.from(4, 24))
		spots, e := flux.Spots(marks)
		for _, row := range marks {
			slices.Reverse(row)
		}
		back, f := flux.Spots(marks)
		if !slices.Equal(mirrored(spots, sensors), ascending(back)) || e != f {
			t.Fatalf("Spots of %v: %v %v, read backward: %v %v", marks, back, f, spots, e)
		}
		l := d.spots(d.from(1, 24), 20, sensors)
		merged := must[[]flux.Spot](t)(flux.Merge(l, sensors, 1, 1))
		if other := must[[]flux.Spot](t)(flux.Merge(mirrored(l, sensors), sensors, 1, 1)); !slices.Equal(mirrored(merged, sensors), other) {
			t.Fatalf("Merge of %v: %v, read backward: %v", l, merged, other)
		}
		if a, b := must[int](t)(flux.Width(l[0], sensors)), must[int](t)(flux.Width(mirrored(l[:1], sensors)[0], sensors)); a != b {
			t.Fatalf("Width of %v: %d, read backward: %d", l[0], a, b)
		}
	}
}

func TestP5_1Merge(t *testing.T) {
	one, two := flux.Spot{First: 1, Last: 2, Sensors: 129}, flux.Spot{First: 4, Last: 4, Sensors: 4}
	for _, c := range []struct {
		l                      []flux.Spot
		sensors, along, around int
		want                   []flux.Spot
	}{
		{[]flux.Spot{one, two}, 8, 1, 1, []flux.Spot{{1, 4, 133}}}, {[]flux.Spot{two, one}, 8, 1, 1, []flux.Spot{{1, 4, 133}}}, {[]flux.Spot{two, one}, 8, 1, 0, []flux.Spot{one, two}}, {[]flux.Spot{two, one}, 8, 0, 1, []flux.Spot{one, two}}, {[]flux.Spot{two, one}, 8, math.MaxInt, math.MaxInt, []flux.Spot{{1, 4, 133}}},
		{nil, 8, 1, 1, nil}, {[]flux.Spot{}, 2, 0, 0, nil}, {[]flux.Spot{one}, 8, 0, 0, []flux.Spot{one}}, {[]flux.Spot{one, one, one}, 8, 0, 0, []flux.Spot{one}},
		// Successive rings and neighbouring sensors have the gap 0, also over the first sensor.
		{[]flux.Spot{{0, 0, 1}, {1, 1, 2}}, 8, 0, 0, []flux.Spot{{0, 1, 3}}}, {[]flux.Spot{{0, 0, 1}, {1, 1, 128}}, 8, 0, 0, []flux.Spot{{0, 1, 129}}}, {[]flux.Spot{{0, 0, 1}, {2, 2, 2}}, 8, 0, 0, []flux.Spot{{0, 0, 1}, {2, 2, 2}}}, {[]flux.Spot{{0, 0, 1}, {0, 0, 64}}, 8, 0, 0, []flux.Spot{{0, 0, 1}, {0, 0, 64}}},
		{[]flux.Spot{{0, 0, 1}, {0, 0, 64}}, 8, 0, 1, []flux.Spot{{0, 0, 65}}}, {[]flux.Spot{{0, 0, 1}, {0, 0, 16}}, 8, 0, 2, []flux.Spot{{0, 0, 1}, {0, 0, 16}}}, {[]flux.Spot{{0, 0, 1}, {0, 0, 16}}, 8, 0, 3, []flux.Spot{{0, 0, 17}}}, {[]flux.Spot{{0, 0, 1}, {0, 0, 1 << 63}}, 64, 0, 0, []flux.Spot{{0, 0, 1<<63 | 1}}},
		{[]flux.Spot{{0, 0, 1}, {0, 0, 1 << 32}}, 64, 0, 30, []flux.Spot{{0, 0, 1}, {0, 0, 1 << 32}}}, {[]flux.Spot{{0, 0, 1}, {0, 0, 1 << 32}}, 64, 0, 31, []flux.Spot{{0, 0, 1<<32 | 1}}}, {[]flux.Spot{{0, 0, 1}, {0, 0, 2}}, 2, 0, 0, []flux.Spot{{0, 0, 3}}}, {[]flux.Spot{{0, 0, 1}, {0, 0, 4}}, 5, 0, 0, []flux.Spot{{0, 0, 1}, {0, 0, 4}}},
		{[]flux.Spot{{0, 9, 1}, {3, 4, 4}}, 8, 0, 0, []flux.Spot{{0, 9, 1}, {3, 4, 4}}}, {[]flux.Spot{{0, 9, 1}, {3, 4, 2}}, 8, 0, 0, []flux.Spot{{0, 9, 3}}}, {[]flux.Spot{{3, 4, 2}, {0, 9, 1}}, 8, 0, 0, []flux.Spot{{0, 9, 3}}},
		// The third one is near only what the others have become.
		{[]flux.Spot{{0, 1, 1}, {2, 5, 2}, {4, 4, 128}}, 8, 0, 0, []flux.Spot{{0, 5, 131}}}, {[]flux.Spot{{4, 4, 128}, {0, 1, 1}, {2, 5, 2}}, 8, 0, 0, []flux.Spot{{0, 5, 131}}}, {[]flux.Spot{{0, 0, 1}, {9, 9, 8}, {1, 1, 2}, {8, 8, 4}, {2, 7, 2}}, 8, 0, 0, []flux.Spot{{0, 9, 15}}},
		// A spot between two others, of which it is near none.
		{[]flux.Spot{{0, 0, 1}, {4, 4, 2}, {2, 2, 16}}, 8, 3, 0, []flux.Spot{{0, 4, 3}, {2, 2, 16}}},
		// Ascending by First, by Last, and by Sensors.
		{[]flux.Spot{{5, 9, 1}, {0, 3, 1 << 63}, {5, 6, 64}, {0, 3, 4}, {0, 2, 1 << 40}, {0, 1 << 20, 1 << 50}}, 64, 0, 0, []flux.Spot{{0, 2, 1 << 40}, {0, 3, 4}, {0, 3, 1 << 63}, {0, 1 << 20, 1 << 50}, {5, 6, 64}, {5, 9, 1}}},
		{[]flux.Spot{{1<<30 - 1, 1<<30 - 1, 1}, {0, 0, 1}}, 8, 1<<30 - 2, 0, []flux.Spot{{0, 1<<30 - 1, 1}}}, {[]flux.Spot{{1<<30 - 1, 1<<30 - 1, 1}, {0, 0, 1}}, 8, 1<<30 - 3, 0, []flux.Spot{{0, 0, 1}, {1<<30 - 1, 1<<30 - 1, 1}}},
	} {
		spots, e := flux.Merge(c.l, c.sensors, c.along, c.around)
		if !slices.Equal(spots, c.want) || e != api.OK {
			t.Errorf("Merge of %v of %d sensors with %d and %d: %v %v, want %v", c.l, c.sensors, c.along, c.around, spots, e, c.want)
		}
	}
}

func TestP5_1MergeErrors(t *testing.T) {
	good := flux.Spot{Sensors: 1}
	many := slices.Repeat([]flux.Spot{good}, 24)
	badSpot, order := flux.Spot{First: -1}, flux.Spot{First: 2, Last: 1}
	for _, c := range []struct {
		l                      []flux.Spot
		sensors, along, around int
		want                   api.Errno
	}{
		{append(many, good), 1, -1, -1, api.ErrArg}, {append(many, good), 65, 0, 0, api.ErrArg}, {nil, 0, 0, 0, api.ErrArg}, {nil, math.MinInt, 0, 0, api.ErrArg}, {nil, math.MaxInt, 0, 0, api.ErrArg}, {[]flux.Spot{order}, 1, 0, 0, api.ErrArg},
		{append(many, good), 2, -1, -1, api.ErrSize}, {append(many, badSpot), 64, 0, 0, api.ErrSize}, {many, 2, 0, 0, api.OK}, {append([]flux.Spot{}, many...), 64, 0, 0, api.OK},
		{[]flux.Spot{good, order, badSpot}, 8, -1, 0, api.ErrOrder}, {[]flux.Spot{good, badSpot, order}, 8, -1, -1, api.ErrArg}, {[]flux.Spot{order}, 8, 0, -1, api.ErrOrder},
		{[]flux.Spot{{First: 0, Last: 1 << 30, Sensors: 1}, order}, 8, 0, 0, api.ErrArg}, {[]flux.Spot{{First: 0, Last: 1<<30 - 1, Sensors: 1}, order}, 8, 0, 0, api.ErrOrder}, {[]flux.Spot{{First: 0, Last: math.MaxInt, Sensors: 1}, order}, 8, 0, 0, api.ErrArg}, {[]flux.Spot{{First: math.MinInt, Last: 1, Sensors: 1}, order}, 8, 0, 0, api.ErrArg},
		{[]flux.Spot{{First: 0, Last: 1}, order}, 8, 0, 0, api.ErrArg}, {[]flux.Spot{{First: 0, Last: 1, Sensors: 256}, order}, 8, 0, 0, api.ErrArg}, {[]flux.Spot{{First: 0, Last: 1, Sensors: 255}, order}, 8, 0, 0, api.ErrOrder}, {[]flux.Spot{{First: 0, Last: 1, Sensors: 4}, order}, 2, 0, 0, api.ErrArg},
		{[]flux.Spot{{First: 2, Last: 1}}, 8, 0, 0, api.ErrOrder}, {[]flux.Spot{{First: 1 << 31, Last: 1 << 30}}, 8, 0, 0, api.ErrArg}, {[]flux.Spot{{First: 0, Last: -1, Sensors: 1}}, 8, 0, 0, api.ErrOrder}, {[]flux.Spot{{First: 0, Last: 0, Sensors: math.MaxUint64}}, 64, 0, 0, api.OK}, {[]flux.Spot{{First: 0, Last: 0, Sensors: math.MaxUint64}}, 63, 0, 0, api.ErrArg},
		{[]flux.Spot{good}, 8, -1, 0, api.ErrArg}, {nil, 8, 0, -1, api.ErrArg}, {nil, 8, math.MinInt, math.MaxInt, api.ErrArg}, {nil, 8, 0, 0, api.OK},
	} {
		spots, e := flux.Merge(c.l, c.sensors, c.along, c.around)
		if e != c.want || e != api.OK && len(spots) != 0 {
			t.Errorf("Merge of %v of %d sensors with %d and %d: %v %v, want %v", c.l, c.sensors, c.along, c.around, spots, e, c.want)
		}
	}
}

// near tells whether two spots are near: all pairs of sensors are tried.
func near(a, b flux.Spot, sensors, along, around int) bool {
	gap := sensors
	for x := range sensors {
		for y := range sensors {
			if a.Sensors>>x&1 == 1 && b.Sensors>>y&1 == 1 {
				apart := (x - y + sensors) % sensors
				gap = min(gap, max(min(apart, sensors-apart)-1, 0))
			}
		}
	}
	return max(a.First-b.Last-1, b.First-a.Last-1, 0) <= along && gap <= around
}

// joined tells whether the rings and sensors of a spot are among those of another one.
func joined(part, whole flux.Spot) bool {
	return whole.First <= part.First && part.Last <= whole.Last && part.Sensors&^whole.Sensors == 0
}

// mergedSlowly returns what is left of spots, if the last pair that is near is taken together, again and again.
func mergedSlowly(l []flux.Spot, sensors, along, around int) []flux.Spot {
	l = slices.Clone(l)
	for i := len(l) - 1; i >= 0; i-- {
		for k := len(l) - 1; k > i; k-- {
			if near(l[i], l[k], sensors, along, around) {
				l[i] = flux.Spot{First: min(l[i].First, l[k].First), Last: max(l[i].Last, l[k].Last), Sensors: l[i].Sensors | l[k].Sensors}
				l = slices.Delete(l, k, k+1)
				i = len(l)
				break
			}
		}
	}
	return ascending(l)
}

func TestP5_4Merge(t *testing.T) {
	d := newDice(10)
	some := 0
	for range 400 {
		sensors := d.from(2, 64)
		if d.IntN(2) == 0 {
			sensors = d.from(2, 10)
		}
		l, along, around := d.spots(d.from(0, 24), d.from(10, 60), sensors), d.IntN(4), d.IntN(4)
		spots := must[[]flux.Spot](t)(flux.Merge(l, sensors, along, around))
		if want := mergedSlowly(l, sensors, along, around); !slices.Equal(spots, want) {
			t.Fatalf("Merge of %v of %d sensors with %d and %d: %v, want %v", l, sensors, along, around, spots, want)
		}
		for i, a := range spots {
			for _, b := range spots[:i] {
				if near(a, b, sensors, along, around) {
					t.Fatalf("%v and %v of %d sensors are near with %d and %d", a, b, sensors, along, around)
				}
			}
		}
		for _, s := range l {
			if !slices.ContainsFunc(spots, func(whole flux.Spot) bool { return joined(s, whole) }) {
				t.Fatalf("%v is in none of %v", s, spots)
			}
		}
		again := must[[]flux.Spot](t)(flux.Merge(spots, sensors, along, around))
		d.Shuffle(len(l), func(i, k int) { l[i], l[k] = l[k], l[i] })
		other := must[[]flux.Spot](t)(flux.Merge(l, sensors, along, around))
		if !slices.Equal(again, spots) || !slices.Equal(other, spots) {
			t.Fatalf("Merge: %v, of the result: %v, in another order: %v", spots, again, other)
		}
		for _, wider := range [][2]int{{along + 1, around}, {along, around + 1}, {along + 2, around + 3}} {
			if fewer := must[[]flux.Spot](t)(flux.Merge(l, sensors, wider[0], wider[1])); len(fewer) > len(spots) {
				t.Fatalf("Merge of %v with %d and %d: %v, with %v: %v", l, along, around, spots, wider, fewer)
			}
		}
		if len(spots) > 1 && len(spots) < len(l) {
			some++
		}
	}
	if some < 50 {
		t.Fatalf("only %d lists are merged in part", some)
	}
}

func TestP5_1Width(t *testing.T) {
	for _, c := range []struct {
		set           uint64
		sensors, want int
	}{
		{129, 8, 2}, {133, 8, 4}, {1, 2, 1}, {2, 2, 1}, {3, 2, 2}, {5, 3, 2}, {5, 4, 3}, {0b10001, 8, 5}, {0b1000001, 8, 3}, {255, 8, 8}, {math.MaxUint64, 64, 64}, {1<<63 | 1, 64, 2}, {1 << 63, 64, 1}, {1<<32 | 1, 64, 33}, {math.MaxUint64 - 1, 64, 63}, {0b101011, 6, 5},
	} {
		if n, e := flux.Width(flux.Spot{First: 1, Last: 1<<30 - 1, Sensors: c.set}, c.sensors); n != c.want || e != api.OK {
			t.Errorf("Width of %b of %d sensors: %d %v, want %d", c.set, c.sensors, n, e, c.want)
		}
	}
	for sensors := 2; sensors <= 8; sensors++ {
		for set := uint64(1); set < 1<<sensors; set++ {
			want := sensors
			for n := range sensors {
				for from := range sensors {
					if set&^movedSet(1<<n-1, from, sensors) == 0 {
						want = min(want, n)
					}
				}
			}
			if n, e := flux.Width(flux.Spot{Sensors: set}, sensors); n != want || e != api.OK {
				t.Fatalf("Width of %b of %d sensors: %d %v, want %d", set, sensors, n, e, want)
			}
		}
	}
}

func TestP5_1WidthErrors(t *testing.T) {
	for _, c := range []struct {
		s       flux.Spot
		sensors int
		want    api.Errno
	}{
		{flux.Spot{First: 2, Last: 1}, 1, api.ErrArg}, {flux.Spot{First: 2, Last: 1}, 65, api.ErrArg}, {flux.Spot{First: 2, Last: 1}, math.MaxInt, api.ErrArg}, {flux.Spot{First: 2, Last: 1}, math.MinInt, api.ErrArg}, {flux.Spot{First: 2, Last: 1}, 2, api.ErrOrder},
		{flux.Spot{First: -1, Last: -2}, 8, api.ErrArg}, {flux.Spot{First: 0, Last: -2}, 8, api.ErrOrder}, {flux.Spot{First: 1<<30 + 1, Last: 1 << 30, Sensors: 1}, 8, api.ErrArg}, {flux.Spot{First: 1 << 30, Last: 1<<30 - 1, Sensors: 1}, 8, api.ErrOrder},
		{flux.Spot{}, 8, api.ErrArg}, {flux.Spot{Sensors: 256}, 8, api.ErrArg}, {flux.Spot{Sensors: 257}, 8, api.ErrArg}, {flux.Spot{Sensors: 1 << 63}, 63, api.ErrArg}, {flux.Spot{Last: 1 << 30, Sensors: 1}, 8, api.ErrArg},
	} {
		if n, e := flux.Width(c.s, c.sensors); n != 0 || e != c.want {
			t.Errorf("Width of %v of %d sensors: %d %v, want %v", c.s, c.sensors, n, e, c.want)
		}
	}
}
