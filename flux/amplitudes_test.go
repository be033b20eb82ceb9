package flux_test

import (
	"math"
	"math/big"
	"slices"
	"testing"

	"wallgauge/api"
	"wallgauge/dyad"
	"wallgauge/flux"
)

func TestP5_1Equal(t *testing.T) {
	for _, c := range []struct {
		v    float32
		r    flux.Reading
		k    int
		want string
	}{
		{25, flux.Reading{Zero: 10, Full: 30}, 1, "[1/2,1]"}, {25, flux.Reading{Zero: 10, Full: 30}, 2, "[3/4,3/4]"}, {25, flux.Reading{Zero: 10, Full: 30}, 0, "[0,1]"}, {25, flux.Reading{Zero: 10, Full: 30}, -7, "[0,1]"}, {25, flux.Reading{Zero: 10, Full: 30}, math.MinInt, "[0,1]"},
		{10, flux.Reading{Zero: 10, Full: 30}, 3, "[0,0]"}, {30, flux.Reading{Zero: 10, Full: 30}, 3, "[1,1]"}, {5, flux.Reading{Zero: 10, Full: 30}, 1, "[-1/2,0]"}, {50, flux.Reading{Zero: 10, Full: 30}, 1, "[2,2]"},
		{15, flux.Reading{Zero: 30, Full: 10}, 2, "[3/4,3/4]"}, {40, flux.Reading{Zero: 30, Full: 10}, 0, "[-1,0]"}, {1, flux.Reading{Zero: 0, Full: 3}, 2, "[1/4,1/2]"}, {-1, flux.Reading{Zero: minus, Full: 3}, 2, "[-1/2,-1/4]"},
		{1, flux.Reading{Zero: 0, Full: -3}, 2, "[-1/2,-1/4]"}, {0, flux.Reading{Zero: minus, Full: 5}, 9, "[0,0]"}, {minus, flux.Reading{Zero: 1, Full: 5}, 2, "[-1/4,-1/4]"}, {1, flux.Reading{Zero: 0, Full: tiny}, 0, "[713623846352979940529142984724747568191373312,713623846352979940529142984724747568191373312]"},
		{tiny, flux.Reading{Zero: 0, Full: huge}, 0, "[0,1]"}, {huge, flux.Reading{Zero: -huge, Full: huge}, 0, "[1,1]"}, {0, flux.Reading{Zero: -huge, Full: huge}, 1, "[1/2,1/2]"},
	} {
		if s, e := flux.Equal(c.v, c.r, c.k); s.Text() != c.want || e != api.OK {
			t.Errorf("Equal of %v by %v with %d bits: %s %v, want %s", c.v, c.r, c.k, s.Text(), e, c.want)
		}
	}
	low := must[dyad.Span](t)(flux.Equal(tiny, flux.Reading{Full: huge}, 256))
	for _, k := range []int{257, 1000, math.MaxInt} {
		if s, e := flux.Equal(tiny, flux.Reading{Full: huge}, k); s.Text() != low.Text() || e != api.OK {
			t.Errorf("Equal with %d bits: %s %v", k, s.Text(), e)
		}
	}
	if !low.Width().Same(unit(256)) {
		t.Errorf("Equal with 256 bits: %s", low.Text())
	}
}

func TestP5_1EqualErrors(t *testing.T) {
	one := flux.Reading{Zero: 0, Full: 1}
	for _, c := range []struct {
		v    float32
		r    flux.Reading
		want api.Errno
	}{
		{nan, one, api.ErrArg}, {inf, one, api.ErrArg}, {-inf, one, api.ErrArg}, {1, flux.Reading{Zero: nan, Full: 1}, api.ErrArg}, {1, flux.Reading{Zero: 1, Full: inf}, api.ErrArg}, {1, flux.Reading{Zero: -inf, Full: inf}, api.ErrArg}, {1, flux.Reading{Zero: inf, Full: inf}, api.ErrArg},
		{1, flux.Reading{Zero: nan, Full: nan}, api.ErrArg}, {nan, flux.Reading{}, api.ErrArg}, {inf, flux.Reading{Zero: 3, Full: 3}, api.ErrArg}, {1, flux.Reading{}, api.ErrZero}, {1, flux.Reading{Zero: 3, Full: 3}, api.ErrZero}, {1, flux.Reading{Zero: 0, Full: minus}, api.ErrZero},
	} {
		if s, e := flux.Equal(c.v, c.r, 3); s.Text() != "[0,0]" || e != c.want {
			t.Errorf("Equal of %v by %v: %s %v, want %v", c.v, c.r, s.Text(), e, c.want)
		}
	}
}

// badReadings returns rings, references and lists of the dead, with their errors: the later ones have errors that come behind, too.
func badReadings() []struct {
	rings [][]float32
	l     []flux.Reading
	dead  []bool
	want  api.Errno
} {
	two := []flux.Reading{{0, 1}, {1, 0}}
	out := []struct {
		rings [][]float32
		l     []flux.Reading
		dead  []bool
		want  api.Errno
	}{
		{table(1, 2), nil, nil, api.ErrSize}, {table(1, 2), two[:1], nil, api.ErrSize}, {table(1, 3), two, make([]bool, 3), api.ErrSize}, {table(1, 2), []flux.Reading{{nan, 0}, {1, 1}, {2, 2}}, nil, api.ErrSize},
		{table(1, 2), []flux.Reading{{nan, 0}, {1, 1}}, nil, api.ErrArg}, {table(1, 2), []flux.Reading{{0, inf}, {1, 1}}, nil, api.ErrArg}, {table(1, 2), []flux.Reading{{0, 1}, {-inf, -inf}}, nil, api.ErrArg},
		{table(1, 2), []flux.Reading{{1, 1}, {nan, 0}}, nil, api.ErrZero}, {table(1, 2), []flux.Reading{{0, minus}, {0, nan}}, nil, api.ErrZero}, {table(1, 2), []flux.Reading{{1, 0}, {}}, nil, api.ErrZero}, {table(1, 2), []flux.Reading{{1, 0}, {}}, []bool{true, true}, api.ErrZero},
		{table(1, 2), two, nil, api.ErrSize}, {table(1, 2), two, make([]bool, 1), api.ErrSize}, {table(1, 2), two, make([]bool, 3), api.ErrSize},
	}
	for _, rings := range badRings() {
		out = append(out, struct {
			rings [][]float32
			l     []flux.Reading
			dead  []bool
			want  api.Errno
		}{rings, []flux.Reading{{nan, 1}, {}}, nil, api.ErrSize})
	}
	return out
}

func TestP5_1ReadingErrors(t *testing.T) {
	for _, c := range badReadings() {
		if marks, e := flux.Marks(c.rings, c.l, c.dead, num("1/2")); len(marks) != 0 || e != c.want {
			t.Errorf("Marks of %v by %v without %v: %v %v, want %v", c.rings, c.l, c.dead, marks, e, c.want)
		}
		if s, ring, sensor, e := flux.Peak(c.rings, c.l, c.dead, flux.Spot{First: -1}, 3); s.Text() != "[0,0]" || ring != 0 || sensor != 0 || e != c.want {
			t.Errorf("Peak of %v by %v without %v: %s %d %d %v, want %v", c.rings, c.l, c.dead, s.Text(), ring, sensor, e, c.want)
		}
	}
}

func TestP5_1Marks(t *testing.T) {
	rings := [][]float32{{10, 20, 25, 30}, {nan, 10, 9, inf}, {21, 0, 15, -inf}}
	l := []flux.Reading{{10, 30}, {30, 10}, {0, 100}, {-10, 30}}
	for _, c := range []struct{ part, dead, want string }{
		{"1/2", "0000", ".#.# .#.. ##.."}, {"1/4", "0000", ".### .#.. ##.."}, {"1", "0000", "...# .#.. .#.."}, {"1/2", "0101", ".... .... #..."}, {"0", "0000", "#### .##. ###."}, {"-1", "0010", "##.# .#.. ##.."},
		{"3/2", "0000", ".... .... .#.."}, {"25/16", "0000", ".... .... ...."}, {"1/2", "1111", ".... .... ...."}, {"-99", "0000", "#### .##. ###."},
	} {
		marks, e := flux.Marks(rings, l, digits(c.dead), num(c.part))
		if !slices.EqualFunc(marks, picture(c.want), slices.Equal) || e != api.OK {
			t.Errorf("Marks of %s without %s: %v %v, want %s", c.part, c.dead, marks, e, c.want)
		}
	}
}

func TestP5_1MarksOfMany(t *testing.T) {
	d := newDice(3)
	for range 300 {
		sensors := d.from(2, 12)
		rings, l, dead := d.rings(d.from(1, 6), sensors), d.references(sensors), d.flags(sensors, 4)
		part := d.num(1, 3).Sub(num("1/2"))
		marks := must[[][]bool](t)(flux.Marks(rings, l, dead, part))
		if len(marks) != len(rings) {
			t.Fatalf("%d rings have Marks of %d", len(rings), len(marks))
		}
		for i, ring := range rings {
			if len(marks[i]) != sensors {
				t.Fatalf("%d sensors have Marks of %d", sensors, len(marks[i]))
			}
			for k, v := range ring {
				want := !dead[k] && finite(v) && ratio(v, l[k]).Cmp(rat(part)) >= 0
				if marks[i][k] != want {
					t.Fatalf("%v by %v, dead %v, from %s on: %v", v, l[k], dead[k], part.Text(), marks[i][k])
				}
			}
		}
	}
	most := must[[][]bool](t)(flux.Marks(table(128, 64), d.references(64), make([]bool, 64), num("0")))
	if len(most) != 128 || len(most[127]) != 64 {
		t.Errorf("Marks of the most readings: %d", len(most))
	}
}

func TestP5_1Peak(t *testing.T) {
	rings := [][]float32{{10, 20, 25, 30}, {nan, 10, 9, inf}, {21, 0, 15, -inf}, {10, 0, nan, 30}}
	l := []flux.Reading{{10, 30}, {30, 10}, {0, 100}, {-10, 30}}
	for _, c := range []struct {
		s            flux.Spot
		dead         string
		k            int
		want         string
		ring, sensor int
	}{
		{flux.Spot{First: 0, Last: 3, Sensors: 15}, "0000", 1, "[3/2,3/2]", 2, 1}, {flux.Spot{First: 0, Last: 3, Sensors: 15}, "0100", 1, "[1,1]", 0, 3}, {flux.Spot{First: 0, Last: 0, Sensors: 3}, "0000", 0, "[0,1]", 0, 1}, {flux.Spot{First: 1, Last: 1, Sensors: 13}, "0000", 3, "[0,1/8]", 1, 2},
		{flux.Spot{First: 3, Last: 3, Sensors: 8}, "0000", 1, "[1,1]", 3, 3}, {flux.Spot{First: 1, Last: 3, Sensors: 5}, "0000", 1, "[1/2,1]", 2, 0}, {flux.Spot{First: 3, Last: 3, Sensors: 10}, "0000", 1, "[3/2,3/2]", 3, 1}, {flux.Spot{First: 2, Last: 3, Sensors: 12}, "0000", 1, "[1,1]", 3, 3},
		{flux.Spot{First: 0, Last: 1, Sensors: 2}, "0000", 4, "[1,1]", 1, 1}, {flux.Spot{First: 0, Last: 3, Sensors: 5}, "1000", 3, "[1/4,1/4]", 0, 2},
	} {
		if s, ring, sensor, e := flux.Peak(rings, l, digits(c.dead), c.s, c.k); s.Text() != c.want || ring != c.ring || sensor != c.sensor || e != api.OK {
			t.Errorf("Peak of %v without %s: %s %d %d %v, want %s %d %d", c.s, c.dead, s.Text(), ring, sensor, e, c.want, c.ring, c.sensor)
		}
	}
	// Amplitudes that have the same span are not the same.
	alike := [][]float32{{1, 1, 0}, {0, 1, 2}}
	if s, ring, sensor, e := flux.Peak(alike, []flux.Reading{{0, 8}, {0, 7}, {0, 15}}, make([]bool, 3), flux.Spot{First: 0, Last: 1, Sensors: 7}, 1); s.Text() != "[0,1/2]" || ring != 0 || sensor != 1 || e != api.OK {
		t.Errorf("Peak of close amplitudes: %s %d %d %v", s.Text(), ring, sensor, e)
	}
	// Below 0 the greatest one is the nearest to 0.
	if s, ring, sensor, e := flux.Peak([][]float32{{-3, -5}, {-2, 4}}, []flux.Reading{{0, 4}, {0, -4}}, make([]bool, 2), flux.Spot{First: 1, Last: 1, Sensors: 3}, 2); s.Text() != "[-1/2,-1/2]" || ring != 1 || sensor != 0 || e != api.OK {
		t.Errorf("Peak below 0: %s %d %d %v", s.Text(), ring, sensor, e)
	}
}

func TestP5_1PeakErrors(t *testing.T) {
	rings := [][]float32{{1, 2, nan}, {inf, 2, nan}}
	l := []flux.Reading{{0, 1}, {1, 0}, {0, 1}}
	for _, c := range []struct {
		s    flux.Spot
		dead string
		want api.Errno
	}{
		{flux.Spot{First: -1, Last: -2}, "000", api.ErrArg}, {flux.Spot{First: 0, Last: 2, Sensors: 1}, "000", api.ErrArg}, {flux.Spot{First: math.MinInt, Last: math.MaxInt, Sensors: 1}, "000", api.ErrArg}, {flux.Spot{First: 3, Last: 2}, "000", api.ErrArg},
		{flux.Spot{First: 1, Last: 0}, "000", api.ErrOrder}, {flux.Spot{First: 5, Last: 1, Sensors: 8}, "000", api.ErrOrder}, {flux.Spot{First: 0, Last: -1, Sensors: 1}, "000", api.ErrOrder},
		{flux.Spot{First: 0, Last: 1}, "000", api.ErrArg}, {flux.Spot{First: 0, Last: 1, Sensors: 8}, "000", api.ErrArg}, {flux.Spot{First: 0, Last: 1, Sensors: 1<<63 | 1}, "111", api.ErrArg},
		{flux.Spot{First: 0, Last: 1, Sensors: 7}, "111", api.ErrDead}, {flux.Spot{First: 0, Last: 1, Sensors: 4}, "000", api.ErrDead}, {flux.Spot{First: 1, Last: 1, Sensors: 5}, "000", api.ErrDead}, {flux.Spot{First: 0, Last: 1, Sensors: 6}, "010", api.ErrDead}, {flux.Spot{First: 1, Last: 1, Sensors: 1}, "000", api.ErrDead},
		{flux.Spot{First: 0, Last: 1, Sensors: 7}, "011", api.OK},
	} {
		s, ring, sensor, e := flux.Peak(rings, l, digits(c.dead), c.s, 3)
		if e != c.want || e != api.OK && (s.Text() != "[0,0]" || ring != 0 || sensor != 0) {
			t.Errorf("Peak of %v without %s: %s %d %d %v, want %v", c.s, c.dead, s.Text(), ring, sensor, e, c.want)
		}
	}
}

func TestP5_5Peaks(t *testing.T) {
	d := newDice(4)
	dark := 0
	for range 500 {
		sensors := d.from(2, 10)
		rings, l, dead := d.rings(d.from(1, 5), sensors), d.references(sensors), d.flags(sensors, 4)
		s, k := d.spots(1, len(rings), sensors)[0], d.from(0, 9)
		peak, ring, sensor, e := flux.Peak(rings, l, dead, s, k)
		var best *big.Rat
		wantRing, wantSensor := 0, 0
		for i := s.First; i <= s.Last; i++ {
			for at, v := range rings[i] {
				if s.Sensors>>at&1 == 0 || dead[at] || !finite(v) {
					continue
				}
				a := ratio(v, l[at])
				if a.Cmp(rat(peak.Hi())) > 0 {
					t.Fatalf("the reading %v by %v is above the Peak %s", v, l[at], peak.Text())
				}
				if best == nil || a.Cmp(best) > 0 {
					best, wantRing, wantSensor = a, i, at
				}
			}
		}
		if best == nil {
			dark++
			if e != api.ErrDead {
				t.Fatalf("Peak of %v without %v: %v", s, dead, e)
			}
			continue
		}
		if ring != wantRing || sensor != wantSensor || e != api.OK {
			t.Fatalf("Peak of %v: %d %d %v, want %d %d", s, ring, sensor, e, wantRing, wantSensor)
		}
		if own := must[dyad.Span](t)(flux.Equal(rings[ring][sensor], l[sensor], k)); own.Text() != peak.Text() || best.Cmp(rat(peak.Lo())) < 0 || best.Cmp(rat(peak.Hi())) > 0 {
			t.Fatalf("Peak of %v: %s, Equal %s, %s", s, peak.Text(), own.Text(), best)
		}
	}
	if dark == 0 || dark > 400 {
		t.Fatalf("%d spots have no Peak", dark)
	}
}

func TestP5_2Amplitudes(t *testing.T) {
	d := newDice(5)
	for range 300 {
		r, k := d.references(1)[0], d.from(0, 20)
		if s, e := flux.Equal(r.Zero, r, k); s.Text() != "[0,0]" || e != api.OK {
			t.Fatalf("Equal of Zero of %v: %s %v", r, s.Text(), e)
		}
		if s, e := flux.Equal(r.Full, r, k); s.Text() != "[1,1]" || e != api.OK {
			t.Fatalf("Equal of Full of %v: %s %v", r, s.Text(), e)
		}
		v := float32(d.from(-99, 99)) / 8
		want := must[dyad.Span](t)(flux.Equal(v, r, k))
		exact := ratio(v, r)
		if exact.Cmp(rat(want.Lo())) < 0 || exact.Cmp(rat(want.Hi())) > 0 || want.Width().Cmp(unit(k)) > 0 || want.Lo().Bits() > k || want.Hi().Bits() > k {
			t.Fatalf("Equal of %v by %v with %d bits: %s, not %s", v, r, k, want.Text(), exact)
		}
		for _, f := range []float32{-1, 2, 0x1p-100, -0x1p90} {
			if s := must[dyad.Span](t)(flux.Equal(f*v, flux.Reading{Zero: f * r.Zero, Full: f * r.Full}, k)); s.Text() != want.Text() {
				t.Fatalf("Equal of %v by %v: %s, times %v: %s", v, r, want.Text(), f, s.Text())
			}
		}
	}
}

// count returns the number of marks.
func count(marks [][]bool) int {
	n := 0
	for _, row := range marks {
		for _, marked := range row {
			if marked {
				n++
			}
		}
	}
	return n
}

// less tells whether each mark of a is one of b.
func less(a, b [][]bool) bool {
	for i, row := range a {
		for k, marked := range row {
			if marked && !b[i][k] {
				return false
			}
		}
	}
	return true
}

func TestP5_2Marks(t *testing.T) {
	d := newDice(6)
	total := 0
	for range 300 {
		sensors := d.from(2, 10)
		rings, l, dead := d.rings(d.from(1, 5), sensors), d.references(sensors), d.flags(sensors, 4)
		for _, ring := range rings {
			for k, v := range ring {
				// The product of any other one by the factors below stays exact.
				if v == tiny || v == -tiny || v == huge || v == -huge {
					ring[k] = 3
				}
			}
		}
		part := d.num(0, 3)
		marks := must[[][]bool](t)(flux.Marks(rings, l, dead, part))
		total += count(marks)
		if more := must[[][]bool](t)(flux.Marks(rings, l, dead, part.Add(d.num(0, 3)))); !less(more, marks) {
			t.Fatalf("Marks of a greater part: %v, of %s: %v", more, part.Text(), marks)
		}
		fewer := slices.Clone(dead)
		fewer[d.IntN(sensors)] = true
		if without := must[[][]bool](t)(flux.Marks(rings, l, fewer, part)); !less(without, marks) {
			t.Fatalf("Marks without one more sensor: %v, with it: %v", without, marks)
		}
		at, f := d.IntN(sensors), []float32{-1, 4, -0x1p60, 0x1p-60}[d.IntN(4)]
		for _, ring := range rings {
			ring[at] *= f
		}
		l[at] = flux.Reading{Zero: f * l[at].Zero, Full: f * l[at].Full}
		if scaled := must[[][]bool](t)(flux.Marks(rings, l, dead, part)); !slices.EqualFunc(scaled, marks, slices.Equal) {
			t.Fatalf("Marks with the sensor %d times %v: %v, without: %v", at, f, scaled, marks)
		}
	}
	if total == 0 {
		t.Fatal("there are no Marks")
	}
}

func TestP5_3Marks(t *testing.T) {
	d := newDice(7)
	for range 200 {
		sensors := d.from(2, 64)
		rings, l, dead, by := d.rings(d.from(1, 5), sensors), d.references(sensors), d.flags(sensors, 4), d.from(0, sensors)
		marks := must[[][]bool](t)(flux.Marks(rings, l, dead, num("1/2")))
		turned := must[[][]bool](t)(flux.Marks(movedRows(rings, by), moved(l, by), moved(dead, by), num("1/2")))
		if !slices.EqualFunc(turned, movedRows(marks, by), slices.Equal) {
			t.Fatalf("Marks moved by %d: %v, not moved: %v", by, turned, marks)
		}
	}
}
