package echo_test

import (
	"math"
	"math/big"
	"slices"
	"testing"

	"wallgauge/api"
	"wallgauge/dyad"
	"wallgauge/echo"
)

func TestP6_1Way(t *testing.T) {
	for _, c := range []struct {
		from, to    int
		tick, speed string
		k           int
		want        string
	}{
		{3, 5, "1/2", "[4,4]", 0, "[1,3]"}, {0, 3, "1/2", "[2,2]", 0, "[1,2]"}, {0, 3, "1/2", "[2,2]", 9, "[1,2]"}, {3, 3, "1/2", "[4,4]", 0, "[0,1]"}, {3, 4, "1/2", "[4,4]", 0, "[0,2]"}, {0, 0, "1", "[1,1]", 0, "[0,1]"}, {0, 0, "1", "[1,1]", 1, "[0,1/2]"},
		{3, 5, "1/2", "[3,5]", 2, "[3/4,15/4]"}, {3, 5, "1/2", "[3,5]", 1, "[1/2,4]"}, {3, 5, "1/2", "[3,5]", 0, "[0,4]"}, {3, 5, "1/8", "[1/8,1/4]", 9, "[1/128,3/64]"}, {3, 5, "1/8", "[1/8,1/4]", 4, "[0,1/16]"},
		{0, 1 << 20, "1", "[2,2]", 0, "[1048575,1048577]"}, {1 << 20, 1 << 20, "3", "[2,4]", 0, "[0,6]"},
	} {
		if s, e := echo.Way(c.from, c.to, num(c.tick), span(c.speed), c.k); s.Text() != c.want || e != api.OK {
			t.Errorf("Way from %d to %d with %s, %s and %d bits: %s %v, want %s", c.from, c.to, c.tick, c.speed, c.k, s.Text(), e, c.want)
		}
	}
	fine := num("1/1208925819614629174706176")
	for k, like := range manyBits() {
		want := must[dyad.Span](t)(echo.Way(3, 5, fine.Mul(fine).Mul(fine).Mul(fine), span("[3,5]"), like))
		if s, e := echo.Way(3, 5, fine.Mul(fine).Mul(fine).Mul(fine), span("[3,5]"), k); s.Text() != want.Text() || e != api.OK {
			t.Errorf("Way with %d bits: %s %v, with %d: %s", k, s.Text(), e, like, want.Text())
		}
	}
	if s, e := echo.Way(0, 1, great(), span("[1,1]"), 0); !s.Lo().Zero() || !s.Hi().Same(great()) || e != api.OK {
		t.Errorf("Way with a great tick: %v", e)
	}
}

// badWays returns arguments of Way with their errors: each has errors that come behind, too.
func badWays() []struct {
	from, to    int
	tick, speed string
	want        api.Errno
} {
	return []struct {
		from, to    int
		tick, speed string
		want        api.Errno
	}{
		{-1, 5, "1", "[1,1]", api.ErrArg}, {0, -1, "1", "[1,1]", api.ErrArg}, {1<<20 + 1, 5, "1", "[1,1]", api.ErrArg}, {0, 1<<20 + 1, "1", "[1,1]", api.ErrArg}, {math.MinInt, math.MaxInt, "1", "[1,1]", api.ErrArg}, {math.MaxInt, math.MinInt, "0", "[0,0]", api.ErrArg}, {-1, -2, "1", "[1,1]", api.ErrArg},
		{5, 4, "1", "[1,1]", api.ErrOrder}, {1 << 20, 0, "0", "[0,1]", api.ErrOrder}, {5, 4, "-1", "[-2,-1]", api.ErrOrder},
		{4, 5, "0", "[1,1]", api.ErrArg}, {4, 5, "-1", "[1,1]", api.ErrArg}, {4, 5, "-1/1024", "[1,1]", api.ErrArg}, {4, 5, "1", "[0,1]", api.ErrArg}, {4, 5, "1", "[0,0]", api.ErrArg}, {4, 5, "1", "[-1/1024,1]", api.ErrArg}, {4, 5, "1", "[-2,-1]", api.ErrArg}, {4, 5, "-1", "[-2,-1]", api.ErrArg},
		{4, 5, "1/1024", "[1/1024,1]", api.OK}, {5, 5, "1", "[1,1]", api.OK}, {1 << 20, 1 << 20, "1", "[1,1]", api.OK},
	}
}

func TestP6_1WayErrors(t *testing.T) {
	for _, c := range badWays() {
		if s, e := echo.Way(c.from, c.to, num(c.tick), span(c.speed), 3); e != c.want || e != api.OK && s.Text() != "[0,0]" {
			t.Errorf("Way from %d to %d with %s and %s: %s %v, want %v", c.from, c.to, c.tick, c.speed, s.Text(), e, c.want)
		}
	}
}

func TestP6_1Wall(t *testing.T) {
	for _, c := range []struct {
		arrivals       []int
		k              int
		standoff, wall string
	}{
		{[]int{3, 5}, 0, "[1,2]", "[1,3]"}, {[]int{3, 5, 7}, 0, "[1,2]", "[1,3]"}, {[]int{3, 5, 0, -9, math.MaxInt, math.MinInt}, 0, "[1,2]", "[1,3]"}, {[]int{0, 0}, 1, "[0,1/2]", "[0,1]"}, {[]int{4, 4, 4}, 1, "[3/2,5/2]", "[0,1]"}, {[]int{1, 1 << 20}, 0, "[0,1]", "[1048574,1048576]"}, {make([]int, 16), 0, "[0,1]", "[0,1]"},
	} {
		if standoff, wall, e := echo.Wall(c.arrivals, num("1/2"), span("[2,2]"), span("[4,4]"), c.k); standoff.Text() != c.standoff || wall.Text() != c.wall || e != api.OK {
			t.Errorf("Wall of %v: %s %s %v, want %s %s", c.arrivals, standoff.Text(), wall.Text(), e, c.standoff, c.wall)
		}
	}
}

func TestP6_1WallErrors(t *testing.T) {
	for _, c := range []struct {
		arrivals           []int
		tick, water, steel string
		want               api.Errno
	}{
		{make([]int, 17), "0", "[0,0]", "[0,0]", api.ErrSize}, {slices.Repeat([]int{-1}, 17), "1", "[1,1]", "[1,1]", api.ErrSize}, {nil, "0", "[0,0]", "[0,0]", api.ErrDark}, {[]int{}, "1", "[1,1]", "[1,1]", api.ErrDark}, {[]int{-1}, "0", "[0,0]", "[0,0]", api.ErrDark}, {[]int{3}, "1", "[1,1]", "[1,1]", api.ErrDark},
		{[]int{-1, 5}, "1", "[1,1]", "[1,1]", api.ErrArg}, {[]int{1<<20 + 1, 5}, "1", "[1,1]", "[1,1]", api.ErrArg}, {[]int{5, -1}, "1", "[1,1]", "[1,1]", api.ErrArg},
		// The errors of the first way, though the second one has ErrOrder.
		{[]int{-1, -2}, "1", "[1,1]", "[1,1]", api.ErrArg}, {[]int{5, 4}, "0", "[1,1]", "[1,1]", api.ErrArg}, {[]int{5, 4}, "1", "[0,1]", "[1,1]", api.ErrArg},
		{[]int{5, 4}, "1", "[1,1]", "[0,0]", api.ErrOrder}, {[]int{5, 4}, "1", "[1,1]", "[1,1]", api.ErrOrder}, {[]int{5, 4, 6}, "1", "[1,1]", "[1,1]", api.ErrOrder}, {[]int{4, 5}, "1", "[1,1]", "[0,1]", api.ErrArg}, {[]int{4, 1<<20 + 1}, "1", "[1,1]", "[1,1]", api.ErrArg},
	} {
		standoff, wall, e := echo.Wall(c.arrivals, num(c.tick), span(c.water), span(c.steel), 3)
		if e != c.want || e != api.OK && (standoff.Text() != "[0,0]" || wall.Text() != "[0,0]") {
			t.Errorf("Wall of %v with %s, %s and %s: %s %s %v, want %v", c.arrivals, c.tick, c.water, c.steel, standoff.Text(), wall.Text(), e, c.want)
		}
	}
}

func TestP6_1WallOfMany(t *testing.T) {
	d := newDice(7)
	for range 200 {
		first := d.from(0, 90)
		arrivals := []int{first, first + d.from(0, 9), d.from(-9, 9)}
		tick, water, steel, k := d.num(2, 4).Add(unit(4)), d.speed(), d.speed(), d.from(0, 9)
		standoff, wall, e := echo.Wall(arrivals, tick, water, steel, k)
		above := must[dyad.Span](t)(echo.Way(0, first, tick, water, k))
		below := must[dyad.Span](t)(echo.Way(first, arrivals[1], tick, steel, k))
		if standoff.Text() != above.Text() || wall.Text() != below.Text() || e != api.OK {
			t.Fatalf("Wall of %v: %s %s %v, want %s %s", arrivals, standoff.Text(), wall.Text(), e, above.Text(), below.Text())
		}
	}
}

func TestP6_1Lost(t *testing.T) {
	for _, c := range []struct{ nominal, wall, want string }{
		{"4", "[1,3]", "[1,3]"}, {"4", "[0,4]", "[0,4]"}, {"4", "[3,5]", "[0,1]"}, {"4", "[5,7]", "[0,0]"}, {"4", "[4,4]", "[0,0]"}, {"4", "[0,0]", "[4,4]"}, {"1/4", "[1/8,3/16]", "[1/16,1/8]"}, {"4", "[4,9]", "[0,0]"}, {"1/1024", "[0,1/2048]", "[1/2048,1/1024]"},
	} {
		if s, e := echo.Lost(num(c.nominal), span(c.wall)); s.Text() != c.want || e != api.OK {
			t.Errorf("Lost of %s with %s: %s %v, want %s", c.nominal, c.wall, s.Text(), e, c.want)
		}
	}
	for _, c := range [][2]string{{"0", "[1,3]"}, {"-1/1024", "[1,3]"}, {"4", "[-1/1024,3]"}, {"4", "[-3,-1]"}, {"0", "[-1,0]"}, {"-4", "[0,0]"}, {"0", "[0,0]"}} {
		if s, e := echo.Lost(num(c[0]), span(c[1])); s.Text() != "[0,0]" || e != api.ErrArg {
			t.Errorf("Lost of %s with %s: %s %v", c[0], c[1], s.Text(), e)
		}
	}
}

func TestP6_4Ways(t *testing.T) {
	d := newDice(8)
	for range 500 {
		from := d.from(0, 50)
		to, tick, speed, k := from+d.from(0, 6), d.num(2, 4).Add(unit(4)), d.speed(), d.from(0, 9)
		way := must[dyad.Span](t)(echo.Way(from, to, tick, speed, k))
		half := big.NewRat(1, 2)
		lo := product(big.NewRat(int64(max(to-from-1, 0)), 1), rat(tick), rat(speed.Lo()), half)
		hi := product(big.NewRat(int64(to-from+1), 1), rat(tick), rat(speed.Hi()), half)
		if !sameEnds(way, floor(lo, k), ceil(hi, k)) {
			t.Fatalf("Way from %d to %d with %s, %s and %d bits: %s", from, to, tick.Text(), speed.Text(), k, way.Text())
		}
		// An echo came at most one sample ahead of the one at which it is told, and the way back was not shorter than 0.
		early, late := rat(dyad.Int(int64(from)).Sub(d.num(0, 6))), rat(dyad.Int(int64(to)).Sub(d.num(0, 6)))
		if time := new(big.Rat).Sub(late, early); time.Sign() >= 0 && !has(way, product(time, rat(tick), rat(d.inside(speed)), half)) {
			t.Fatalf("sound from %s to %s went a way that is not in %s", early, late, way.Text())
		}
		narrow := must[dyad.Span](t)(echo.Way(from, to, tick, d.within(speed), k+d.from(0, 5)))
		if !narrow.In(way) {
			t.Fatalf("Way with a narrower span and more bits is %s, which is not in %s", narrow.Text(), way.Text())
		}
	}
}

func TestP6_4Losses(t *testing.T) {
	d := newDice(9)
	for range 300 {
		nominal := d.num(3, 3).Add(unit(3))
		wall := dyad.Only(d.num(3, 3)).Hull(dyad.Only(d.num(3, 3)))
		lost := must[dyad.Span](t)(echo.Lost(nominal, wall))
		thick := d.inside(wall)
		if thick.Cmp(nominal) <= 0 && !lost.Has(nominal.Sub(thick)) {
			t.Fatalf("Lost of %s with %s is %s, which has not what is lost of %s", nominal.Text(), wall.Text(), lost.Text(), thick.Text())
		}
		if lost.Lo().Sign() < 0 || lost.Hi().Cmp(nominal) > 0 {
			t.Fatalf("Lost of %s is %s", nominal.Text(), lost.Text())
		}
		if part := must[dyad.Span](t)(echo.Lost(nominal, d.within(wall))); !part.In(lost) {
			t.Fatalf("Lost with a narrower wall is %s, which is not in %s", part.Text(), lost.Text())
		}
	}
}

func TestP6_1Scan(t *testing.T) {
	two, one, none, many := []complex64{0, 3, 0, 0, 3}, []complex64{0, 3, 0, 0, 0}, []complex64{1}, slices.Repeat([]complex64{3}, 40)
	for _, c := range []struct {
		blocks [][]complex64
		pulse  []complex64
		level  string
		apart  int
		want   int
		lost   []int
	}{
		{[][]complex64{two, one, none, many}, []complex64{1}, "9", 1, 2, []int{1, 2}}, {[][]complex64{two, one, none, many}, []complex64{2i}, "36", 1, 2, []int{1, 2}}, {[][]complex64{two, one, none, many}, []complex64{2i}, "37", 1, 0, []int{0, 1, 2, 3}}, {[][]complex64{two, one}, []complex64{1}, "9", 3, 1, []int{1}},
		{[][]complex64{two, one, many}, []complex64{1}, "9", 4, 1, []int{0, 1}}, {[][]complex64{many, two, many}, []complex64{1}, "9", math.MaxInt, 0, []int{0, 1, 2}}, {[][]complex64{one, two}, []complex64{1}, "0", 1, 2, nil}, {[][]complex64{none, one}, []complex64{1}, "-1", 4, 1, []int{0}},
		{[][]complex64{{1, 1, 0, -1, -1}, {1, 1, 1, 1, 1}, {-1, -1}}, []complex64{1, 1}, "4", 2, 2, []int{2}}, {nil, []complex64{1}, "9", 1, 0, nil}, {nil, nil, "9", 1, 0, nil}, {[][]complex64{}, badSamples(), "9", 1, 0, nil}, {slices.Repeat([][]complex64{two}, 16), []complex64{1}, "9", 1, 16, nil},
	} {
		if count, e := echo.Scan(c.blocks, c.pulse, num(c.level), c.apart); count.Inspected != c.want || !slices.Equal(count.Lost, c.lost) || e != api.OK {
			t.Errorf("Scan of %v with %v, %s and %d: %v %v, want %d %v", c.blocks, c.pulse, c.level, c.apart, count, e, c.want, c.lost)
		}
	}
}

func TestP6_1ScanErrors(t *testing.T) {
	good, long := []complex64{1, 2}, make([]complex64, 257)
	bad := []complex64{1, complex(0, nan)}
	for _, c := range []struct {
		blocks [][]complex64
		pulse  []complex64
		apart  int
		want   api.Errno
	}{
		{make([][]complex64, 17), nil, 0, api.ErrSize}, {slices.Repeat([][]complex64{bad}, 17), good, 1, api.ErrSize}, {nil, good, 0, api.ErrArg}, {[][]complex64{nil}, good, 0, api.ErrArg}, {[][]complex64{good}, nil, math.MinInt, api.ErrArg}, {[][]complex64{good}, good, -1, api.ErrArg},
		{[][]complex64{nil}, good, 1, api.ErrSize}, {[][]complex64{good, long, bad}, good, 1, api.ErrSize}, {[][]complex64{good, bad, long}, good, 1, api.ErrArg}, {[][]complex64{good, good[:1], bad}, good, 1, api.ErrNone}, {[][]complex64{good, bad, good[:1]}, good, 1, api.ErrArg},
		{[][]complex64{good, bad}, nil, 1, api.ErrSize}, {[][]complex64{good, long}, bad, 1, api.ErrArg}, {[][]complex64{bad}, long[:33], 1, api.ErrArg}, {[][]complex64{good, bad}, long[:33], 1, api.ErrSize}, {[][]complex64{good, good, good[:1]}, good, 1, api.ErrNone},
	} {
		if count, e := echo.Scan(c.blocks, c.pulse, num("1"), c.apart); count.Inspected != 0 || len(count.Lost) > 0 || e != c.want {
			t.Errorf("Scan of %v with %v and %d: %v %v, want %v", c.blocks, c.pulse, c.apart, count, e, c.want)
		}
	}
}

func TestP6_5Scans(t *testing.T) {
	d := newDice(10)
	full := 0
	for range 200 {
		pulse, level, apart := d.block(d.from(1, 4)), d.num(9, 0), d.from(1, 5)
		var blocks [][]complex64
		var lost []int
		for i := range d.from(0, 16) {
			block := d.block(d.from(4, 24))
			envelope := must[[]dyad.Num](t)(echo.Envelope(filtered(t, block, pulse)))
			if len(slowArrivals(envelope, level, apart)) < 2 {
				lost = append(lost, i)
			}
			if _, e := echo.Arrivals(envelope, level, apart); e == api.ErrFull {
				full++
			}
			blocks = append(blocks, block)
		}
		count := must[echo.Count](t)(echo.Scan(blocks, pulse, level, apart))
		if count.Inspected+len(count.Lost) != len(blocks) || !slices.Equal(count.Lost, lost) {
			t.Fatalf("Scan of %d blocks: %v, want %v", len(blocks), count, lost)
		}
	}
	if full < 10 {
		t.Errorf("only %d blocks had too many echoes", full)
	}
}

func TestP6_5Most(t *testing.T) {
	blocks := slices.Repeat([][]complex64{slices.Repeat([]complex64{complex(huge, -huge)}, 256)}, 16)
	count, e := echo.Scan(blocks, slices.Repeat([]complex64{complex(tiny, huge)}, 32), num("1"), 1)
	if count.Inspected != 16 || len(count.Lost) > 0 || e != api.OK {
		t.Errorf("Scan of the most samples: %v %v", count, e)
	}
}
