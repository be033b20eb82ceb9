package strength_test

import (
	"math"
	"slices"
	"testing"

	"wallgauge/api"
	"wallgauge/strength"
)

// small returns the table of the chapter's example.
func small() strength.Table {
	return strength.Table{Depths: []int{100, 200}, Lengths: []int{10, 20}, Pressures: [][]int{{90, 80}, {70, 50}}}
}

// flat returns a table of so many depths and lengths, from 1 on, with one pressure.
func flat(depths, lengths, pressure int) strength.Table {
	count := func(n int) []int {
		var l []int
		for i := range n {
			l = append(l, i+1)
		}
		return l
	}
	t := strength.Table{Depths: count(depths), Lengths: count(lengths)}
	for range depths {
		t.Pressures = append(t.Pressures, slices.Repeat([]int{pressure}, lengths))
	}
	return t
}

// ranged returns the range from lo to hi.
func ranged(lo, hi int) api.Range { return api.Range{Lo: lo, Hi: hi} }

// changed returns the table of the chapter's example, changed.
func changed(change func(t *strength.Table)) strength.Table {
	t := small()
	change(&t)
	return t
}

// badTables are tables with their errors.
func badTables() map[api.Errno][]strength.Table {
	out := map[api.Errno][]strength.Table{}
	add := func(e api.Errno, change func(t *strength.Table)) { out[e] = append(out[e], changed(change)) }
	out[api.ErrSize] = []strength.Table{{}, flat(17, 3, 5), flat(3, 17, 5), flat(17, 17, 5)}
	add(api.ErrSize, func(t *strength.Table) { t.Depths = nil })
	add(api.ErrSize, func(t *strength.Table) { t.Lengths = nil })
	add(api.ErrSize, func(t *strength.Table) { t.Pressures = nil })
	add(api.ErrSize, func(t *strength.Table) { t.Depths, t.Pressures = nil, nil })
	add(api.ErrSize, func(t *strength.Table) { t.Lengths, t.Pressures = nil, make([][]int, 2) })
	add(api.ErrSize, func(t *strength.Table) { t.Pressures = t.Pressures[:1] })
	add(api.ErrSize, func(t *strength.Table) { t.Pressures = append(t.Pressures, []int{10, 10}) })
	add(api.ErrSize, func(t *strength.Table) { t.Pressures[1] = []int{70} })
	add(api.ErrSize, func(t *strength.Table) { t.Pressures[0] = nil })
	add(api.ErrSize, func(t *strength.Table) { t.Pressures[1] = []int{70, 50, 40} })
	// The size comes first, then what is no depth or length, then their order, then the pressures.
	add(api.ErrSize, func(t *strength.Table) { t.Depths[0], t.Pressures[1] = -1, nil })
	for _, x := range []int{-1, 1000001, math.MinInt, math.MaxInt} {
		add(api.ErrArg, func(t *strength.Table) { t.Depths[0] = x })
		add(api.ErrArg, func(t *strength.Table) { t.Depths[1] = x })
		add(api.ErrArg, func(t *strength.Table) { t.Lengths[0] = x })
		add(api.ErrArg, func(t *strength.Table) { t.Lengths[1] = x })
		add(api.ErrArg, func(t *strength.Table) { t.Depths[1], t.Lengths[1] = 100, x })
		add(api.ErrArg, func(t *strength.Table) { t.Lengths[1], t.Depths[1] = 10, x })
	}
	for _, x := range []int{-1, 1<<20 + 1, math.MinInt, math.MaxInt} {
		for i := range 4 {
			add(api.ErrArg, func(t *strength.Table) { t.Pressures[i/2][i%2] = x })
		}
		add(api.ErrOrder, func(t *strength.Table) { t.Depths[1], t.Pressures[0][0] = 100, x })
		add(api.ErrOrder, func(t *strength.Table) { t.Lengths[1], t.Pressures[0][0] = 9, x })
		// The first pressure with an error decides.
		add(api.ErrOrder, func(t *strength.Table) { t.Pressures[0][1], t.Pressures[1][0] = 91, x })
		add(api.ErrArg, func(t *strength.Table) { t.Pressures[0][1], t.Pressures[1][0] = x, 91 })
		add(api.ErrOrder, func(t *strength.Table) { t.Pressures[1][0], t.Pressures[1][1] = 91, x })
	}
	add(api.ErrOrder, func(t *strength.Table) { t.Depths[1] = 100 })
	add(api.ErrOrder, func(t *strength.Table) { t.Depths[1] = 99 })
	add(api.ErrOrder, func(t *strength.Table) { t.Lengths[1] = 10 })
	add(api.ErrOrder, func(t *strength.Table) { t.Lengths[1] = 0 })
	add(api.ErrOrder, func(t *strength.Table) { t.Pressures[0][1] = 91 })
	add(api.ErrOrder, func(t *strength.Table) { t.Pressures[1][1] = 71 })
	add(api.ErrOrder, func(t *strength.Table) { t.Pressures[1][0] = 91 })
	add(api.ErrOrder, func(t *strength.Table) { t.Pressures[0][1], t.Pressures[1][1] = 60, 61 })
	return out
}

func TestP9_1CheckTable(t *testing.T) {
	sound := []strength.Table{
		small(), flat(1, 1, 0), flat(16, 16, 1<<20), flat(1, 16, 0), flat(16, 1, 7),
		{Depths: []int{0, 1000000}, Lengths: []int{0, 1000000}, Pressures: [][]int{{1 << 20, 5}, {5, 0}}},
		changed(func(t *strength.Table) { t.Pressures = [][]int{{90, 90}, {90, 90}} }),
	}
	for _, table := range sound {
		if e := strength.CheckTable(table); e != api.OK {
			t.Errorf("%+v: %v", table, e)
		}
	}
	bad := badTables()
	if len(bad) != 3 {
		t.Error("an error is missing")
	}
	for want, tables := range bad {
		for _, table := range tables {
			if e := strength.CheckTable(table); e != want {
				t.Errorf("%+v: %v, want %v", table, e, want)
			}
		}
	}
}

// crack returns the range of the pressures at which a crack fails.
func crack(t *testing.T, table strength.Table, depth, length api.Range) api.Range {
	t.Helper()
	return must[api.Range](t)(strength.Crack(table, depth, length))
}

func TestP9_1Crack(t *testing.T) {
	for _, c := range []struct{ depth, length, want api.Range }{
		{ranged(100, 150), ranged(10, 10), ranged(70, 90)},
		{ranged(100, 100), ranged(10, 10), ranged(90, 90)},
		{ranged(200, 200), ranged(20, 20), ranged(50, 50)},
		{ranged(101, 200), ranged(10, 10), ranged(70, 90)},
		{ranged(101, 199), ranged(11, 19), ranged(50, 90)},
		{ranged(100, 100), ranged(11, 19), ranged(80, 90)},
		{ranged(200, 200), ranged(10, 19), ranged(50, 70)},
		{ranged(200, 201), ranged(20, 20), ranged(0, 50)},
		{ranged(200, 200), ranged(20, 21), ranged(0, 50)},
		{ranged(99, 100), ranged(10, 10), ranged(90, 1<<20)},
		{ranged(100, 100), ranged(9, 10), ranged(90, 1<<20)},
		{ranged(0, 0), ranged(0, 0), ranged(90, 1<<20)},
		{ranged(0, 1000000), ranged(10, 20), ranged(0, 1<<20)},
		{ranged(100, 200), ranged(0, 1000000), ranged(0, 1<<20)},
		{ranged(1000000, 1000000), ranged(1000000, 1000000), ranged(0, 50)},
		{ranged(0, 200), ranged(20, 20), ranged(50, 1<<20)},
	} {
		if got := crack(t, small(), c.depth, c.length); got != c.want {
			t.Errorf("Crack of %v and %v is %v, want %v", c.depth, c.length, got, c.want)
		}
	}
}

// table returns a table, of small numbers or of great ones.
func (d dice) table() strength.Table {
	rising := func() []int {
		l := make([]int, d.from(1, 16))
		place := d.from(0, 20)
		for i := range l {
			l[i] = place
			place += d.from(1, 1<<d.from(0, 15))
		}
		return l
	}
	t := strength.Table{Depths: rising(), Lengths: rising()}
	most := 1 << d.from(0, 20)
	for i := range t.Depths {
		row := make([]int, len(t.Lengths))
		for j := range row {
			row[j] = d.from(most-most/16, most)
			if i > 0 {
				row[j] = min(row[j], t.Pressures[i-1][j])
			}
			if j > 0 {
				row[j] = min(row[j], row[j-1])
			}
			row[j] -= d.small(row[j] / 16)
		}
		t.Pressures = append(t.Pressures, row)
	}
	return t
}

// size returns a range of sizes near to those of a list.
func (d dice) size(l []int) api.Range {
	one := func() int {
		x := l[d.IntN(len(l))]
		return max(x+d.from(-2, 2)*d.from(0, 1<<d.from(0, 10)), 0)
	}
	a, b := one(), one()
	return ranged(min(a, b), max(a, b))
}

// ownCrack returns the greatest pressure of all sizes of a table that are surely not less, and the least of those that are surely not more: so it needs no order.
func ownCrack(t strength.Table, depth, length api.Range) api.Range {
	out := ranged(0, 1<<20)
	for i, row := range t.Pressures {
		for j, pressure := range row {
			if t.Depths[i] >= depth.Hi && t.Lengths[j] >= length.Hi {
				out.Lo = max(out.Lo, pressure)
			}
			if t.Depths[i] <= depth.Lo && t.Lengths[j] <= length.Lo {
				out.Hi = min(out.Hi, pressure)
			}
		}
	}
	return out
}

func TestP9_7Cracks(t *testing.T) {
	d := newDice(41)
	for range 2000 {
		table := d.table()
		depth, length := d.size(table.Depths), d.size(table.Lengths)
		got := crack(t, table, depth, length)
		if want := ownCrack(table, depth, length); got != want || got.Lo > got.Hi {
			t.Fatalf("Crack of %v and %v in %+v is %v, want %v", depth, length, table, got, want)
		}
		wide := func(r api.Range) api.Range {
			return ranged(max(r.Lo-d.small(1000), 0), min(r.Hi+d.small(1000), 1000000))
		}
		if wider := crack(t, table, wide(depth), wide(length)); wider.Lo > got.Lo || wider.Hi < got.Hi {
			t.Fatalf("Crack of %v and %v in %+v is %v, of wider ranges %v", depth, length, table, got, wider)
		}
		i, j := d.IntN(len(table.Depths)), d.IntN(len(table.Lengths))
		x, y, pressure := table.Depths[i], table.Lengths[j], table.Pressures[i][j]
		if got := crack(t, table, ranged(x, x), ranged(y, y)); got != ranged(pressure, pressure) {
			t.Fatalf("Crack of %d and %d in %+v is %v, want %d", x, y, table, got, pressure)
		}
	}
}

func TestP9_1ErrorsOfCrack(t *testing.T) {
	check := func(table strength.Table, depth, length api.Range, want api.Errno) {
		t.Helper()
		if got, e := strength.Crack(table, depth, length); got != (api.Range{}) || e != want {
			t.Errorf("Crack of %v and %v in %+v: %v %v, want %v", depth, length, table, got, e, want)
		}
	}
	sound := ranged(10, 100)
	for want, tables := range badTables() {
		for _, table := range tables {
			check(table, sound, sound, want)
			check(table, ranged(-1, 5), sound, want)
			check(table, sound, ranged(5, 4), want)
		}
	}
	for _, x := range []int{-1, 1000001, math.MinInt, math.MaxInt} {
		for _, bad := range []api.Range{ranged(x, 5), ranged(5, x), ranged(x, x)} {
			check(small(), bad, sound, api.ErrArg)
			check(small(), sound, bad, api.ErrArg)
			check(small(), bad, ranged(5, 4), api.ErrArg)
			check(small(), ranged(5, 4), bad, api.ErrArg)
		}
	}
	check(small(), ranged(5, 4), sound, api.ErrOrder)
	check(small(), sound, ranged(5, 4), api.ErrOrder)
	check(small(), ranged(1000000, 0), sound, api.ErrOrder)
	check(small(), sound, ranged(1000000, 0), api.ErrOrder)
}
