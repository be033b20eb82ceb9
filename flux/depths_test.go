package flux_test

import (
	"strings"
	"testing"

	"wallgauge/api"
	"wallgauge/dyad"
	"wallgauge/flux"
)

// entries returns a table from a text: each entry has a From, a colon and a Depth.
func entries(s string) []flux.Entry {
	var out []flux.Entry
	for _, word := range strings.Fields(s) {
		from, depth, _ := strings.Cut(word, ":")
		out = append(out, flux.Entry{From: num(from), Depth: span(depth)})
	}
	return out
}

// steps returns a table of n entries.
func steps(n int) []flux.Entry {
	out := make([]flux.Entry, n)
	for i := range out {
		out[i].From = dyad.Int(int64(i))
	}
	return out
}

// badTables returns tables with their errors.
func badTables() []struct {
	table []flux.Entry
	want  api.Errno
} {
	return []struct {
		table []flux.Entry
		want  api.Errno
	}{
		{nil, api.ErrSize}, {[]flux.Entry{}, api.ErrSize}, {steps(17), api.ErrSize}, {make([]flux.Entry, 17), api.ErrSize}, {make([]flux.Entry, 2), api.ErrOrder},
		{entries("0:[1,2] 0:[1,2]"), api.ErrOrder}, {entries("1/2:[1,2] 1/4:[3,4]"), api.ErrOrder}, {entries("0:[1,2] 1:[1,2] 1:[3,4]"), api.ErrOrder}, {entries("0:[1,2] 2:[1,2] 1:[3,4]"), api.ErrOrder}, {entries("0:[1,2] 0:[-1,0]"), api.ErrOrder},
		{entries("0:[-1,2]"), api.ErrArg}, {entries("0:[-1/1024,0]"), api.ErrArg}, {entries("0:[-2,-1] 0:[1,2]"), api.ErrArg}, {entries("0:[0,2] 1:[-1,2]"), api.ErrArg}, {entries("0:[1,2] 1:[0,2] 0:[5,6]"), api.ErrArg}, {entries("0:[1,4] 1:[2,3]"), api.ErrArg}, {entries("0:[1,4] 1:[1/2,5]"), api.ErrArg}, {entries("0:[1,4] 1:[5,6] 2:[4,6]"), api.ErrArg}, {entries("0:[1,4] 1:[5,6] 2:[5,11/2]"), api.ErrArg},
		{entries("0:[1,2] 1:[0,2] 1:[0,2]"), api.ErrArg}, {entries("0:[1,2] 0:[0,2] 1:[0,2]"), api.ErrOrder},
	}
}

func TestP5_1CheckTable(t *testing.T) {
	for _, c := range badTables() {
		if e := flux.CheckTable(c.table); e != c.want {
			t.Errorf("CheckTable of %v: %v, want %v", c.table, e, c.want)
		}
		if s, e := flux.Sized(c.table, span("[-5,-5]")); s.Text() != "[0,0]" || e != c.want {
			t.Errorf("Sized by %v: %s %v, want %v", c.table, s.Text(), e, c.want)
		}
	}
	for _, table := range [][]flux.Entry{steps(1), steps(16), entries("0:[0,10] 1/2:[20,40]"), entries("-5:[0,0]"), entries("-5:[0,9] -4:[0,9] -15/4:[9,9]"), entries("7:[3,5] 8:[3,6] 9:[4,6]")} {
		if e := flux.CheckTable(table); e != api.OK {
			t.Errorf("CheckTable of %v: %v", table, e)
		}
	}
}

func TestP5_1Sized(t *testing.T) {
	table := entries("0:[0,10] 1/2:[20,40] 3/4:[20,50] 1:[60,60]")
	for _, c := range []struct {
		amplitude, want string
		err             api.Errno
	}{
		{"[1/4,1/2]", "[0,40]", 0}, {"[0,0]", "[0,10]", 0}, {"[1/4,3/8]", "[0,10]", 0}, {"[1/2,1/2]", "[20,40]", 0}, {"[1/2,5/8]", "[20,40]", 0}, {"[5/8,3/4]", "[20,50]", 0}, {"[3/4,7/8]", "[20,50]", 0}, {"[3/4,1]", "[20,60]", 0}, {"[1,1]", "[60,60]", 0}, {"[99,1000]", "[60,60]", 0}, {"[0,99]", "[0,60]", 0}, {"[511/1024,1]", "[0,60]", 0},
		{"[-1/1024,0]", "[0,0]", api.ErrNone}, {"[-1,5]", "[0,0]", api.ErrNone}, {"[-3,-2]", "[0,0]", api.ErrNone},
	} {
		if s, e := flux.Sized(table, span(c.amplitude)); s.Text() != c.want || e != c.err {
			t.Errorf("Sized of %s: %s %v, want %s %v", c.amplitude, s.Text(), e, c.want, c.err)
		}
	}
	if s, e := flux.Sized(entries("0:[0,10] 1/2:[20,40]"), span("[1/4,1/2]")); s.Text() != "[0,40]" || e != api.OK {
		t.Errorf("Sized of the example: %s %v", s.Text(), e)
	}
}

func TestP5_6Depths(t *testing.T) {
	d := newDice(11)
	for range 300 {
		var table []flux.Entry
		from, lo, more := d.num(2, 3).Neg(), d.num(3, 2), d.num(3, 2)
		for range d.from(1, 16) {
			table = append(table, flux.Entry{From: from, Depth: dyad.Only(lo).Hull(dyad.Only(lo.Add(more)))})
			rise := d.num(3, 2)
			from, lo, more = from.Add(d.num(2, 3)).Add(unit(3)), lo.Add(rise), more.Sub(rise)
			more = dyad.Only(more).Hull(dyad.Only(dyad.Num{})).Hi().Add(d.num(3, 2))
		}
		whole := dyad.Only(table[0].From.Add(d.num(4, 3))).Hull(dyad.Only(table[0].From.Add(d.num(4, 3))))
		part := d.within(whole)
		depth := must[dyad.Span](t)(flux.Sized(table, whole))
		if inner := must[dyad.Span](t)(flux.Sized(table, part)); !inner.In(depth) {
			t.Fatalf("Sized of %s: %s, of %s: %s", part.Text(), inner.Text(), whole.Text(), depth.Text())
		}
		for _, entry := range table {
			if whole.Has(entry.From) && !entry.Depth.In(depth) {
				t.Fatalf("Sized of %s: %s, without %s", whole.Text(), depth.Text(), entry.Depth.Text())
			}
		}
	}
}
