package line_test

import (
	"strings"
	"testing"

	"wallgauge/api"
	"wallgauge/line"
)

const exampleText = "pipe 12000 610000 10000 2 90\nbend 3000 610000 10000 2 90 1830000\nvalve 1500 610000 10000 2 90\nzone 10000 14000 3\nlimit 0 7000\nlimit 15000 6000\n"

func TestP2_1Text(t *testing.T) {
	if s, e := line.Text(example()); s != exampleText || e != api.OK {
		t.Errorf("Text: %q %v", s, e)
	}
	l := line.Line{Items: []line.Item{{Kind: line.Pipe, Length: 1 << 24, Outer: 3, Wall: 1}}}
	if s, e := line.Text(l); s != "pipe 16777216 3 1 0 0\n" || e != api.OK {
		t.Errorf("Text: %q %v", s, e)
	}
}

func TestP2_1Parse(t *testing.T) {
	if l, e := line.Parse(exampleText); !same(l, example()) || e != api.OK {
		t.Errorf("Parse: %v %v", l, e)
	}
	l, e := line.Parse("pipe 1 3 1 0 0\n")
	if len(l.Items) != 1 || l.Items[0] != (line.Item{Length: 1, Outer: 3, Wall: 1}) || len(l.Zones) != 0 || len(l.Limits) != 0 || e != api.OK {
		t.Errorf("Parse of one pipe: %v %v", l, e)
	}
}

func TestP2_1ParseForm(t *testing.T) {
	const row = "pipe 1 3 1 0 0\n"
	for _, s := range []string{
		"pipe", "\n", " ", "pipe 1 3 1 0 0", row + "\n", "\n" + row, row + row[:len(row)-1], "pipe\n", "pipe 1 3 1 0\n", "pipe 1 3 1 0 0 0\n", "valve 1 3 1 0 0 0\n",
		"bend 1 3 1 0 0\n", "bend 1 3 1 0 0 9 9\n", " pipe 1 3 1 0 0\n", "pipe 1 3 1 0 0 \n", "pipe  1 3 1 0 0\n", "pipe\t1 3 1 0 0\n", "pipe 1 3 1 0 0\r\n",
		"Pipe 1 3 1 0 0\n", "tube 1 3 1 0 0\n", "pipe 01 3 1 0 0\n", "pipe 1 3 1 00 0\n", "pipe -1 3 1 0 0\n", "pipe +1 3 1 0 0\n", "pipe 1 3 1 -0 0\n",
		"pipe 1_0 3 1 0 0\n", "pipe 0x1 3 1 0 0\n", "pipe 1.0 3 1 0 0\n", "pipe 11111111111 3 1 0 0\n", "pipe 00000000001 3 1 0 0\n", "pipe １ 3 1 0 0\n", "pipe \xff 3 1 0 0\n",
		"pipe 1 3 1 0 0\x00\n", "pipe 1 3 1 0 :\n", "pipe 1 3 1 0 /\n",
		row + "zone 0 1\n", row + "zone 0 1 1 1\n", row + "limit 0\n", row + "limit 0 1 1\n", row + "zone 0 1 01\n", row + "limit 0 -1\n",
		// The three sorts come in this order.
		"zone 0 1 1\n" + row, "limit 0 1\n" + row, row + "limit 0 1\nzone 0 1 1\n", row + "zone 0 1 1\n" + row, row + "limit 0 1\n" + row,
		"zone 0 1 1", strings.Repeat("\n", 65536), strings.Repeat(" ", 65536), strings.Repeat("pipe ", 13107),
		// ErrForm comes ahead of the error of the line.
		"pipe 0 0 0 0 0\nzone\n", strings.Repeat(row, 65) + "x\n",
	} {
		if l, e := line.Parse(s); !none(l) || e != api.ErrForm {
			t.Errorf("Parse of %.40q: %v %v", s, l, e)
		}
	}
}

func TestP2_1ParseErrors(t *testing.T) {
	const row = "pipe 1 3 1 0 0\n"
	for _, c := range []struct {
		s    string
		want api.Errno
	}{
		{"", api.ErrSize}, {"zone 0 1 1\n", api.ErrSize}, {"limit 0 1\n", api.ErrSize}, {strings.Repeat(row, 65), api.ErrSize}, {strings.Repeat(row, 4369), api.ErrSize},
		{row + strings.Repeat("limit 0 1\n", 65), api.ErrSize}, {row + strings.Repeat("zone 0 1 1\n", 65), api.ErrSize},
		{"pipe 9999999999 3 1 0 0\n", api.ErrArg}, {"pipe 1 3 1 8 0\n", api.ErrGrade}, {"pipe 1 3 1 9999999999 0\n", api.ErrGrade}, {"bend 1 3 1 0 0 0\n", api.ErrArg},
		{"valve 1 2 1 0 0\n", api.ErrOrder}, {"bend 1 4 1 0 0 2\n", api.ErrOrder}, {row + "zone 0 2 1\n", api.ErrArg}, {row + "zone 0 1 0\n", api.ErrArg}, {row + "zone 9999999999 1 1\n", api.ErrOrder},
		{row + "limit 1 1\n", api.ErrArg}, {row + "limit 0 1\nlimit 0 2\n", api.ErrOrder}, {row + "limit 0 9999999999\n", api.ErrArg},
		{strings.Repeat("x", 65537), api.ErrSize}, {strings.Repeat(row, 4369) + row, api.ErrSize}, {strings.Repeat("x", 65536), api.ErrForm},
	} {
		if l, e := line.Parse(c.s); !none(l) || e != c.want {
			t.Errorf("Parse of %.40q: %v %v, want %v", c.s, l, e, c.want)
		}
	}
}

func TestP2_2Texts(t *testing.T) {
	full := many(64)
	full.Zones, full.Limits = zones(64), limits(64)
	greatest := line.Line{Items: []line.Item{{Kind: line.Bend, Length: 1 << 24, Outer: 1 << 21, Wall: 1 << 17, Grade: 7, Seam: 359, Radius: 1 << 26}}}
	for _, l := range append(shorts(t), example(), full, greatest) {
		s, e := line.Text(l)
		if e != api.OK {
			t.Fatalf("Text of %v: %v", l, e)
		}
		back, e := line.Parse(s)
		if !same(back, l) || e != api.OK {
			t.Fatalf("Parse of the text of %v: %v %v", l, back, e)
		}
		if again, e := line.Text(back); again != s || e != api.OK {
			t.Fatalf("Text of what Parse returns: %q %v, want %q", again, e, s)
		}
	}
}
