package echo_test

import (
	"math"
	"math/big"
	"slices"
	"testing"

	"wallgauge/api"
	"wallgauge/dyad"
	"wallgauge/echo"
)

func TestP6_1Filter(t *testing.T) {
	for _, c := range []struct {
		block, pulse []complex64
		want         string
	}{
		{[]complex64{1, 2i, 0}, []complex64{1, 1i}, "3:0 0:2"}, {[]complex64{1, 2i, 0}, []complex64{1}, "1:0 0:2 0:0"}, {[]complex64{1, 2i, 0}, []complex64{1i}, "0:-1 2:0 0:0"}, {[]complex64{1, 2, 3}, []complex64{1, 10, 100}, "321:0"},
		{[]complex64{1, 2, 3, 4}, []complex64{0, 1}, "2:0 3:0 4:0"}, {[]complex64{3 + 4i}, []complex64{3 + 4i}, "25:0"}, {[]complex64{3 + 4i}, []complex64{3 - 4i}, "-7:24"}, {[]complex64{0.5, -0.25i}, []complex64{0.125 + 2i}, "1/16:-1 -1/2:-1/32"},
		{[]complex64{complex(minus, minus)}, []complex64{complex(minus, 1)}, "0:0"},
	} {
		l, e := echo.Filter(c.block, c.pulse)
		if texts(l, text) != c.want || e != api.OK {
			t.Errorf("Filter of %v with %v: %s %v, want %s", c.block, c.pulse, texts(l, text), e, c.want)
		}
	}
	// Nothing is rounded, and nothing overflows.
	l, e := echo.Filter([]complex64{complex(huge, tiny), complex(huge, tiny)}, []complex64{complex(huge, 0), complex(tiny, 0)})
	big, small := must[dyad.Num](t)(dyad.Float(float64(huge))), must[dyad.Num](t)(dyad.Float(float64(tiny)))
	if len(l) != 1 || e != api.OK || !l[0].Re().Same(big.Mul(big).Add(big.Mul(small))) || !l[0].Im().Same(small.Mul(big).Add(small.Mul(small))) {
		t.Errorf("Filter of the greatest and the least samples: %s %v", texts(l, text), e)
	}
	most, e := echo.Filter(slices.Repeat([]complex64{1 + 1i}, 256), slices.Repeat([]complex64{2i}, 32))
	if len(most) != 225 || e != api.OK || text(most[0]) != "64:-64" || text(most[224]) != "64:-64" {
		t.Errorf("Filter of the most samples: %d %v", len(most), e)
	}
}

// gauss is a complex number whose parts are ints.
type gauss struct{ re, im int }

// gaussian returns four times a sample with parts that are quarters.
func gaussian(c complex64) gauss { return gauss{int(real(c) * 4), int(imag(c) * 4)} }

func TestP6_1FilterOfMany(t *testing.T) {
	d := newDice(1)
	for range 200 {
		block, pulse := d.block(d.from(1, 40)), d.block(d.from(1, 8))
		l, e := echo.Filter(block, pulse)
		if len(pulse) > len(block) {
			if len(l) > 0 || e != api.ErrNone {
				t.Fatalf("Filter of %d samples with %d: %v", len(block), len(pulse), e)
			}
			continue
		}
		if len(l) != len(block)-len(pulse)+1 || e != api.OK {
			t.Fatalf("Filter of %d samples with %d: %d %v", len(block), len(pulse), len(l), e)
		}
		for delay, x := range l {
			var want gauss
			for i := range pulse {
				a, b := gaussian(block[delay+i]), gaussian(pulse[i])
				want.re += a.re*b.re + a.im*b.im
				want.im += a.im*b.re - a.re*b.im
			}
			if rat(x.Re()).Cmp(big.NewRat(int64(want.re), 16)) != 0 || rat(x.Im()).Cmp(big.NewRat(int64(want.im), 16)) != 0 {
				t.Fatalf("Filter of %v with %v at %d: %s, want %v/16", block, pulse, delay, text(x), want)
			}
		}
	}
}

func TestP6_1FilterErrors(t *testing.T) {
	good := []complex64{1, 2, 3}
	long := make([]complex64, 257)
	for _, bad := range badSamples() {
		for _, at := range []int{0, 2} {
			for _, c := range []struct {
				block, pulse []complex64
				want         api.Errno
			}{
				{with(3, at, bad), good, api.ErrArg}, {with(3, at, bad), nil, api.ErrArg}, {with(3, at, bad), make([]complex64, 33), api.ErrArg}, {with(3, at, bad), with(3, 1, bad), api.ErrArg}, {with(257, at, bad), good, api.ErrSize},
				{good, with(3, at, bad), api.ErrArg}, {good[:1], with(3, at, bad), api.ErrArg}, {good, with(33, at, bad), api.ErrSize}, {nil, with(3, at, bad), api.ErrSize}, {long, with(3, at, bad), api.ErrSize},
			} {
				if l, e := echo.Filter(c.block, c.pulse); len(l) > 0 || e != c.want {
					t.Errorf("Filter of %v with %v: %v, want %v", c.block, c.pulse, e, c.want)
				}
			}
		}
	}
	for _, c := range []struct {
		block, pulse []complex64
		want         api.Errno
	}{
		{nil, good, api.ErrSize}, {[]complex64{}, nil, api.ErrSize}, {long, good, api.ErrSize}, {good, nil, api.ErrSize}, {good, []complex64{}, api.ErrSize}, {long[:256], long[:33], api.ErrSize}, {good, long[:33], api.ErrSize},
		{good[:2], good, api.ErrNone}, {good[:1], long[:32], api.ErrNone}, {long[:31], long[:32], api.ErrNone}, {long[:32], long[:32], api.OK}, {long[:256], long[:32], api.OK}, {long[:1], long[:1], api.OK},
	} {
		if l, e := echo.Filter(c.block, c.pulse); e != c.want || e != api.OK && len(l) > 0 {
			t.Errorf("Filter of %d samples with %d: %d %v, want %v", len(c.block), len(c.pulse), len(l), e, c.want)
		}
	}
}

func TestP6_1Envelope(t *testing.T) {
	for _, c := range []struct{ l, want string }{
		{"3:0 0:2", "9 4"}, {"3:4 -3:-4 0:0", "25 25 0"}, {"1/2:-1/4", "5/16"}, {"", ""},
	} {
		if l, e := echo.Envelope(cnums(c.l)); texts(l, dyad.Num.Text) != c.want || e != api.OK {
			t.Errorf("Envelope of %s: %s %v, want %s", c.l, texts(l, dyad.Num.Text), e, c.want)
		}
	}
	filtered := must[[]dyad.Cnum](t)(echo.Filter([]complex64{1, 2i, 0}, []complex64{1, 1i}))
	if l, e := echo.Envelope(filtered); texts(l, dyad.Num.Text) != "9 4" || e != api.OK {
		t.Errorf("Envelope of the example: %s %v", texts(l, dyad.Num.Text), e)
	}
	x := dyad.Join(great(), unit(256))
	if l, e := echo.Envelope([]dyad.Cnum{x}); len(l) != 1 || !l[0].Same(x.Norm()) || e != api.OK {
		t.Errorf("Envelope of a great number: %d %v", len(l), e)
	}
}

func TestP6_1Report(t *testing.T) {
	for _, c := range []struct {
		l    string
		want []complex64
	}{
		{"3:0 0:2", []complex64{3, 2i}}, {"-1/2:1/4", []complex64{-0.5 + 0.25i}}, {"", nil}, {"16777217:-16777217", []complex64{16777216 - 16777216i}}, {"16777219:33554433", []complex64{16777220 + 33554432i}},
	} {
		if l, e := echo.Report(cnums(c.l)); !slices.Equal(l, c.want) || e != api.OK {
			t.Errorf("Report of %s: %v %v, want %v", c.l, l, e, c.want)
		}
	}
	l, e := echo.Report([]dyad.Cnum{dyad.Join(great(), great().Neg()), dyad.Join(unit(256), unit(256).Neg())})
	if len(l) != 2 || e != api.OK || real(l[0]) != inf || imag(l[0]) != -inf || l[1] != 0 {
		t.Fatalf("Report of great and small numbers: %v %v", l, e)
	}
	if math.Signbit(float64(real(l[1]))) || math.Signbit(float64(imag(l[1]))) {
		t.Errorf("Report of small numbers has a sign: %v", l)
	}
}

func TestP6_1ListErrors(t *testing.T) {
	for n, want := range map[int]api.Errno{0: api.OK, 1: api.OK, 256: api.OK, 257: api.ErrSize, 4096: api.ErrSize} {
		squares, e := echo.Envelope(make([]dyad.Cnum, n))
		if e != want || want == api.OK && len(squares) != n || want != api.OK && len(squares) > 0 {
			t.Errorf("Envelope of %d: %d %v, want %v", n, len(squares), e, want)
		}
		floats, e := echo.Report(make([]dyad.Cnum, n))
		if e != want || want == api.OK && len(floats) != n || want != api.OK && len(floats) > 0 {
			t.Errorf("Report of %d: %d %v, want %v", n, len(floats), e, want)
		}
	}
}

// filtered returns Filter of a block with a pulse that is not longer.
func filtered(t *testing.T, block, pulse []complex64) []dyad.Cnum {
	t.Helper()
	return must[[]dyad.Cnum](t)(echo.Filter(block, pulse))
}

// norms returns the sum of the Norms of samples.
func norms(t *testing.T, samples []complex64) dyad.Num {
	t.Helper()
	var sum dyad.Num
	for _, c := range samples {
		sum = sum.Add(must[dyad.Cnum](t)(dyad.Complex(c)).Norm())
	}
	return sum
}

func TestP6_2Sums(t *testing.T) {
	d := newDice(2)
	for range 100 {
		n := d.from(8, 40)
		pulse, a, b := d.block(d.from(1, 8)), d.block(n), d.block(n)
		both := make([]complex64, n)
		for i := range both {
			both[i] = a[i] + b[i]
		}
		fa, fb, fboth := filtered(t, a, pulse), filtered(t, b, pulse), filtered(t, both, pulse)
		for i, x := range fboth {
			if !x.Same(fa[i].Add(fb[i])) {
				t.Fatalf("Filter of a sum with %v at %d: %s, not the sum of %s and %s", pulse, i, text(x), text(fa[i]), text(fb[i]))
			}
		}
	}
}

func TestP6_2Delays(t *testing.T) {
	d := newDice(3)
	for range 100 {
		pulse, block, late := d.block(d.from(1, 8)), d.block(d.from(8, 40)), d.from(1, 9)
		delayed := filtered(t, slices.Concat(d.block(late), block), pulse)
		if texts(delayed[late:], text) != texts(filtered(t, block, pulse), text) {
			t.Fatalf("Filter of a block that is %d samples late with %v is another one", late, pulse)
		}
	}
}

func TestP6_2Matches(t *testing.T) {
	d := newDice(4)
	for range 100 {
		pulse := d.block(d.from(1, 8))
		own := filtered(t, pulse, pulse)
		power := norms(t, pulse)
		if len(own) != 1 || !own[0].Re().Same(power) || own[0].Im().Sign() != 0 {
			t.Fatalf("Filter of the pulse %v with itself: %s", pulse, texts(own, text))
		}
		block := slices.Concat(d.block(d.from(0, 9)), pulse, d.block(d.from(0, 9)))
		most := power.Mul(norms(t, block))
		for _, x := range must[[]dyad.Num](t)(echo.Envelope(filtered(t, block, pulse))) {
			if x.Cmp(most) > 0 {
				t.Fatalf("the Envelope has %s, which is above %s", x.Text(), most.Text())
			}
		}
	}
}
