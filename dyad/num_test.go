package dyad_test

import (
	"math"
	"math/big"
	"strconv"
	"strings"
	"testing"

	"wallgauge/api"
	"wallgauge/dyad"
)

func TestP1_1Int(t *testing.T) {
	for _, n := range []int64{0, 1, -1, 12, -12, math.MaxInt64, math.MinInt64, math.MinInt64 + 1, 1 << 62} {
		x := dyad.Int(n)
		back, ok := x.Whole()
		if x.Text() != strconv.FormatInt(n, 10) || back != n || !ok {
			t.Errorf("Int(%d): %s, %d %v", n, x.Text(), back, ok)
		}
	}
}

func TestP1_1New(t *testing.T) {
	for _, c := range []struct {
		m    int64
		e    int
		want string
		err  api.Errno
	}{
		{3, 0, "3", 0}, {12, 4, "3/4", 0}, {0, 256, "0", 0}, {-6, 1, "-3", 0}, {math.MinInt64, 62, "-2", 0}, {math.MinInt64, 64, "-1/2", 0},
		{1, 256, power(-256).Text(), 0}, {1, 257, "0", api.ErrArg}, {1, -1, "0", api.ErrArg}, {0, -1, "0", api.ErrArg},
		{5, math.MaxInt, "0", api.ErrArg}, {5, math.MinInt, "0", api.ErrArg},
	} {
		if x, e := dyad.New(c.m, c.e); x.Text() != c.want || e != c.err {
			t.Errorf("New(%d, %d): %s %v", c.m, c.e, x.Text(), e)
		}
	}
}

func TestP1_1Parse(t *testing.T) {
	for _, s := range []string{"0", "1", "-1", "10", "3/4", "-5/8", "1/2", "18446744073709551616", "-99999999999999999999/2", "9223372036854775807/18446744073709551616", "10000000000000000000000000000000000000001", "1/" + power(1000).Text()} {
		if x, e := dyad.Parse(s); x.Text() != s || e != api.OK {
			t.Errorf("Parse(%q): %s %v", s, x.Text(), e)
		}
	}
	for _, s := range []string{"", "-", "/", "-0", "+1", "01", "-01", "00", "2/4", "1/3", "3/1", "0/2", "0/1", "1/0", "1/-2", "1/02", "1/", "/2", "--1", "1 ", " 1", "1.5", "1e3", "0x1", "1_0", "1/2/2", "6/4", "2/1", "1/6", "-2/2", "\xff", "１", "1/2 ", "-1/+2", "1\x00", "4/" + power(70).Text()} {
		if x, e := dyad.Parse(s); !x.Zero() || e != api.ErrForm {
			t.Errorf("Parse(%q): %s %v", s, x.Text(), e)
		}
	}
}

func TestP1_1ParseSize(t *testing.T) {
	longest := strings.Repeat("7", api.MaxDigits)
	if x, e := dyad.Parse(longest); x.Text() != longest || e != api.OK {
		t.Errorf("Parse of %d digits: %v", len(longest), e)
	}
	negative := "-" + longest[1:]
	if x, e := dyad.Parse(negative); x.Text() != negative || e != api.OK {
		t.Errorf("Parse of %d bytes: %v", len(negative), e)
	}
	for _, s := range []string{longest + "7", "-" + longest, longest + "x", strings.Repeat("x", 5000)} {
		if x, e := dyad.Parse(s); !x.Zero() || e != api.ErrSize {
			t.Errorf("Parse of %d bytes: %s %v", len(s), x.Text(), e)
		}
	}
	if _, e := dyad.Parse(longest[1:] + "x"); e != api.ErrForm {
		t.Errorf("Parse of %d bytes, no digit at the end: %v", len(longest), e)
	}
}

func TestP1_1Arithmetic(t *testing.T) {
	for _, x := range samples() {
		a := rat(x)
		for _, y := range samples() {
			b := rat(y)
			if rat(x.Add(y)).Cmp(new(big.Rat).Add(a, b)) != 0 {
				t.Errorf("%s + %s: %s", x.Text(), y.Text(), x.Add(y).Text())
			}
			if rat(x.Sub(y)).Cmp(new(big.Rat).Sub(a, b)) != 0 {
				t.Errorf("%s - %s: %s", x.Text(), y.Text(), x.Sub(y).Text())
			}
			if rat(x.Mul(y)).Cmp(new(big.Rat).Mul(a, b)) != 0 {
				t.Errorf("%s times %s: %s", x.Text(), y.Text(), x.Mul(y).Text())
			}
			if x.Cmp(y) != a.Cmp(b) || x.Same(y) != (a.Cmp(b) == 0) {
				t.Errorf("%s compared with %s: %d %v", x.Text(), y.Text(), x.Cmp(y), x.Same(y))
			}
		}
		if rat(x.Neg()).Cmp(new(big.Rat).Neg(a)) != 0 || rat(x.Abs()).Cmp(new(big.Rat).Abs(a)) != 0 {
			t.Errorf("%s: Neg %s, Abs %s", x.Text(), x.Neg().Text(), x.Abs().Text())
		}
		if x.Sign() != a.Sign() || x.Zero() != (a.Sign() == 0) {
			t.Errorf("%s: Sign %d, Zero %v", x.Text(), x.Sign(), x.Zero())
		}
	}
}

func TestP1_1ArithmeticExamples(t *testing.T) {
	for _, c := range []struct {
		got  dyad.Num
		want string
	}{
		{num("3/8").Add(num("1/8")), "1/2"},
		{num("1/2").Sub(num("1/2")), "0"},
		{num("1/4").Add(num("1/4")).Add(num("-1/2")), "0"},
		{num("3/4").Mul(num("4")), "3"},
		{num("-1").Mul(dyad.Num{}), "0"},
		{num("0").Neg(), "0"},
		{num("-7/2").Abs(), "7/2"},
		{dyad.Num{}.Add(dyad.Num{}), "0"},
		{dyad.Num{}.Sub(num("1/1024")), "-1/1024"},
		{num("18446744073709551615").Add(num("1")), "18446744073709551616"},
		{num("4294967296").Mul(num("-4294967296")), "-18446744073709551616"},
		{num("36893488147419103232").Sub(num("1/2")), "73786976294838206463/2"},
		{dyad.Int(math.MinInt64).Sub(dyad.Int(1)), "-9223372036854775809"},
		{dyad.Int(math.MaxInt64).Add(dyad.Int(1)), "9223372036854775808"},
	} {
		if c.got.Text() != c.want {
			t.Errorf("%s, want %s", c.got.Text(), c.want)
		}
	}
}

func TestP1_1Shift(t *testing.T) {
	for _, x := range samples() {
		for _, n := range []int{0, 1, -1, 17, -64, 256, -256} {
			y, e := x.Shift(n)
			if !y.Same(x.Mul(power(n))) || e != api.OK {
				t.Errorf("%s Shift %d: %s %v", x.Text(), n, y.Text(), e)
			}
		}
		for _, n := range []int{257, -257, math.MaxInt, math.MinInt} {
			if y, e := x.Shift(n); !y.Zero() || e != api.ErrArg {
				t.Errorf("%s Shift %d: %s %v", x.Text(), n, y.Text(), e)
			}
		}
	}
}

func TestP1_1Over(t *testing.T) {
	for _, c := range []struct {
		x, y, want string
		err        api.Errno
	}{
		{"3", "4", "3/4", 0}, {"1", "3", "0", api.ErrInexact}, {"0", "3", "0", 0}, {"0", "0", "0", api.ErrZero}, {"5", "0", "0", api.ErrZero},
		{"-15/8", "3/2", "-5/4", 0}, {"15", "-5", "-3", 0}, {"-9", "-3/1024", "3072", 0}, {"3", "9", "0", api.ErrInexact}, {"7/2", "3", "0", api.ErrInexact},
		{"340282366920938463463374607431768211455", "18446744073709551617", "18446744073709551615", 0},
		{"340282366920938463463374607431768211457", "18446744073709551617", "0", api.ErrInexact},
	} {
		if q, e := num(c.x).Over(num(c.y)); q.Text() != c.want || e != c.err {
			t.Errorf("%s Over %s: %s %v", c.x, c.y, q.Text(), e)
		}
	}
}

func TestP1_1Bits(t *testing.T) {
	for s, want := range map[string]int{"0": 0, "1": 0, "8": 0, "-24": 0, "1/2": 1, "-3/4": 2, "5/1024": 10} {
		if n := num(s).Bits(); n != want {
			t.Errorf("Bits of %s: %d", s, n)
		}
	}
	if n := power(-1000).Bits(); n != 1000 {
		t.Errorf("Bits of 2^-1000: %d", n)
	}
}

func TestP1_1Rounding(t *testing.T) {
	for _, c := range []struct {
		x        string
		k        int
		down, up string
	}{
		{"-1/2", 0, "-1", "0"}, {"1/2", 0, "0", "1"}, {"5/8", 1, "1/2", "1"}, {"-5/8", 1, "-1", "-1/2"}, {"5/8", 3, "5/8", "5/8"}, {"5/8", 9, "5/8", "5/8"},
		{"7", 0, "7", "7"}, {"-7", 5, "-7", "-7"}, {"0", 0, "0", "0"}, {"1/2", -1, "0", "1"}, {"-1/2", math.MinInt, "-1", "0"}, {"1/1024", 9, "0", "1/512"},
		{"18446744073709551615/2", 0, "9223372036854775807", "9223372036854775808"}, {"-36893488147419103231/4", 1, "-9223372036854775808", "-18446744073709551615/2"},
	} {
		x := num(c.x)
		if x.Down(c.k).Text() != c.down || x.Up(c.k).Text() != c.up {
			t.Errorf("%s with %d bits: %s, %s", c.x, c.k, x.Down(c.k).Text(), x.Up(c.k).Text())
		}
	}
}

func TestP1_1RoundingClamps(t *testing.T) {
	x := power(-257)
	for _, k := range []int{256, 257, 1000, math.MaxInt} {
		if !x.Down(k).Zero() || !x.Up(k).Same(power(-256)) || !x.Neg().Down(k).Same(power(-256).Neg()) {
			t.Errorf("2^-257 with %d bits: %s, %s", k, x.Down(k).Text(), x.Up(k).Text())
		}
	}
	if !x.Down(256).Zero() || !power(-256).Down(255).Zero() || !power(-256).Down(256).Same(power(-256)) {
		t.Error("2^-256 does not have 256 bits")
	}
}

func TestP1_1Whole(t *testing.T) {
	for _, c := range []struct {
		s    string
		want int64
		ok   bool
	}{
		{"0", 0, true}, {"-1", -1, true}, {"1/2", 0, false}, {"-7/2", 0, false}, {"9223372036854775807", math.MaxInt64, true}, {"9223372036854775808", 0, false},
		{"-9223372036854775808", math.MinInt64, true}, {"-9223372036854775809", 0, false}, {"18446744073709551615", 0, false}, {"-18446744073709551615", 0, false},
		{"18446744073709551616", 0, false}, {"-18446744073709551616", 0, false}, {"4611686018427387904", 1 << 62, true}, {"96", 96, true},
	} {
		if n, ok := num(c.s).Whole(); n != c.want || ok != c.ok {
			t.Errorf("Whole of %s: %d %v", c.s, n, ok)
		}
	}
	if n, ok := power(5000).Whole(); n != 0 || ok {
		t.Errorf("Whole of 2^5000: %d %v", n, ok)
	}
}

func TestP1_1Float(t *testing.T) {
	for _, f := range []float64{0, 1, -1, 0.375, 0.1, -1e300, math.MaxFloat64, -math.MaxFloat64, math.SmallestNonzeroFloat64, 0x1p-1022, 0x1p-1022 - 0x1p-1074, 0x1.fffffffffffffp-500, 3e-310} {
		x, e := dyad.Float(f)
		if rat(x).Cmp(new(big.Rat).SetFloat64(f)) != 0 || e != api.OK {
			t.Errorf("Float(%g): %s %v", f, x.Text(), e)
		}
	}
	if x, e := dyad.Float(math.Copysign(0, -1)); !x.Same(dyad.Num{}) || x.Sign() != 0 || e != api.OK {
		t.Errorf("Float(-0): %s %v", x.Text(), e)
	}
	for _, f := range []float64{math.NaN(), -math.NaN(), math.Inf(1), math.Inf(-1), math.Float64frombits(0x7ff0000000000001), math.Float64frombits(0xffffffffffffffff)} {
		if x, e := dyad.Float(f); !x.Zero() || e != api.ErrArg {
			t.Errorf("Float(%g): %s %v", f, x.Text(), e)
		}
	}
}

// awkward returns numbers at which floats with so many bits, this greatest exponent and this least one are rounded one way or the other.
func awkward(bits, greatest, least int) []dyad.Num {
	var l []dyad.Num
	for _, exponent := range []int{0, 1, 50, -50, greatest, greatest - 1, least + bits, least + bits - 1, least + bits - 2, least + 3, least + 1, least, least - 1, least - 2, least - 60} {
		one := power(exponent)
		unit := power(max(exponent-bits+1, least))
		for _, part := range list("0 1/2 1/4 3/4 1 3/2 5/2 -1/2 -1/4 -3/4 -1") {
			x := one.Add(unit.Mul(part))
			l = append(l, x, x.Add(power(-1200)), x.Sub(power(-1200)), x.Neg(), x.Neg().Add(power(-1200)))
		}
	}
	limit := power(greatest + 1).Sub(power(greatest - bits))
	return append(l, limit, limit.Sub(power(-9)), limit.Neg(), limit.Neg().Add(power(-9)), limit.Add(limit), power(greatest+5000).Neg(), power(least-5000).Neg())
}

func TestP1_1Near(t *testing.T) {
	for _, x := range append(samples(), awkward(53, 1023, -1074)...) {
		want, _ := rat(x).Float64()
		got := x.Near()
		if got != want || got == 0 && math.Signbit(got) {
			t.Errorf("Near of %s: %x, want %x", x.Text(), got, want)
		}
	}
}

func TestP1_1Near32(t *testing.T) {
	for _, x := range append(samples(), awkward(24, 127, -149)...) {
		want, _ := rat(x).Float32()
		got := x.Near32()
		if got != want || got == 0 && math.Signbit(float64(got)) {
			t.Errorf("Near32 of %s: %x, want %x", x.Text(), got, want)
		}
	}
	// Rounded to a float64 first, this would be a tie, and then even.
	x := dyad.Int(1).Add(power(-24)).Add(power(-80))
	if x.Near32() != math.Nextafter32(1, 2) {
		t.Errorf("Near32 rounds twice: %x", x.Near32())
	}
}

func TestP1_2RingOfNumbers(t *testing.T) {
	l := samples()
	for _, x := range l {
		for _, y := range l {
			if !x.Add(y).Same(y.Add(x)) || !x.Mul(y).Same(y.Mul(x)) {
				t.Fatalf("%s and %s do not commute", x.Text(), y.Text())
			}
			if !x.Add(y).Sub(y).Same(x) {
				t.Fatalf("Sub does not undo Add of %s and %s", x.Text(), y.Text())
			}
			if q, e := x.Mul(y).Over(y); !y.Zero() && (!q.Same(x) || e != api.OK) {
				t.Fatalf("Over does not undo Mul of %s and %s", x.Text(), y.Text())
			}
			for _, z := range l {
				if !x.Add(y).Add(z).Same(x.Add(y.Add(z))) || !x.Mul(y).Mul(z).Same(x.Mul(y.Mul(z))) {
					t.Fatalf("%s, %s and %s do not associate", x.Text(), y.Text(), z.Text())
				}
				if !x.Mul(y.Add(z)).Same(x.Mul(y).Add(x.Mul(z))) {
					t.Fatalf("%s, %s and %s do not distribute", x.Text(), y.Text(), z.Text())
				}
			}
		}
	}
}

func TestP1_3Order(t *testing.T) {
	l := samples()
	for _, x := range l {
		for _, y := range l {
			if x.Cmp(y) != -y.Cmp(x) || (x.Cmp(y) == 0) != x.Same(y) {
				t.Fatalf("%s and %s: %d, %d", x.Text(), y.Text(), x.Cmp(y), y.Cmp(x))
			}
			for _, z := range l {
				if x.Cmp(y) <= 0 && y.Cmp(z) <= 0 && x.Cmp(z) > 0 {
					t.Fatalf("%s, %s and %s are not in order", x.Text(), y.Text(), z.Text())
				}
				if x.Add(z).Cmp(y.Add(z)) != x.Cmp(y) {
					t.Fatalf("the order of %s and %s is not that with %s added", x.Text(), y.Text(), z.Text())
				}
				if x.Mul(z).Cmp(y.Mul(z)) != x.Cmp(y)*z.Sign() {
					t.Fatalf("the order of %s and %s is not that of products with %s", x.Text(), y.Text(), z.Text())
				}
			}
		}
	}
}

func TestP1_3Rounding(t *testing.T) {
	for _, x := range samples() {
		for _, k := range []int{0, 1, 3, 64, 129, 256} {
			down, up, unit := x.Down(k), x.Up(k), power(-k)
			if down.Cmp(x) > 0 || x.Sub(down).Cmp(unit) >= 0 || down.Bits() > k {
				t.Errorf("%s Down %d: %s", x.Text(), k, down.Text())
			}
			if up.Cmp(x) < 0 || up.Sub(x).Cmp(unit) >= 0 || up.Bits() > k {
				t.Errorf("%s Up %d: %s", x.Text(), k, up.Text())
			}
			if x.Bits() <= k && (!down.Same(x) || !up.Same(x)) {
				t.Errorf("%s with %d bits changes", x.Text(), k)
			}
		}
		for _, n := range []int{0, 1, 100, 256} {
			there, _ := x.Shift(n)
			back, _ := there.Shift(-n)
			if !back.Same(x) {
				t.Errorf("%s shifted by %d and back: %s", x.Text(), n, back.Text())
			}
		}
	}
}

func TestP1_4Texts(t *testing.T) {
	l := samples()
	for _, x := range l {
		if y, e := dyad.Parse(x.Text()); !y.Same(x) || e != api.OK {
			t.Errorf("Parse of the text of %s: %s %v", x.Text(), y.Text(), e)
		}
		for _, y := range l {
			if (x.Text() == y.Text()) != x.Same(y) {
				t.Errorf("%s and %s", x.Text(), y.Text())
			}
		}
	}
	a, b := num("3/4").Add(num("1/4")), num("1/2").Mul(num("2"))
	if a.Text() != "1" || b.Text() != "1" {
		t.Errorf("two ways to 1: %s, %s", a.Text(), b.Text())
	}
}

func TestP1_4Floats(t *testing.T) {
	d := dice(4)
	for range 2000 {
		f := math.Float64frombits(uint64(d.next(1<<32))<<32 | uint64(d.next(1<<32)))
		x, e := dyad.Float(f)
		if e == api.OK && x.Near() != f {
			t.Fatalf("Near of Float(%x): %x", f, x.Near())
		}
		g := math.Float32frombits(uint32(d.next(1 << 32)))
		x, e = dyad.Float(float64(g))
		if e == api.OK && x.Near32() != g {
			t.Fatalf("Near32 of Float(%x): %x", g, x.Near32())
		}
		y := d.num(300)
		near, _ := dyad.Float(y.Near())
		if again, _ := dyad.Float(near.Near()); !again.Same(near) {
			t.Fatalf("Float of Near of %s: %s", near.Text(), again.Text())
		}
	}
}
