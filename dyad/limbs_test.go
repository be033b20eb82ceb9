package dyad

import (
	"math/big"
	"slices"
	"testing"
)

// patterns returns limbs of up to n digits that are 0, 1, the highest bit, or all ones: those at which carries, borrows and wrong guesses of a division arise.
func patterns(n int) []limbs {
	list := []limbs{nil}
	start := 0
	for range n {
		end := len(list)
		for _, l := range list[start:end] {
			for _, digit := range []uint64{0, 1, 1 << 63, ^uint64(0)} {
				list = append(list, append(slices.Clone(l), digit))
			}
		}
		start = end
	}
	return slices.DeleteFunc(list, func(l limbs) bool { return len(l) > 0 && l[len(l)-1] == 0 })
}

// toBig returns limbs as a big.Int.
func toBig(a limbs) *big.Int {
	n := new(big.Int)
	for i := range a {
		n.Lsh(n, 64).Or(n, new(big.Int).SetUint64(a[len(a)-1-i]))
	}
	return n
}

// isBig reports whether limbs have the value of n, without zeros at their end.
func isBig(a limbs, n *big.Int) bool {
	return toBig(a).Cmp(n) == 0 && (len(a) == 0 || a[len(a)-1] != 0)
}

func TestLimbsOfTwo(t *testing.T) {
	list := patterns(3)
	for _, a := range list {
		x := toBig(a)
		for _, b := range list {
			y := toBig(b)
			if !isBig(a.plus(b), new(big.Int).Add(x, y)) {
				t.Fatalf("%v plus %v: %v", a, b, a.plus(b))
			}
			if !isBig(a.times(b), new(big.Int).Mul(x, y)) {
				t.Fatalf("%v times %v: %v", a, b, a.times(b))
			}
			if a.compare(b) != x.Cmp(y) {
				t.Fatalf("%v compare %v: %d", a, b, a.compare(b))
			}
			if x.Cmp(y) >= 0 && !isBig(a.minus(b), new(big.Int).Sub(x, y)) {
				t.Fatalf("%v minus %v: %v", a, b, a.minus(b))
			}
		}
	}
}

func TestLimbsOver(t *testing.T) {
	above, below := patterns(5), patterns(3)
	for _, a := range above {
		x := toBig(a)
		for _, b := range below {
			if len(b) == 0 {
				continue
			}
			q, r := a.over(b)
			quotient, rest := new(big.Int).QuoRem(x, toBig(b), new(big.Int))
			if !isBig(q, quotient) || !isBig(r, rest) {
				t.Fatalf("%v over %v: %v, %v", a, b, q, r)
			}
		}
	}
}

func TestLimbsOverCorrections(t *testing.T) {
	// Quotients that are just below, at and above a multiple of the divisor: so both corrections of a guess are met.
	for _, b := range patterns(3) {
		for _, c := range patterns(2) {
			if len(b) == 0 || len(c) == 0 {
				continue
			}
			product := b.times(c)
			for _, a := range []limbs{product.minus(natural(1)), product, product.plus(natural(1)), product.plus(b).minus(natural(1))} {
				q, r := a.over(b)
				quotient, rest := new(big.Int).QuoRem(toBig(a), toBig(b), new(big.Int))
				if !isBig(q, quotient) || !isBig(r, rest) {
					t.Fatalf("%v over %v: %v, %v", a, b, q, r)
				}
			}
		}
	}
}

// TestLimbsOverGuesses divides many limbs whose digits are near the ends and the middle of their range, where guesses are wrong in all ways.
func TestLimbsOverGuesses(t *testing.T) {
	digits := []uint64{0, 1, 2, 3, 1 << 32, 1<<63 - 2, 1<<63 - 1, 1 << 63, 1<<63 + 1, 1<<63 + 2, ^uint64(0) - 2, ^uint64(0) - 1, ^uint64(0)}
	state := uint64(1)
	some := func(n int) limbs {
		l := make(limbs, n)
		for i := range l {
			state = state*6364136223846793005 + 1442695040888963407
			l[i] = digits[state>>33%uint64(len(digits))]
		}
		return append(l, 1+state>>62<<62)
	}
	for i := range 200000 {
		a, b := some(2+i%3), some(1+i%2)
		q, r := a.over(b)
		if r.compare(b) >= 0 || q.times(b).plus(r).compare(a) != 0 {
			t.Fatalf("%v over %v: %v, %v", a, b, q, r)
		}
	}
}

func TestLimbsOfOne(t *testing.T) {
	for _, a := range patterns(3) {
		x := toBig(a)
		before := slices.Clone(a)
		for _, n := range []int{0, 1, 63, 64, 65, 127, 128, 129, 200, 300} {
			if !isBig(a.left(n), new(big.Int).Lsh(x, uint(n))) {
				t.Fatalf("%v left %d: %v", a, n, a.left(n))
			}
			if !isBig(a.right(n), new(big.Int).Rsh(x, uint(n))) {
				t.Fatalf("%v right %d: %v", a, n, a.right(n))
			}
			if a.bit(n) != uint64(x.Bit(n)) {
				t.Fatalf("%v bit %d: %d", a, n, a.bit(n))
			}
		}
		if a.length() != x.BitLen() {
			t.Fatalf("%v length: %d", a, a.length())
		}
		if len(a) > 0 && a.trailing() != int(x.TrailingZeroBits()) {
			t.Fatalf("%v trailing: %d", a, a.trailing())
		}
		if a.decimal() != x.String() {
			t.Fatalf("%v decimal: %s, want %s", a, a.decimal(), x)
		}
		if !slices.Equal(a, before) {
			t.Fatalf("%v was changed to %v", before, a)
		}
	}
}

func TestLimbsRoot(t *testing.T) {
	for _, a := range patterns(4) {
		if !isBig(a.root(), new(big.Int).Sqrt(toBig(a))) {
			t.Fatalf("%v root: %v", a, a.root())
		}
	}
	for n := range uint64(1000) {
		if !isBig(natural(n).root(), new(big.Int).Sqrt(new(big.Int).SetUint64(n))) {
			t.Fatalf("%d root: %v", n, natural(n).root())
		}
	}
}

func TestLimbsResultsShareNothing(t *testing.T) {
	a, b := limbs{5, 7, 9}, limbs{1, 1}
	q, r := a.over(b)
	same, none := limbs{5}.over(limbs{9})
	for _, x := range []limbs{a.plus(nil), a.minus(nil), a.left(0), a.right(0), q, r, same, none, a.times(natural(1)), a.root()} {
		for i := range x {
			x[i] = 77
		}
	}
	if !slices.Equal(a, limbs{5, 7, 9}) || !slices.Equal(b, limbs{1, 1}) {
		t.Errorf("arguments were changed to %v and %v", a, b)
	}
}

// TestFieldsOfEqualNumbers checks that equal numbers have equal fields, however they came about.
func TestFieldsOfEqualNumbers(t *testing.T) {
	half, _ := New(8, 4)
	zero := half.Sub(half)
	if zero.negative || zero.magnitude != nil || zero.exponent != 0 {
		t.Errorf("1/2 - 1/2: %v", zero)
	}
	minus := zero.Neg()
	if minus.negative || minus.magnitude != nil || minus.exponent != 0 {
		t.Errorf("-0: %v", minus)
	}
	if half.exponent != -1 || !slices.Equal(half.magnitude, limbs{1}) {
		t.Errorf("8/16: %v", half)
	}
}

// TestChainDivides checks that no division of a chain leaves a rest, also where degrees fall by more than one: each rest is a multiple of the plain one.
func TestChainDivides(t *testing.T) {
	for _, c := range [][]int64{
		{-1, 1, 0, 0, 0, 0, 0, 0, 1}, {7, 0, 3, 0, 0, 0, 0, 0, -2}, {1, 0, 0, 5, 0, 0, 0, 3}, {-5, 2, 8, -3, -3, 0, 1, 0, 1},
		{1, 2, 1}, {0, 0, 0, 4}, {3, -1, 4, -1, 5, -9, 2, -6, 5}, {0, 0, 1, 0, -2, 0, 1}, {9},
	} {
		var p []Num
		for _, n := range c {
			p = append(p, Int(n))
		}
		list := chain(p)
		for i := 2; i < len(list); i++ {
			plain := scaledRest(list[i-2], list[i-1])
			if len(plain) != len(list[i]) {
				t.Fatalf("%v: the rest %d has the wrong degree", c, i)
			}
			for k := range plain {
				a := plain[k].Mul(list[i][len(plain)-1])
				b := list[i][k].Mul(plain[len(plain)-1])
				if !a.Same(b) || plain[k].Sign() != -list[i][k].Sign() {
					t.Fatalf("%v: the rest %d is no negative multiple of the plain one", c, i)
				}
			}
		}
		if last := list[len(list)-1]; len(last) > 1 && !isZero(scaledRest(list[len(list)-2], last)) {
			t.Fatalf("%v: the chain ends too early", c)
		}
	}
}
