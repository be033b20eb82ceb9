// Package dyad is layer 1: dyadic numbers of any size, spans of real numbers, complex numbers, and polynomials. See shared/doc/01-dyad.md.
package dyad

// Num is a dyadic number; the zero value is 0.
//
// It is magnitude 2^exponent, or the negative of this. The magnitude is odd, and of the number 0 all fields are zero values, so equal numbers have equal fields.
type Num struct {
	negative  bool
	magnitude limbs
	exponent  int
}

// Span is a closed interval of real numbers with dyadic ends; the zero value is that of 0 alone.
type Span struct{ lo, hi Num }

// Cnum is a complex number with dyadic parts; the zero value is 0.
type Cnum struct{ re, im Num }

// ring is what numbers and complex numbers have in common; the zero value of T is its 0.
type ring[T any] interface {
	Add(T) T
	Mul(T) T
	Neg() T
}

// sum returns the sum of all terms, 0 for none.
func sum[T ring[T]](terms ...T) T {
	var total T
	for _, x := range terms {
		total = total.Add(x)
	}
	return total
}

// difference returns x - y.
func difference[T ring[T]](x, y T) T { return x.Add(y.Neg()) }

// inner returns the sum of all a[i] b[i]; b has as many elements as a.
func inner[T ring[T]](a, b []T) T {
	terms := make([]T, len(a))
	for i := range terms {
		terms[i] = a[i].Mul(b[i])
	}
	return sum(terms...)
}
