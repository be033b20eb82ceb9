package dyad

import "wallgauge/api"

// Join returns re + im i.
func Join(re, im Num) Cnum { return Cnum{re, im} }

// Complex returns the exact value of c.
func Complex(c complex64) (Cnum, api.Errno) {
	re, e := Float(float64(real(c)))
	if e != api.OK {
		return Cnum{}, e
	}
	im, e := Float(float64(imag(c)))
	if e != api.OK {
		return Cnum{}, e
	}
	return Cnum{re, im}, api.OK
}

// Re returns the real part.
func (x Cnum) Re() Num { return x.re }

// Im returns the imaginary part.
func (x Cnum) Im() Num { return x.im }

// Add returns x + y.
func (x Cnum) Add(y Cnum) Cnum { return Cnum{x.re.Add(y.re), x.im.Add(y.im)} }

// Sub returns x - y.
func (x Cnum) Sub(y Cnum) Cnum { return difference(x, y) }

// Mul returns x y.
func (x Cnum) Mul(y Cnum) Cnum {
	return Cnum{
		x.re.Mul(y.re).Sub(x.im.Mul(y.im)),
		x.re.Mul(y.im).Add(x.im.Mul(y.re)),
	}
}

// Neg returns -x.
func (x Cnum) Neg() Cnum { return Cnum{x.re.Neg(), x.im.Neg()} }

// Conj returns the conjugate of x.
func (x Cnum) Conj() Cnum { return Cnum{x.re, x.im.Neg()} }

// Norm returns the square of the absolute value of x.
func (x Cnum) Norm() Num { return x.re.Mul(x.re).Add(x.im.Mul(x.im)) }

// Zero reports whether x is 0.
func (x Cnum) Zero() bool { return x.re.Zero() && x.im.Zero() }

// Same reports whether x and y are equal.
func (x Cnum) Same(y Cnum) bool { return x.re.Same(y.re) && x.im.Same(y.im) }

// Near returns the complex number nearest to x.
func (x Cnum) Near() complex128 { return complex(x.re.Near(), x.im.Near()) }

// Near64 returns the complex number of float32s nearest to x.
func (x Cnum) Near64() complex64 { return complex(x.re.Near32(), x.im.Near32()) }

// Dot returns the sum of the products of the elements of a and the conjugates of those of b.
func Dot(a, b []Cnum) (Cnum, api.Errno) {
	if len(a) != len(b) || len(a) > api.MaxDot {
		return Cnum{}, api.ErrSize
	}
	conjugates := make([]Cnum, len(b))
	for i, y := range b {
		conjugates[i] = y.Conj()
	}
	return inner(a, conjugates), api.OK
}
