package dent

import "wallgauge/dyad"

// plus returns v + w.
func (v Vector) plus(w Vector) Vector { return Vector{v.X + w.X, v.Y + w.Y, v.Z + w.Z} }

// minus returns v - w.
func (v Vector) minus(w Vector) Vector { return v.plus(w.times(-1)) }

// times returns n v.
func (v Vector) times(n int) Vector { return Vector{n * v.X, n * v.Y, n * v.Z} }

// cross returns the product v x w.
func (v Vector) cross(w Vector) Vector {
	return Vector{v.Y*w.Z - v.Z*w.Y, v.Z*w.X - v.X*w.Z, v.X*w.Y - v.Y*w.X}
}

// square returns the square of the length. That of a product of steps does not fit an int.
func (v Vector) square() dyad.Num {
	x, y, z := number(v.X), number(v.Y), number(v.Z)
	return x.Mul(x).Add(y.Mul(y)).Add(z.Mul(z))
}

// within tells whether no component has an absolute value above most.
func (v Vector) within(most int) bool {
	return min(v.X, v.Y, v.Z) >= -most && max(v.X, v.Y, v.Z) <= most
}

// over returns the place v/under. under is above 0.
func (v Vector) over(under int) Place {
	by := divisor(divisor(v.X, v.Y), divisor(v.Z, under))
	return Place{v.X / by, v.Y / by, v.Z / by, under / by}
}

// divisor returns the greatest common divisor of two numbers, 0 for two zeros.
func divisor(a, b int) int {
	if b == 0 {
		return abs(a)
	}
	return divisor(b, a%b)
}
