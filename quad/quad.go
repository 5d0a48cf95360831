// Package quad is quarter turns: see DOC.md, chapter 1.
package quad

import "math"

// far is how far from nought a part may be in Whole.
const far = 1 << 40

// Turn is i to the power of k.
func Turn(k int) complex128 {
	switch quarters(k) {
	case 1:
		return 1i
	case 2:
		return -1
	case 3:
		return -1i
	}
	return 1
}

// quarters is k without its fours: the two lowest bits, since they say the same below 0.
func quarters(k int) int { return k & 3 }

// Spin is z, turned by k quarters. A product with Turn(k) would lose signs of
// noughts and make NaN of infinities, so the parts change places instead.
func Spin(z complex128, k int) complex128 {
	re, im := real(z), imag(z)
	switch quarters(k) {
	case 1:
		return complex(-im, re)
	case 2:
		return complex(-re, -im)
	case 3:
		return complex(im, -re)
	}
	return z
}

// Norm is the square of z's size. Each product is converted, lest a machine
// that multiplies and adds in one go leaves it unrounded.
func Norm(z complex128) float64 {
	re, im := real(z), imag(z)
	return float64(re*re) + float64(im*im)
}

// Whole tells whether both parts of z are whole numbers from -2^40 to 2^40.
func Whole(z complex128) bool {
	return wholePart(real(z)) && wholePart(imag(z))
}

// wholePart is false of NaN, which is not at least anything.
func wholePart(x float64) bool {
	return x >= -far && x <= far && x == math.Trunc(x)
}

// Four is how much of each speed, 0 to 3 quarters a step, is in x.
func Four(x [4]complex128) [4]complex128 {
	var y [4]complex128
	for k := range y {
		y[k] = spun(x, -k)
	}
	return y
}

// Back is the x of which Four makes this one.
func Back(x [4]complex128) [4]complex128 {
	var y [4]complex128
	for n := range y {
		y[n] = fourth(spun(x, n))
	}
	return y
}

// spun is the sum of x's numbers, each turned by step quarters more than the
// one ahead. It begins with the first one: a nought ahead of it would take
// the sign of a sum of minus noughts.
func spun(x [4]complex128, step int) complex128 {
	z := x[0]
	k := 1
more:
	if k < len(x) {
		z += Spin(x[k], k*step)
		k++
		goto more
	}
	return z
}

// fourth divides part by part: a division of complex numbers would mix the parts.
func fourth(z complex128) complex128 {
	return complex(float64(real(z)/4), float64(imag(z)/4))
}

// Sum is all of l together, from nought on.
func Sum(l []complex128) complex128 {
	var z complex128
	k := 0
more:
	if k < len(l) {
		z += l[k]
		k++
		goto more
	}
	return z
}
