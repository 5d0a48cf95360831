package quad

import (
	"math"
	"math/cmplx"
	"slices"
	"testing"
)

var (
	minus = math.Copysign(0, -1)
	inf   = math.Inf(1)
	nan   = math.NaN()
)

// samePart tells whether two floats are one, signs of noughts too; any two NaN are.
func samePart(a, b float64) bool {
	return math.Float64bits(a) == math.Float64bits(b) || a != a && b != b
}

func same(a, b complex128) bool {
	return samePart(real(a), real(b)) && samePart(imag(a), imag(b))
}

func sameFour(a, b [4]complex128) bool {
	return same(a[0], b[0]) && same(a[1], b[1]) && same(a[2], b[2]) && same(a[3], b[3])
}

// ends are numbers of quarters, ordinary ones and those at the ends of int,
// each with what is left without its fours.
var ends = []struct{ k, left int }{
	{0, 0}, {1, 1}, {2, 2}, {3, 3}, {4, 0}, {5, 1}, {6, 2}, {7, 3},
	{-1, 3}, {-2, 2}, {-3, 1}, {-4, 0}, {-5, 3}, {-6, 2}, {-7, 1}, {-8, 0},
	{1<<31 - 1, 3}, {1 << 31, 0}, {-1 << 31, 0}, {-1<<31 - 1, 3}, {1<<32 + 1, 1},
	{math.MaxInt, 3}, {math.MaxInt - 1, 2}, {math.MaxInt - 2, 1}, {math.MaxInt - 3, 0},
	{math.MinInt, 0}, {math.MinInt + 1, 1}, {math.MinInt + 2, 2}, {math.MinInt + 3, 3},
}

// parts are the floats that a part may be at its strangest.
var parts = []float64{0, minus, 1, -1, 2.5, -3, 1 << 40, math.MaxFloat64, -math.MaxFloat64, math.SmallestNonzeroFloat64, inf, -inf, nan}

// Promise 1.1, Turn.
func TestTurn(t *testing.T) {
	want := [4]complex128{complex(1, 0), complex(0, 1), complex(-1, 0), complex(0, -1)}
	for _, e := range ends {
		if got := Turn(e.k); !same(got, want[e.left]) {
			t.Errorf("Turn(%d) = %v, not %v", e.k, got, want[e.left])
		}
	}
}

// Promise 1.1, Spin.
func TestSpin(t *testing.T) {
	for _, re := range parts {
		for _, im := range parts {
			want := [4]complex128{complex(re, im), complex(-im, re), complex(-re, -im), complex(im, -re)}
			for _, e := range ends {
				if got := Spin(complex(re, im), e.k); !same(got, want[e.left]) {
					t.Errorf("Spin(%v, %d) = %v, not %v", complex(re, im), e.k, got, want[e.left])
				}
			}
		}
	}
}

func TestSpinByHand(t *testing.T) {
	for _, x := range []struct {
		z    complex128
		k    int
		want complex128
	}{
		{3 + 4i, 1, -4 + 3i},
		{3 + 4i, 2, -3 - 4i},
		{3 + 4i, 3, 4 - 3i},
		{3 + 4i, 0, 3 + 4i},
		{0, 1, complex(minus, 0)},
		{0, 2, complex(minus, minus)},
		{0, 3, complex(0, minus)},
		{complex(minus, minus), 1, complex(0, minus)},
		{complex(minus, minus), 2, 0},
		{complex(minus, minus), 4, complex(minus, minus)},
		{complex(inf, 0), 1, complex(minus, inf)},
		{complex(inf, -inf), 2, complex(-inf, inf)},
		{complex(nan, 7), 3, complex(7, nan)},
		{complex(nan, 7), -3, complex(-7, nan)},
	} {
		if got := Spin(x.z, x.k); !same(got, x.want) {
			t.Errorf("Spin(%v, %d) = %v, not %v", x.z, x.k, got, x.want)
		}
	}
}

// Promise 1.1, Norm.
func TestNorm(t *testing.T) {
	// The square of near, not rounded, and that of little are over half of the last place together, each alone is less.
	near, little := 1+math.Ldexp(1, -27), math.Ldexp(1.2, -27)
	for _, x := range []struct {
		z    complex128
		want float64
	}{
		{0, 0},
		{complex(minus, minus), 0},
		{3 - 4i, 25},
		{-3 + 4i, 25},
		{0.5, 0.25},
		{complex(1<<40, -1<<40), 1 << 81},
		{complex(math.MaxFloat64, 0), inf},
		{complex(1e-200, 1e-200), 0},
		{complex(-inf, 1), inf},
		{complex(1, inf), inf},
		{complex(inf, nan), nan},
		{complex(nan, 0), nan},
		{complex(0, nan), nan},
		{complex(near, little), 1 + math.Ldexp(1, -26)},
		{complex(little, near), 1 + math.Ldexp(1, -26)},
	} {
		if got := Norm(x.z); !samePart(got, x.want) {
			t.Errorf("Norm(%v) = %v, not %v", x.z, got, x.want)
		}
	}
}

// Promise 1.1, Whole: each part is tried beside a whole one and beside one that is not.
func TestWhole(t *testing.T) {
	const most = 1 << 40
	above := math.Nextafter(most, inf)
	for _, x := range []struct {
		part float64
		want bool
	}{
		{0, true}, {minus, true}, {1, true}, {-1, true}, {12345, true},
		{most, true}, {-most, true}, {most - 1, true}, {1 - most, true},
		{most + 1, false}, {-most - 1, false}, {above, false}, {-above, false},
		{math.Nextafter(most, 0), false}, {-math.Nextafter(most, 0), false},
		{0.5, false}, {-0.5, false}, {most - 0.5, false}, {1.25, false},
		{math.SmallestNonzeroFloat64, false}, {-math.SmallestNonzeroFloat64, false},
		{1 << 62, false}, {-1 << 63, false}, {1 << 63, false}, {1 << 53, false},
		{math.MaxFloat64, false}, {-math.MaxFloat64, false},
		{inf, false}, {-inf, false}, {nan, false},
	} {
		for _, z := range []complex128{complex(x.part, -7), complex(-7, x.part), complex(x.part, x.part)} {
			if Whole(z) != x.want {
				t.Errorf("Whole(%v) is not %v", z, x.want)
			}
		}
		if Whole(complex(x.part, 0.5)) || Whole(complex(nan, x.part)) {
			t.Errorf("Whole of %v beside what is not whole", x.part)
		}
	}
}

// Promise 1.2, Four.
func TestFour(t *testing.T) {
	for _, c := range []struct{ x, want [4]complex128 }{
		{[4]complex128{}, [4]complex128{}},
		{[4]complex128{1}, [4]complex128{1, 1, 1, 1}},
		{[4]complex128{0, 1}, [4]complex128{1, -1i, -1, 1i}},
		{[4]complex128{0, 0, 1}, [4]complex128{1, -1, 1, -1}},
		{[4]complex128{0, 0, 0, 1}, [4]complex128{1, 1i, -1, -1i}},
		{[4]complex128{1, 2, 3, 4}, [4]complex128{10, -2 + 2i, -2, -2 - 2i}},
		{[4]complex128{1i, 0, 2 - 1i, 5}, [4]complex128{7, -2 + 7i, -3, -2 - 3i}},
	} {
		if got := Four(c.x); got != c.want {
			t.Errorf("Four(%v) = %v, not %v", c.x, got, c.want)
		}
	}
}

// Promise 1.2, Back.
func TestBack(t *testing.T) {
	for _, c := range []struct{ x, want [4]complex128 }{
		{[4]complex128{}, [4]complex128{}},
		{[4]complex128{4}, [4]complex128{1, 1, 1, 1}},
		{[4]complex128{0, 4}, [4]complex128{1, 1i, -1, -1i}},
		{[4]complex128{0, 0, 4}, [4]complex128{1, -1, 1, -1}},
		{[4]complex128{0, 0, 0, 4}, [4]complex128{1, -1i, -1, 1i}},
		{[4]complex128{1, 2, 3, 4}, [4]complex128{2.5, -0.5 - 0.5i, -0.5, -0.5 + 0.5i}},
	} {
		if got := Back(c.x); got != c.want {
			t.Errorf("Back(%v) = %v, not %v", c.x, got, c.want)
		}
	}
	for _, x := range [][4]complex128{{1, 2, 3, 4}, {1i, -2, 3 - 5i, 1 << 40}, {7, 7, 7, 7}} {
		if got := Back(Four(x)); got != x {
			t.Errorf("Back(Four(%v)) = %v", x, got)
		}
		if got := Four(Back(x)); got != x {
			t.Errorf("Four(Back(%v)) = %v", x, got)
		}
	}
}

// inOrder is chapter 1's sum, written out: the numbers as they are, each turned
// by its own quarters, one behind the other, no nought ahead.
func inOrder(x [4]complex128, step int) complex128 {
	s := [4]complex128{Spin(x[0], 0), Spin(x[1], step), Spin(x[2], 2*step), Spin(x[3], 3*step)}
	return complex(
		((real(s[0])+real(s[1]))+real(s[2]))+real(s[3]),
		((imag(s[0])+imag(s[1]))+imag(s[2]))+imag(s[3]))
}

// strange are fours in whose sums order, signs of noughts and NaN show.
var strange = [][4]complex128{
	{complex(minus, minus), complex(minus, minus), complex(minus, minus), complex(minus, minus)},
	{0, complex(minus, minus), complex(0, minus), complex(minus, 0)},
	{complex(minus, 0), 0, complex(minus, minus), 0},
	{1, 1e100, 1, -1e100},
	{1e100, 1, -1e100, 1},
	{1e100i, 1, -1e100, 1i},
	{0.1, 0.2, 0.3, 0.7i},
	{math.MaxFloat64, math.MaxFloat64, -math.MaxFloat64, 1},
	{1, 1, math.MaxFloat64, math.MaxFloat64},
	{complex(inf, 1), 2, 3, 4},
	{1, complex(3, -inf), 3, complex(-inf, inf)},
	{1, 2, complex(nan, 5), 4},
	{1, 2, 3, complex(0, nan)},
	{complex(math.SmallestNonzeroFloat64, 0), 0, 0, 0},
	{complex(0, 3*math.SmallestNonzeroFloat64), 0, 0, 0},
}

// Promise 1.2: the order of the sums, and what comes of strange parts.
func TestFourAndBackPartByPart(t *testing.T) {
	for _, x := range strange {
		var four, back [4]complex128
		for k := range 4 {
			four[k] = inOrder(x, -k)
			s := inOrder(x, k)
			back[k] = complex(real(s)/4, imag(s)/4)
		}
		if got := Four(x); !sameFour(got, four) {
			t.Errorf("Four(%v) = %v, not %v", x, got, four)
		}
		if got := Back(x); !sameFour(got, back) {
			t.Errorf("Back(%v) = %v, not %v", x, got, back)
		}
	}
}

// Promise 1.2: sums of minus noughts alone stay below nought, and an infinite part leaves the other one as it is.
func TestFourAndBackByHand(t *testing.T) {
	low := complex(minus, minus)
	if got := Four([4]complex128{low, low, low, low})[0]; !same(got, low) {
		t.Errorf("Four of minus noughts begins with %v", got)
	}
	if got := Back([4]complex128{low, low, low, low})[0]; !same(got, low) {
		t.Errorf("Back of minus noughts begins with %v", got)
	}
	if got := Back([4]complex128{complex(inf, 4)})[0]; !same(got, complex(inf, 1)) {
		t.Errorf("Back of infinity begins with %v", got)
	}
	if got := Four([4]complex128{1, 1e100, 1, -1e100})[0]; !same(got, 0) {
		t.Errorf("Four adds in another order: %v", got)
	}
	if got := Four([4]complex128{1, 1, 1e100, -1e100})[0]; !same(got, 0) {
		t.Errorf("Four adds in another order: %v", got)
	}
	if got := Back([4]complex128{1e100, -1e100, 4, 4})[0]; !same(got, 2) {
		t.Errorf("Back adds in another order: %v", got)
	}
}

// Promise 1.2, Sum.
func TestSum(t *testing.T) {
	for _, c := range []struct {
		l    []complex128
		want complex128
	}{
		{nil, 0},
		{[]complex128{}, 0},
		{[]complex128{3 - 4i}, 3 - 4i},
		{[]complex128{1, 2i, 3 - 1i, 0.5}, 4.5 + 1i},
		{[]complex128{complex(minus, minus)}, 0},
		{[]complex128{complex(minus, 1), complex(minus, 2)}, 3i},
		{[]complex128{1, 1e100, -1e100}, 0},
		{[]complex128{1e100, -1e100, 1}, 1},
		{[]complex128{1e100i, 1i, -1e100i, 1}, 1},
		{[]complex128{math.MaxFloat64, math.MaxFloat64, -math.MaxFloat64}, complex(inf, 0)},
		{[]complex128{complex(inf, 1), complex(1, 2)}, complex(inf, 3)},
		{[]complex128{complex(inf, 1), complex(-inf, 2)}, complex(nan, 3)},
		{[]complex128{complex(2, nan), 5}, complex(7, nan)},
	} {
		if got := Sum(c.l); !same(got, c.want) {
			t.Errorf("Sum(%v) = %v, not %v", c.l, got, c.want)
		}
	}
}

func TestSumOfMany(t *testing.T) {
	l := make([]complex128, 100_000)
	for k := range l {
		l[k] = complex(float64(k), -1)
	}
	before := slices.Clone(l)
	if got := Sum(l); got != complex(4_999_950_000, -100_000) {
		t.Error(got)
	}
	if !slices.Equal(l, before) {
		t.Error("Sum changed its list")
	}
	if got := Sum(l[:3:3]); got != 3-3i {
		t.Error("Sum of a list's beginning", got)
	}
}

// Promise 1.1 and 1.2: the same arguments give the same answers.
func TestAgain(t *testing.T) {
	for _, x := range strange {
		kept := x
		if !sameFour(Four(x), Four(x)) || !sameFour(Back(x), Back(x)) || !sameFour(x, kept) {
			t.Error(x)
		}
		if !same(Sum(x[:]), Sum(x[:])) || !sameFour(x, kept) {
			t.Error(x)
		}
	}
}

// lean is the loads of a ring's four quarters as one number.
func lean(loads ...complex128) complex128 {
	for k := range loads {
		loads[k] = Spin(loads[k], k)
	}
	return Sum(loads)
}

// Promise 1.3: one number tells how far loads lean, and which way.
func TestLean(t *testing.T) {
	for _, c := range []struct {
		got, want complex128
		far       float64
	}{
		{lean(0, 0, 0, 0), 0, 0},
		{lean(9, 9, 9, 9), 0, 0},
		{lean(5, 3, 5, 3), 0, 0},
		{lean(7, 0, 0, 0), 7, 49},
		{lean(0, 7, 0, 0), 7i, 49},
		{lean(0, 0, 7, 0), -7, 49},
		{lean(0, 0, 0, 7), -7i, 49},
		{lean(4, 5, 1, 1), 3 + 4i, 25},
		{lean(1, 1, 4, 5), -3 - 4i, 25},
	} {
		if c.got != c.want || Norm(c.got) != c.far || !Whole(c.got) {
			t.Errorf("leans %v, not %v", c.got, c.want)
		}
	}
	loads := [4]complex128{4, 5, 1, 1}
	if f := Four(loads); f[0] != 11 || f[3] != lean(4, 5, 1, 1) || Norm(f[1]) != Norm(cmplx.Conj(f[3])) {
		t.Error("Four of loads", f)
	}
}
