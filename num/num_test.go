package num_test

import (
	"math"
	"math/big"
	"math/rand"
	"testing"

	"usance/api"
	"usance/num"
)

const most = int64(api.MaxNum)

// samples are the edges of numbers, what lies beyond them, halves, and numbers of all sizes from a fixed seed.
func samples() []int64 {
	out := []int64{0}
	for _, a := range []int64{
		1, 2, 3, 4, 5, 7, 10, 99999, 100000, 499999, 500000, 500001, 999999, 1000000, 1000001, 1499999, 1500000, 1500001,
		2000000, 2500000, 3000000, 31622776601, 31622776602, 1000000000000, most / 3, most / 2, most - 500000, most - 1, most,
		most + 1, most + 1000000, 2 * most, 1 << 53, 1 << 62, math.MaxInt64,
	} {
		out = append(out, a, -a)
	}
	out = append(out, math.MinInt64, math.MinInt64+1)
	r := rand.New(rand.NewSource(1))
	for shift := range 63 {
		a := r.Int63() >> shift
		out = append(out, a, -a)
	}
	return out
}

func clampBig(a *big.Int) int64 {
	if a.Cmp(big.NewInt(most)) > 0 {
		return most
	}
	if a.Cmp(big.NewInt(-most)) < 0 {
		return -most
	}
	return a.Int64()
}

func clamped(a int64) *big.Int { return big.NewInt(clampBig(big.NewInt(a))) }

// rounded is a / b to the nearest whole number, a half to the even one: worked out by floors, as the program doesn't.
func rounded(a, b *big.Int) *big.Int {
	if b.Sign() < 0 {
		a, b = new(big.Int).Neg(a), new(big.Int).Neg(b)
	}
	floor, rest := new(big.Int).DivMod(a, b, new(big.Int))
	twice := rest.Lsh(rest, 1).Cmp(b)
	if twice > 0 || twice == 0 && floor.Bit(0) == 1 {
		floor.Add(floor, big.NewInt(1))
	}
	return floor
}

// P1.1
func TestClamp(t *testing.T) {
	for a, want := range map[int64]int64{
		0: 0, 1: 1, -1: -1, most: most, -most: -most, most - 1: most - 1, 1 - most: 1 - most,
		most + 1: most, -most - 1: -most, math.MaxInt64: most, math.MinInt64: -most,
	} {
		if got := num.Clamp(a); got != want {
			t.Errorf("Clamp(%d): %d, want %d", a, got, want)
		}
	}
}

// P1.1
func TestSums(t *testing.T) {
	for i, x := range [][2]int64{
		{num.Add(1500000, 250000), 1750000}, {num.Add(-3, 1), -2}, {num.Add(most, 1), most}, {num.Add(-most, -1), -most},
		{num.Add(most, -1), most - 1}, {num.Add(math.MaxInt64, math.MaxInt64), most}, {num.Add(math.MinInt64, math.MinInt64), -most},
		{num.Add(math.MaxInt64, -1), most - 1}, {num.Add(math.MaxInt64, math.MinInt64), 0},
		{num.Sub(0, 7), -7}, {num.Sub(most, -1), most}, {num.Sub(-most, 1), -most}, {num.Sub(0, math.MinInt64), most},
		{num.Sub(math.MinInt64, math.MinInt64), 0}, {num.Sub(math.MinInt64, -1), 1 - most}, {num.Sub(math.MaxInt64, 1), most - 1},
		{num.Neg(5), -5}, {num.Neg(-5), 5}, {num.Neg(0), 0}, {num.Neg(most), -most}, {num.Neg(most + 1), -most},
		{num.Neg(math.MaxInt64), -most}, {num.Neg(math.MinInt64), most},
	} {
		if x[0] != x[1] {
			t.Errorf("%d: %d, want %d", i, x[0], x[1])
		}
	}
}

// P1.2
func TestMul(t *testing.T) {
	for _, x := range [][3]int64{
		{2000000, 3000000, 6000000}, {1500000, -1500000, -2250000}, {-1500000, -1500000, 2250000}, {0, -most, 0},
		{500000, 1, 0}, {500000, 3, 2}, {500000, 5, 2}, {500000, 7, 4}, {1500000, 3, 4}, // halves, to the even one
		{-500000, 1, 0}, {-500000, 3, -2}, {500000, -5, -2}, {-500000, -7, 4}, {-1500000, 3, -4},
		{500001, 1, 1}, {499999, 1, 0}, {-500001, 1, -1}, {-499999, 1, 0}, {500001, 3, 2}, {833333, 3, 2},
		{most, most, most}, {most, -most, -most}, {-most, -most, most}, {most, 1000001, most}, {most, 999999, 999999000000000},
		{1000000000000, 1000000000, most}, {1000000000001, 1000000000, most}, {most, 1, 1000000000},
		{1000322, 999678103650625, most}, {-1000322, 999678103650625, -most}, {31622776601, 31622776602, 999999999988376}, {31622776602, -31622776602, -most},
		{math.MaxInt64, 1, 1000000000}, {math.MinInt64, 1, -1000000000}, {1000, math.MinInt64, -1000000000000},
		{math.MinInt64, math.MinInt64, most}, {math.MaxInt64, math.MinInt64, -most},
	} {
		if got := num.Mul(x[0], x[1]); got != x[2] {
			t.Errorf("Mul(%d, %d): %d, want %d", x[0], x[1], got, x[2])
		}
	}
}

// P1.3
func TestDiv(t *testing.T) {
	for _, x := range [][3]int64{
		{6000000, 3000000, 2000000}, {1000000, 3000000, 333333}, {2000000, 3000000, 666667}, {-2000000, 3000000, -666667},
		{1000000, -3000000, -333333}, {-2000000, -3000000, 666667}, {0, 5, 0}, {0, -5, 0},
		{5, 0, 0}, {-5, 0, 0}, {0, 0, 0}, {most, 0, 0}, {math.MinInt64, 0, 0},
		{1, 2000000, 0}, {3, 2000000, 2}, {5, 2000000, 2}, {7, 2000000, 4}, // halves, to the even one
		{-1, 2000000, 0}, {-3, 2000000, -2}, {5, -2000000, -2}, {-7, -2000000, 4},
		{500000000, most, 0}, {1500000000, most, 2}, {500000001, most, 1}, {499999999, most, 0}, {-1500000000, most, -2},
		{most, 1, most}, {-most, 1, -most}, {most, -1, -most}, {most, 999999, most}, {most, 1000001, 999999000001000},
		{most, most, 1000000}, {most, -most, -1000000}, {1, 1, 1000000}, {1000000000, 1, most}, {1000000001, 1, most}, {999999999, 1, 999999999000000},
		{math.MaxInt64, most, 1000000}, {most, math.MaxInt64, 1000000}, {math.MinInt64, math.MinInt64, 1000000}, {most, math.MinInt64, -1000000},
		{math.MinInt64, 1, -most}, {math.MinInt64, -1, most},
	} {
		if got := num.Div(x[0], x[1]); got != x[2] {
			t.Errorf("Div(%d, %d): %d, want %d", x[0], x[1], got, x[2])
		}
	}
}

// P1.1 to P1.3, held against whole numbers without limits.
func TestReckoningExact(t *testing.T) {
	one := big.NewInt(api.One)
	check := func(call string, a, b, got int64, exact *big.Int) {
		if want := clampBig(exact); got != want {
			t.Errorf("%s(%d, %d): %d, want %d", call, a, b, got, want)
		}
	}
	for _, a := range samples() {
		x := clamped(a)
		check("Clamp", a, 0, num.Clamp(a), big.NewInt(a))
		check("Neg", a, 0, num.Neg(a), new(big.Int).Neg(x))
		for _, b := range samples() {
			y := clamped(b)
			check("Add", a, b, num.Add(a, b), new(big.Int).Add(x, y))
			check("Sub", a, b, num.Sub(a, b), new(big.Int).Sub(x, y))
			check("Mul", a, b, num.Mul(a, b), rounded(new(big.Int).Mul(x, y), one))
			quotient := new(big.Int)
			if y.Sign() != 0 {
				quotient = rounded(new(big.Int).Mul(x, one), y)
			}
			check("Div", a, b, num.Div(a, b), quotient)
		}
	}
}

// P1.4
func TestWhole(t *testing.T) {
	for a, want := range map[int64]int64{
		0: 0, 1: 0, -1: 0, 999999: 0, -999999: 0, 1000000: 1, -1000000: -1, 1999999: 1, -1999999: -1, -1500000: -1,
		most: 1000000000, -most: -1000000000, most - 1: 999999999, 1 - most: -999999999,
		most + 1000000: 1000000000, math.MaxInt64: 1000000000, math.MinInt64: -1000000000,
	} {
		if got := num.Whole(a); got != want {
			t.Errorf("Whole(%d): %d, want %d", a, got, want)
		}
	}
}

// P1.6
func TestOrderOfArguments(t *testing.T) {
	for _, a := range samples() {
		for _, b := range samples() {
			if num.Add(a, b) != num.Add(b, a) || num.Mul(a, b) != num.Mul(b, a) {
				t.Errorf("%d, %d", a, b)
			}
		}
	}
}

// P1.6
func TestByOne(t *testing.T) {
	for _, a := range samples() {
		want := num.Clamp(a)
		if num.Mul(a, api.One) != want || num.Div(a, api.One) != want {
			t.Errorf("%d: %d, %d", a, num.Mul(a, api.One), num.Div(a, api.One))
		}
	}
}

// P1.6
func TestNearerStaysNearer(t *testing.T) {
	all := samples()
	for _, a := range all {
		for _, greater := range append(all, a+1) {
			if greater < a {
				continue
			}
			for _, b := range all {
				if num.Add(greater, b) < num.Add(a, b) {
					t.Errorf("Add(%d, %d) is less than that of %d", greater, b, a)
				}
				if b >= 0 && num.Mul(greater, b) < num.Mul(a, b) {
					t.Errorf("Mul(%d, %d) is less than that of %d", greater, b, a)
				}
			}
		}
	}
}
