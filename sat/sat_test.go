package sat_test

import (
	"math"
	"math/big"
	"slices"
	"testing"

	"forebay/api"
	"forebay/sat"
)

// edges are numbers at which a computation can go wrong, quantities and others.
func edges() []int64 {
	l := []int64{math.MinInt64, math.MinInt64 + 1, -api.Top - 1, -api.Top, -api.Top + 1, -2, -1, 0, 1, 2, 3, 4, 5, 6, 7, 8, 9, 10, 63, 64, 100, 1000, 4095, 4096, 4097, 999983,
		1<<20 - 1, 1 << 20, 1<<20 + 1, 1<<31 - 1, 1 << 31, 1<<32 - 1, 1 << 32, 1<<32 + 1, 1 << 33, api.Top/3 - 1, api.Top / 3, api.Top/3 + 1, api.Top/2 - 1, api.Top / 2, api.Top/2 + 1,
		api.Top - 2, api.Top - 1, api.Top, api.Top + 1, 2*api.Top - 1, 2 * api.Top, 1<<62 - 1, 1 << 62, math.MaxInt64 - 1, math.MaxInt64}
	return l
}

// quantities are the edges that are quantities.
func quantities() []int64 {
	return slices.DeleteFunc(edges(), func(n int64) bool { return n < 0 || n > api.Top })
}

// whole returns n, clamped to a quantity, as a number of any size.
func whole(n int64) *big.Int {
	switch {
	case n < 0:
		n = 0
	case n > 1<<40:
		n = 1 << 40
	}
	return big.NewInt(n)
}

// quantity returns n, clamped to one.
func quantity(n *big.Int) int64 {
	if n.Sign() < 0 {
		return 0
	}
	if n.Cmp(big.NewInt(1<<40)) > 0 {
		return 1 << 40
	}
	return n.Int64()
}

type row struct {
	name      string
	got, want int64
}

func hold(t *testing.T, l []row) {
	t.Helper()
	for _, r := range l {
		if r.got != r.want {
			t.Errorf("%s is %d, not %d", r.name, r.got, r.want)
		}
	}
}

func TestOrdinary(t *testing.T) { // P3.1
	hold(t, []row{
		{"Of(9)", sat.Of(9), 9},
		{"Of(0)", sat.Of(0), 0},
		{"Of(-1)", sat.Of(-1), 0},
		{"Of of the least number", sat.Of(math.MinInt64), 0},
		{"Of(Top)", sat.Of(api.Top), 1 << 40},
		{"Of(Top+1)", sat.Of(api.Top + 1), 1 << 40},
		{"Of of the greatest number", sat.Of(math.MaxInt64), 1 << 40},
		{"Add()", sat.Add(), 0},
		{"Add of an empty list", sat.Add([]int64{}...), 0},
		{"Add(7)", sat.Add(7), 7},
		{"Add(-7)", sat.Add(-7), 0},
		{"Add(Top+1)", sat.Add(api.Top + 1), 1 << 40},
		{"Add(1, 2, 3)", sat.Add(1, 2, 3), 6},
		{"Add(Top, 1)", sat.Add(api.Top, 1), 1 << 40},
		{"Add(Top-1, 1)", sat.Add(api.Top-1, 1), 1 << 40},
		{"Add(Top-2, 1)", sat.Add(api.Top-2, 1), 1<<40 - 1},
		{"Add(5, -9)", sat.Add(5, -9), 5},
		{"Add(Top, 1, -5)", sat.Add(api.Top, 1, -5), 1 << 40},
		{"Sub(5, 3)", sat.Sub(5, 3), 2},
		{"Sub(3, 5)", sat.Sub(3, 5), 0},
		{"Sub(5, -3)", sat.Sub(5, -3), 5},
		{"Sub(-3, -5)", sat.Sub(-3, -5), 0},
		{"Sub(Top+5, 1)", sat.Sub(api.Top+5, 1), 1<<40 - 1},
		{"Sub(Top, Top+5)", sat.Sub(api.Top, api.Top+5), 0},
		{"Mul(6, 7)", sat.Mul(6, 7), 42},
		{"Mul(2^30, 2^30)", sat.Mul(1<<30, 1<<30), 1 << 40},
		{"Mul(2^32, 2^32)", sat.Mul(1<<32, 1<<32), 1 << 40}, // 2^64: 0 if it wraps round
		{"Mul(2^20, 2^20)", sat.Mul(1<<20, 1<<20), 1 << 40},
		{"Mul(2^20-1, 2^20+1)", sat.Mul(1<<20-1, 1<<20+1), 1<<40 - 1},
		{"Mul(Top, 0)", sat.Mul(api.Top, 0), 0},
		{"Mul(0, Top)", sat.Mul(0, api.Top), 0},
		{"Mul(-3, -5)", sat.Mul(-3, -5), 0},
	})
}

// TestArithmetic holds the four against numbers of any size.
func TestArithmetic(t *testing.T) { // P3.1
	for _, a := range edges() {
		hold(t, []row{{"Of", sat.Of(a), whole(a).Int64()}})
		for _, b := range edges() {
			x, y := whole(a), whole(b)
			hold(t, []row{
				{"Add", sat.Add(a, b), quantity(new(big.Int).Add(x, y))},
				{"Add of three", sat.Add(a, b, a), quantity(new(big.Int).Add(new(big.Int).Add(x, y), x))},
				{"Sub", sat.Sub(a, b), quantity(new(big.Int).Sub(x, y))},
				{"Mul", sat.Mul(a, b), quantity(new(big.Int).Mul(x, y))},
			})
		}
	}
}

func TestAddMany(t *testing.T) { // P3.1
	l := make([]int64, 1<<23+1) // as many greatest numbers as would wrap a sum of 64 bits round, if it were clamped at its end alone
	for i := range l {
		l[i] = math.MaxInt64
	}
	hold(t, []row{{"Add of many greatest numbers", sat.Add(l...), api.Top}})
	for i := range l {
		l[i] = api.Top
	}
	hold(t, []row{{"Add of many Tops", sat.Add(l...), api.Top}})
	for i := range l {
		l[i] = 3
	}
	hold(t, []row{{"Add of many 3", sat.Add(l...), 3<<23 + 3}})
}

func TestAddLeavesItsList(t *testing.T) { // P3.1
	under := []int64{-5, api.Top + 9, 4, 77, -77}
	before := slices.Clone(under)
	sat.Add(under[:3]...)
	if !slices.Equal(under, before) {
		t.Error("Add changed its list:", under)
	}
}

func TestCeilTwiceGrain(t *testing.T) { // P3.2
	hold(t, []row{
		{"Ceil(7, 2)", sat.Ceil(7, 2), 4},
		{"Ceil(8, 2)", sat.Ceil(8, 2), 4},
		{"Ceil(9, 2)", sat.Ceil(9, 2), 5},
		{"Ceil(1, Top)", sat.Ceil(1, api.Top), 1},
		{"Ceil(Top, 1)", sat.Ceil(api.Top, 1), 1 << 40},
		{"Ceil(0, 0)", sat.Ceil(0, 0), 0},
		{"Ceil(1, 0)", sat.Ceil(1, 0), 1 << 40},
		{"Ceil(0, 5)", sat.Ceil(0, 5), 0},
		{"Ceil(-7, 2)", sat.Ceil(-7, 2), 0},
		{"Ceil(-7, 0)", sat.Ceil(-7, 0), 0},
		{"Ceil(7, -2)", sat.Ceil(7, -2), 1 << 40},
		{"Ceil(-7, -2)", sat.Ceil(-7, -2), 0},
		{"Ceil of the greatest number", sat.Ceil(math.MaxInt64, 2), 1 << 39},
		{"Ceil of the greatest numbers", sat.Ceil(math.MaxInt64, math.MaxInt64), 1},
		{"Twice(3, 4)", sat.Twice(3, 4), 48},
		{"Twice(3, 0)", sat.Twice(3, 0), 3},
		{"Twice(3, 1)", sat.Twice(3, 1), 6},
		{"Twice(3, -1)", sat.Twice(3, -1), 3},
		{"Twice(3, the least)", sat.Twice(3, math.MinInt), 3},
		{"Twice(1, 39)", sat.Twice(1, 39), 1 << 39},
		{"Twice(1, 40)", sat.Twice(1, 40), 1 << 40},
		{"Twice(1, 41)", sat.Twice(1, 41), 1 << 40},
		{"Twice(1, 64)", sat.Twice(1, 64), 1 << 40}, // 0 if it is shifted out
		{"Twice(1, 99)", sat.Twice(1, 99), 1 << 40},
		{"Twice(1, the greatest)", sat.Twice(1, math.MaxInt), 1 << 40},
		{"Twice(0, the greatest)", sat.Twice(0, math.MaxInt), 0},
		{"Twice(-3, 4)", sat.Twice(-3, 4), 0},
		{"Twice(Top+1, -1)", sat.Twice(api.Top+1, -1), 1 << 40},
		{"Grain(5, 4)", sat.Grain(5, 4), 8},
		{"Grain(8, 4)", sat.Grain(8, 4), 8},
		{"Grain(1, 4)", sat.Grain(1, 4), 4},
		{"Grain(0, 4)", sat.Grain(0, 4), 0},
		{"Grain(5, 0)", sat.Grain(5, 0), 5},
		{"Grain(0, 0)", sat.Grain(0, 0), 0},
		{"Grain(5, -4)", sat.Grain(5, -4), 5},
		{"Grain(-5, 4)", sat.Grain(-5, 4), 0},
		{"Grain(Top+1, 0)", sat.Grain(api.Top+1, 0), 1 << 40},
		{"Grain(Top, 3)", sat.Grain(api.Top, 3), 1 << 40}, // the multiple is above Top
		{"Grain(Top-1, 3)", sat.Grain(api.Top-1, 3), 1<<40 - 1},
		{"Grain(1, Top+1)", sat.Grain(1, api.Top+1), 1 << 40},
	})
}

// TestLeast holds Ceil and Grain against their words: their answer suffices, and the next smaller one does not.
func TestLeast(t *testing.T) { // P3.2
	one := big.NewInt(1)
	for _, a := range edges() {
		for _, b := range edges() {
			x, y := whole(a), whole(b)
			if y.Sign() == 0 {
				continue
			}
			times := new(big.Int).Quo(new(big.Int).Sub(new(big.Int).Add(x, y), one), y)
			if new(big.Int).Mul(times, y).Cmp(x) < 0 || new(big.Int).Mul(new(big.Int).Sub(times, one), y).Cmp(x) >= 0 {
				t.Fatal("the test's own number is not the least:", a, b, times)
			}
			hold(t, []row{
				{"Ceil", sat.Ceil(a, b), quantity(times)},
				{"Grain", sat.Grain(a, b), quantity(new(big.Int).Mul(times, y))},
			})
		}
	}
}

func TestTwice(t *testing.T) { // P3.2
	for _, a := range edges() {
		for n := -2; n < 140; n++ {
			hold(t, []row{{"Twice", sat.Twice(a, n), quantity(new(big.Int).Lsh(whole(a), uint(max(n, 0))))}})
		}
	}
}

func TestSums(t *testing.T) { // P3.3
	for _, a := range quantities() {
		for _, b := range quantities() {
			sum := sat.Add(a, b)
			if sum < a || sum < b {
				t.Error("a sum is below its parts:", a, b, sum)
			}
			if sum < api.Top && (sat.Sub(sum, a) != b || sat.Sub(sum, b) != a) {
				t.Error("Sub of a sum and one part is not the other part:", a, b)
			}
			for _, c := range edges() {
				want := sat.Add(a, b, c)
				hold(t, []row{
					{"Add in order 1 3 2", sat.Add(a, c, b), want},
					{"Add in order 2 1 3", sat.Add(b, a, c), want},
					{"Add in order 2 3 1", sat.Add(b, c, a), want},
					{"Add in order 3 1 2", sat.Add(c, a, b), want},
					{"Add in order 3 2 1", sat.Add(c, b, a), want},
					{"Add of a sum", sat.Add(sat.Add(a, b), c), want},
				})
			}
		}
	}
}

func TestProducts(t *testing.T) { // P3.3
	for _, a := range edges() {
		sum := int64(0)
		for n := range int64(200) {
			hold(t, []row{{"Mul", sat.Mul(a, n), sum}, {"Mul the other way", sat.Mul(n, a), sum}})
			sum = sat.Add(sum, a)
		}
		for n := range 45 {
			hold(t, []row{{"Twice", sat.Twice(a, n), sat.Mul(a, 1<<n)}})
		}
	}
}

func TestCeilIsTight(t *testing.T) { // P3.3
	for _, a := range quantities() {
		for _, b := range quantities() {
			if a == 0 || b == 0 {
				continue
			}
			n := sat.Ceil(a, b)
			if sat.Mul(n, b) < a || sat.Mul(n-1, b) >= a {
				t.Error("Ceil is not tight:", a, b, n)
			}
		}
	}
}
