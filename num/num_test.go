package num_test

import (
	"math"
	"math/big"
	"testing"

	"rebus/api"
	"rebus/num"
)

// top is the greatest whole number, tiny the least number above 0.
const (
	top  = 1 << 53
	tiny = math.SmallestNonzeroFloat64
	huge = math.MaxFloat64
)

// numbers lists numbers of all sizes and of both signs, all edges among them.
func numbers() []float64 {
	l := []float64{0}
	for _, x := range []float64{
		1, 2, 3, 4, 5, 7, 10, 127, 128, 1022, 1023, 1024, 94906265, 94906266,
		0.1, 0.25, 1.0 / 3, 0.5, 0.75, 1 - 1.0/top, 1 + 2.0/top, 1.5, 2.5, 3.375, 1e15 + 0.5,
		top/2 - 0.5, top / 2, top/2 + 1, top - 2, top - 1, top, top + 2, top + 4, 2 * top, 3 * top,
		1 << 62, 1 << 63, 1 << 64, 1e100, 1e154, 1.4e154, 1e200, 1e300, 0x1p1022, 0x1p1023, huge / 2, huge,
		tiny, 2 * tiny, 0x1p-1022 - tiny, 0x1p-1022, 0x1p-1023, 0x1p-1024, 1e-320, 1e-300, 1e-200, 1e-162, 1e-100, 1e-9,
	} {
		l = append(l, x, -x)
	}
	return l
}

// strangers lists what is no number.
func strangers() []float64 {
	return []float64{
		math.Inf(1), math.Inf(-1), math.NaN(), math.Copysign(math.NaN(), -1),
		math.Float64frombits(0x7ff0000000000001), math.Float64frombits(0xffffffffffffffff),
	}
}

// integers lists integers of all sizes and of both signs, all edges among them.
func integers() []int64 {
	l := []int64{0, math.MinInt64}
	for _, n := range []int64{
		1, 2, 3, 4, 5, 6, 7, 8, 10, 63, 64, 127, 128, 1000, 1<<26 - 1, 1 << 26, 1<<26 + 1, 1 << 27, 1<<27 + 1,
		94906265, 94906266, 94906267, 6361, 69431, 20394401, 441650591,
		1 << 31, 1 << 32, 1<<32 + 1, 1<<52 - 1, 1 << 52, 1<<52 + 1, top/3 - 1, top / 3, top/3 + 1,
		top - 2, top - 1, top, top + 1, top + 2, 2 * top, 1<<62 - 1, 1 << 62, 1<<62 + 1, math.MaxInt64 - 1, math.MaxInt64,
	} {
		l = append(l, n, -n)
	}
	return l
}

// unlike tells whether two float64s differ, in the sign of a zero too.
func unlike(x, y float64) bool { return math.Float64bits(x) != math.Float64bits(y) }

// exact is a number as a fraction.
func exact(x float64) *big.Rat { return new(big.Rat).SetFloat64(x) }

// rounded is a fraction as a number, and what an operation that comes to it
// tells beside it.
func rounded(x *big.Rat) (float64, api.Errno) {
	z, _ := x.Float64()
	if math.IsInf(z, 0) {
		return 0, api.ErrDomain
	}
	return z + 0, api.OK
}

// check holds a number and an error against those that are wanted.
func check(t *testing.T, what string, a, b, got float64, err api.Errno, want float64, wanted api.Errno) {
	t.Helper()
	if unlike(got, want) || err != wanted {
		t.Errorf("%s(%g, %g) is %g, %d, not %g, %d", what, a, b, got, err, want, wanted)
	}
}

// checkInt holds an integer and a truth against those that are wanted.
func checkInt(t *testing.T, what string, a, b, got int64, ok bool, want int64, wanted bool) {
	t.Helper()
	if got != want || ok != wanted {
		t.Errorf("%s(%d, %d) is %d, %v, not %d, %v", what, a, b, got, ok, want, wanted)
	}
}

// P3.1

func TestTidy(t *testing.T) {
	for _, x := range numbers() {
		if z, ok := num.Tidy(x); !ok || unlike(z, x) {
			t.Errorf("Tidy(%g) is %g, %v", x, z, ok)
		}
	}
	if z, ok := num.Tidy(math.Copysign(0, -1)); !ok || unlike(z, 0) {
		t.Errorf("Tidy of zero with a sign is %g, %v", z, ok)
	}
	for _, x := range strangers() {
		if z, ok := num.Tidy(x); ok || unlike(z, 0) {
			t.Errorf("Tidy(%g) is %g, %v", x, z, ok)
		}
	}
}

func TestWhole(t *testing.T) {
	for _, n := range integers() {
		x := float64(n)
		if exact(x).Cmp(new(big.Rat).SetInt64(n)) != 0 {
			continue
		}
		want, wanted := n, true
		if n < -top || n > top {
			want, wanted = 0, false
		}
		if got, ok := num.Whole(x); got != want || ok != wanted {
			t.Errorf("Whole(%g) is %d, %v", x, got, ok)
		}
	}
	if n, ok := num.Whole(math.Copysign(0, -1)); n != 0 || !ok {
		t.Errorf("Whole of zero with a sign is %d, %v", n, ok)
	}
}

func TestWholeOfOthers(t *testing.T) {
	others := append(strangers(),
		0.5, 0.25, 0.1, 1.5, 2.5, 1e15+0.5, 1-1.0/top, 1+2.0/top, tiny, 1e-300, top/2-0.5, 4503599627370495.5,
		top+2, top+4, 2*top, 1<<62, 1<<63, 1<<64, 1e19, 1e100, 1e300, huge)
	for _, x := range others {
		for _, y := range []float64{x, -x} {
			if n, ok := num.Whole(y); ok || n != 0 {
				t.Errorf("Whole(%g) is %d, %v", y, n, ok)
			}
		}
	}
}

// P3.2

// operation is an operation on int64s, beside the one it must equal.
type operation struct {
	name  string
	got   func(a, b int64) (int64, bool)
	exact func(z, x, y *big.Int) *big.Int
	float func(a, b float64) (float64, api.Errno)
}

// operations lists those that go by integers.
func operations() []operation {
	return []operation{
		{"AddInt", num.AddInt, (*big.Int).Add, num.Add},
		{"SubInt", num.SubInt, (*big.Int).Sub, num.Sub},
		{"MulInt", num.MulInt, (*big.Int).Mul, num.Mul},
	}
}

func TestInts(t *testing.T) {
	most := big.NewInt(top)
	for _, op := range operations() {
		for _, a := range integers() {
			for _, b := range integers() {
				x, y := big.NewInt(a), big.NewInt(b)
				z := op.exact(new(big.Int), x, y)
				got, ok := op.got(a, b)
				if x.CmpAbs(most) > 0 || y.CmpAbs(most) > 0 || z.CmpAbs(most) > 0 {
					checkInt(t, op.name, a, b, got, ok, 0, false)
				} else {
					checkInt(t, op.name, a, b, got, ok, z.Int64(), true)
				}
			}
		}
	}
}

func TestIntsAtTheEdge(t *testing.T) {
	cases := []struct {
		op   func(a, b int64) (int64, bool)
		name string
		a, b int64
		want int64
		ok   bool
	}{
		{num.AddInt, "AddInt", top - 1, 1, top, true},
		{num.AddInt, "AddInt", top, 0, top, true},
		{num.AddInt, "AddInt", top, 1, 0, false},
		{num.AddInt, "AddInt", 1, top, 0, false},
		{num.AddInt, "AddInt", 1 - top, -1, -top, true},
		{num.AddInt, "AddInt", -top, -1, 0, false},
		{num.AddInt, "AddInt", top + 1, -1, 0, false},
		{num.AddInt, "AddInt", -1, top + 1, 0, false},
		{num.AddInt, "AddInt", math.MaxInt64, math.MinInt64, 0, false},
		{num.AddInt, "AddInt", math.MinInt64, math.MinInt64, 0, false},
		{num.SubInt, "SubInt", top - 1, -1, top, true},
		{num.SubInt, "SubInt", top, -1, 0, false},
		{num.SubInt, "SubInt", -top, 1, 0, false},
		{num.SubInt, "SubInt", 1 - top, 1, -top, true},
		{num.SubInt, "SubInt", top + 1, 1, 0, false},
		{num.SubInt, "SubInt", top + 1, top + 1, 0, false},
		{num.SubInt, "SubInt", math.MinInt64, math.MinInt64, 0, false},
		{num.SubInt, "SubInt", 0, math.MinInt64, 0, false},
		{num.MulInt, "MulInt", 94906265, 94906265, 9007199136250225, true},
		{num.MulInt, "MulInt", 94906266, 94906266, 0, false},
		{num.MulInt, "MulInt", 1 << 26, 1 << 27, top, true},
		{num.MulInt, "MulInt", -1 << 26, 1 << 27, -top, true},
		{num.MulInt, "MulInt", -1 << 26, -1 << 27, top, true},
		{num.MulInt, "MulInt", 441650591, 20394401, top - 1, true},
		{num.MulInt, "MulInt", 321, 28059810762433, 0, false}, // 2^53 + 1
		{num.MulInt, "MulInt", 3, top/3 + 1, 0, false},
		{num.MulInt, "MulInt", 3, 3002399751580331, 0, false}, // 2^53 + 1
		{num.MulInt, "MulInt", -3002399751580331, 3, 0, false},
		{num.MulInt, "MulInt", 3, -3002399751580330, -9007199254740990, true},
		{num.MulInt, "MulInt", 1 << 32, 1 << 32, 0, false}, // 2^64, that wraps round to 0
		{num.MulInt, "MulInt", top, 1 << 11, 0, false},
		{num.MulInt, "MulInt", top, top, 0, false},
		{num.MulInt, "MulInt", -top, -1, top, true},
		{num.MulInt, "MulInt", top + 1, 0, 0, false},
		{num.MulInt, "MulInt", 0, -top - 1, 0, false},
		{num.MulInt, "MulInt", 0, math.MinInt64, 0, false},
		{num.MulInt, "MulInt", -1, math.MinInt64, 0, false},
		{num.MulInt, "MulInt", math.MinInt64, 1, 0, false},
		{num.MulInt, "MulInt", 0, top, 0, true},
	}
	for _, c := range cases {
		got, ok := c.op(c.a, c.b)
		checkInt(t, c.name, c.a, c.b, got, ok, c.want, c.ok)
	}
}

// P3.3

func TestAddSubMulDiv(t *testing.T) {
	cases := []struct {
		name  string
		got   func(a, b float64) (float64, api.Errno)
		exact func(z, x, y *big.Rat) *big.Rat
	}{
		{"Add", num.Add, (*big.Rat).Add},
		{"Sub", num.Sub, (*big.Rat).Sub},
		{"Mul", num.Mul, (*big.Rat).Mul},
		{"Div", num.Div, (*big.Rat).Quo},
	}
	for _, c := range cases {
		for _, a := range numbers() {
			for _, b := range numbers() {
				if c.name == "Div" && b == 0 {
					continue
				}
				want, wanted := rounded(c.exact(new(big.Rat), exact(a), exact(b)))
				got, err := c.got(a, b)
				check(t, c.name, a, b, got, err, want, wanted)
			}
		}
	}
}

func TestDivByZero(t *testing.T) {
	for _, a := range numbers() {
		want, wanted := 0.0, api.ErrDomain
		if a == 0 {
			want, wanted = 1, api.OK
		}
		got, err := num.Div(a, 0)
		check(t, "Div", a, 0, got, err, want, wanted)
	}
}

func TestZerosHaveNoSign(t *testing.T) {
	cases := []struct {
		name string
		op   func(a, b float64) (float64, api.Errno)
		a, b float64
	}{
		{"Add", num.Add, -3, 3},
		{"Add", num.Add, 0, 0},
		{"Sub", num.Sub, -3, -3},
		{"Sub", num.Sub, 0, 0},
		{"Mul", num.Mul, 0, -3},
		{"Mul", num.Mul, -3, 0},
		{"Mul", num.Mul, -1e-200, 1e-200},
		{"Mul", num.Mul, -tiny, 0.5},
		{"Div", num.Div, 0, -3},
		{"Div", num.Div, -1e-200, 1e200},
		{"Div", num.Div, tiny, -2},
		{"Rest", num.Rest, -3, 6},
		{"Rest", num.Rest, 3, -6},
		{"Rest", num.Rest, 0, 0},
		{"Power", num.Power, -1e-200, 3},
		{"Power", num.Power, -0.25, 1023},
		{"Power", num.Power, 0, 3},
	}
	for _, c := range cases {
		got, err := c.op(c.a, c.b)
		check(t, c.name, c.a, c.b, got, err, 0, api.OK)
	}
}

func TestNotFinite(t *testing.T) {
	cases := []struct {
		name string
		op   func(a, b float64) (float64, api.Errno)
		a, b float64
	}{
		{"Add", num.Add, huge, huge},
		{"Add", num.Add, -huge, -huge},
		{"Add", num.Add, huge, 0x1p970},
		{"Sub", num.Sub, huge, -huge},
		{"Sub", num.Sub, -huge, 0x1p970},
		{"Mul", num.Mul, 1e200, 1e200},
		{"Mul", num.Mul, -1e200, 1e200},
		{"Mul", num.Mul, 0x1p1023, 2},
		{"Div", num.Div, 1e200, 1e-200},
		{"Div", num.Div, 1, tiny},
		{"Div", num.Div, -1, tiny},
		{"Div", num.Div, 1, 0},
		{"Div", num.Div, -1, 0},
		{"Div", num.Div, tiny, 0},
	}
	for _, c := range cases {
		got, err := c.op(c.a, c.b)
		check(t, c.name, c.a, c.b, got, err, 0, api.ErrDomain)
	}
	got, err := num.Add(huge, 0x1p969)
	check(t, "Add", huge, 0x1p969, got, err, huge, api.OK)
	got, err = num.Add(huge, -huge)
	check(t, "Add", huge, -huge, got, err, 0, api.OK)
}

// Each operation is rounded: a product that is fused with a difference keeps
// what rounding takes off.
func TestEachIsRounded(t *testing.T) {
	for _, a := range append(numbers(), 1+0x1p-30, 1e15/3) {
		if _, err := num.Mul(a, a); err == api.OK && unlike(lost(a), 0) {
			t.Errorf("the square of %g without itself is %g", a, lost(a))
		}
	}
}

// lost subtracts a square from itself, where both may be expanded in place.
func lost(a float64) float64 {
	p, _ := num.Mul(a, a)
	q, _ := num.Mul(a, a)
	z, _ := num.Sub(p, q)
	return z
}

// P3.4

func TestMaxMin(t *testing.T) {
	for _, a := range numbers() {
		for _, b := range numbers() {
			most, least := a, b
			if exact(a).Cmp(exact(b)) < 0 {
				most, least = b, a
			}
			if got := num.Max(a, b); unlike(got, most) {
				t.Errorf("Max(%g, %g) is %g", a, b, got)
			}
			if got := num.Min(a, b); unlike(got, least) {
				t.Errorf("Min(%g, %g) is %g", a, b, got)
			}
		}
	}
}

func TestSignAbs(t *testing.T) {
	for _, x := range numbers() {
		if got := num.Sign(x); unlike(got, float64(exact(x).Sign())) {
			t.Errorf("Sign(%g) is %g", x, got)
		}
		if want, _ := rounded(new(big.Rat).Abs(exact(x))); unlike(num.Abs(x), want) {
			t.Errorf("Abs(%g) is %g", x, num.Abs(x))
		}
	}
}

func TestFlagTruth(t *testing.T) {
	if unlike(num.Flag(true), 1) || unlike(num.Flag(false), 0) {
		t.Errorf("Flag is %g of true, %g of false", num.Flag(true), num.Flag(false))
	}
	for _, x := range numbers() {
		is, ok := num.Truth(x)
		if is != (x == 1) || ok != (x == 0 || x == 1) {
			t.Errorf("Truth(%g) is %v, %v", x, is, ok)
		}
	}
	for _, b := range []bool{false, true} {
		if is, ok := num.Truth(num.Flag(b)); is != b || !ok {
			t.Errorf("Truth of Flag(%v) is %v, %v", b, is, ok)
		}
	}
}

func TestFloorCeil(t *testing.T) {
	one := big.NewInt(1)
	for _, x := range numbers() {
		// Euclid's quotient by a denominator, that is above zero, is the floor.
		low := new(big.Int).Div(exact(x).Num(), exact(x).Denom())
		high := low
		if !exact(x).IsInt() {
			high = new(big.Int).Add(low, one)
		}
		if want, _ := rounded(new(big.Rat).SetInt(low)); unlike(num.Floor(x), want) {
			t.Errorf("Floor(%g) is %g, not %g", x, num.Floor(x), want)
		}
		if want, _ := rounded(new(big.Rat).SetInt(high)); unlike(num.Ceil(x), want) {
			t.Errorf("Ceil(%g) is %g, not %g", x, num.Ceil(x), want)
		}
	}
}

func TestFloorCeilOfFractions(t *testing.T) {
	cases := []struct{ x, floor, ceil float64 }{
		{0, 0, 0}, {0.5, 0, 1}, {-0.5, -1, 0}, {tiny, 0, 1}, {-tiny, -1, 0},
		{1.5, 1, 2}, {-1.5, -2, -1}, {2.5, 2, 3}, {-2.5, -3, -2}, {3.999, 3, 4}, {-3.999, -4, -3},
		{1 - 1.0/top, 0, 1}, {1.0/top - 1, -1, 0},
		{4503599627370495.5, 4503599627370495, 4503599627370496},
		{-4503599627370495.5, -4503599627370496, -4503599627370495},
		{top, top, top}, {-top, -top, -top}, {1e300, 1e300, 1e300}, {-1e300, -1e300, -1e300}, {huge, huge, huge},
	}
	for _, c := range cases {
		if unlike(num.Floor(c.x), c.floor) || unlike(num.Ceil(c.x), c.ceil) {
			t.Errorf("%g: Floor %g, Ceil %g, not %g, %g", c.x, num.Floor(c.x), num.Ceil(c.x), c.floor, c.ceil)
		}
	}
}

// P3.5

// restOf is the remainder of b modulo a that the document asks for.
func restOf(a, b int64) int64 {
	if a == 0 {
		return b
	}
	// Euclid's remainder is never below zero.
	x := big.NewInt(a)
	z := new(big.Int).Mod(big.NewInt(b), x)
	if a < 0 && z.Sign() > 0 {
		z.Add(z, x)
	}
	return z.Int64()
}

func TestRestInt(t *testing.T) {
	all := integers()
	for n := range int64(41) {
		all = append(all, n-20)
	}
	for _, a := range all {
		for _, b := range all {
			if got := num.RestInt(a, b); got != restOf(a, b) {
				t.Errorf("RestInt(%d, %d) is %d, not %d", a, b, got, restOf(a, b))
			}
		}
	}
	if got := num.RestInt(-1, math.MinInt64); got != 0 {
		t.Errorf("RestInt of -1 and the least int64 is %d", got)
	}
	if got := num.RestInt(0, math.MinInt64); got != math.MinInt64 {
		t.Errorf("RestInt of 0 and the least int64 is %d", got)
	}
}

func TestRest(t *testing.T) {
	for _, a := range numbers() {
		for _, b := range numbers() {
			m, first := num.Whole(a)
			n, second := num.Whole(b)
			want, wanted := 0.0, api.ErrDomain
			if first && second {
				want, wanted = float64(restOf(m, n)), api.OK
			}
			got, err := num.Rest(a, b)
			check(t, "Rest", a, b, got, err, want, wanted)
		}
	}
}

func TestRestOfOthers(t *testing.T) {
	others := append(strangers(), 0.5, -0.5, 2.5, tiny, top+2, -top-2, 1<<63, -1<<63, 1e300)
	for _, x := range others {
		for _, y := range []float64{0, 1, -3, top, x} {
			got, err := num.Rest(x, y)
			check(t, "Rest", x, y, got, err, 0, api.ErrDomain)
			got, err = num.Rest(y, x)
			check(t, "Rest", y, x, got, err, 0, api.ErrDomain)
		}
	}
	got, err := num.Rest(top, -top)
	check(t, "Rest", top, -top, got, err, 0, api.OK)
	got, err = num.Rest(-top, top-1)
	check(t, "Rest", -top, top-1, got, err, -1, api.OK)
}

// P3.6

// product multiplies as the document says: the factors that the bits of k ask
// for, the lowest one first, each a square of the one before. Each product is
// worked out exactly and then rounded; false, if one is not finite.
func product(a float64, k int) (float64, bool) {
	out, x, finite := 1.0, a, true
	multiply := func(p, q float64) float64 {
		z, err := rounded(new(big.Rat).Mul(exact(p), exact(q)))
		finite = finite && err == api.OK
		return z
	}
	for ; k > 0 && finite; k /= 2 {
		if k%2 == 1 {
			out = multiply(out, x)
		}
		if k > 1 {
			x = multiply(x, x)
		}
	}
	return out, finite
}

// powerOf is what the document asks of Power, for an exponent in its range.
func powerOf(a float64, b int) (float64, api.Errno) {
	out, finite := product(a, max(b, -b))
	if !finite || b < 0 && out == 0 {
		return 0, api.ErrDomain
	}
	if b < 0 {
		return rounded(new(big.Rat).Inv(exact(out)))
	}
	return out, api.OK
}

func TestPower(t *testing.T) {
	bases := append(numbers(), 1.1, -1.1, 1.01, 0.99, 1.7, -1.7, 2.0/3, 1.0000001, 1.9999999, 0.3, -0.9,
		0x1.0f9b64c3330dbp-341, 0x1.deb75eb253d25p-257, 0x1.921a2e3f67cc8p-171) // powers that other ways round otherwise
	exponents := []int{0, 1, 2, 3, 4, 5, 6, 7, 8, 9, 10, 13, 21, 31, 32, 33, 53, 64, 100, 255, 341, 400, 511, 512, 513, 682, 1000, 1021, 1022, 1023}
	for _, a := range bases {
		for _, n := range exponents {
			for _, b := range []int{n, -n} {
				want, wanted := powerOf(a, b)
				got, err := num.Power(a, float64(b))
				check(t, "Power", a, float64(b), got, err, want, wanted)
			}
		}
	}
}

func TestPowerOfAllExponents(t *testing.T) {
	for _, a := range []float64{0, 1, -1, 2, -2, 0.5, 3, 1.37, -0.7} {
		for b := -num.MostPower; b <= num.MostPower; b++ {
			want, wanted := powerOf(a, b)
			got, err := num.Power(a, float64(b))
			check(t, "Power", a, float64(b), got, err, want, wanted)
		}
	}
}

func TestPowerAtTheEdge(t *testing.T) {
	cases := []struct {
		a, b, want float64
		err        api.Errno
	}{
		{1.5, 3, 3.375, api.OK},
		{0, 0, 1, api.OK},
		{-7, 0, 1, api.OK},
		{0, 1, 0, api.OK},
		{0, 1023, 0, api.OK},
		{0, -1, 0, api.ErrDomain},
		{0, -1023, 0, api.ErrDomain},
		{10, 400, 0, api.ErrDomain},
		{10, -400, 0, api.ErrDomain},
		{1e-200, 2, 0, api.OK},
		{1e-200, -2, 0, api.ErrDomain},
		{1e200, -2, 0, api.ErrDomain},
		{tiny, 1, tiny, api.OK},
		{tiny, -1, 0, api.ErrDomain},
		{huge, 1, huge, api.OK},
		{huge, 2, 0, api.ErrDomain},
		{-huge, 3, 0, api.ErrDomain},
		{2, 1023, 0x1p1023, api.OK},
		{-2, 1023, -0x1p1023, api.OK},
		{2, -1023, 0x1p-1023, api.OK},
		{-2, -1023, -0x1p-1023, api.OK},
		{0.5, 1023, 0x1p-1023, api.OK},
		{0.5, -1023, 0x1p1023, api.OK},
		{0.25, -512, 0, api.ErrDomain},
		{4, -512, 0, api.ErrDomain},
		{1, 1023, 1, api.OK},
		{1, -1023, 1, api.OK},
		{-1, -1023, -1, api.OK},
		{1, 1024, 0, api.ErrDomain},
		{1, -1024, 0, api.ErrDomain},
		{0, 1024, 0, api.ErrDomain},
		{1, top, 0, api.ErrDomain},
		{1, -top, 0, api.ErrDomain},
		{1, top + 2, 0, api.ErrDomain},
		{1, 1 << 63, 0, api.ErrDomain},
		{1, -1 << 63, 0, api.ErrDomain},
		{1, 1e300, 0, api.ErrDomain},
		{4, 0.5, 0, api.ErrDomain},
		{1, -0.5, 0, api.ErrDomain},
		{1, 1022.5, 0, api.ErrDomain},
		{1, tiny, 0, api.ErrDomain},
		{2, math.NaN(), 0, api.ErrDomain},
		{2, math.Inf(1), 0, api.ErrDomain},
		{2, math.Inf(-1), 0, api.ErrDomain},
	}
	for _, c := range cases {
		got, err := num.Power(c.a, c.b)
		check(t, "Power", c.a, c.b, got, err, c.want, c.err)
	}
	if num.MostPower != 1023 {
		t.Errorf("MostPower is %d", num.MostPower)
	}
}

// P3.7

func TestIntsEqualFloats(t *testing.T) {
	all := integers()
	for k := range 40 {
		n := int64(1)<<(k+13) - int64(k*k*k)
		all = append(all, n, -n)
	}
	for _, op := range operations() {
		for _, a := range all {
			for _, b := range all {
				n, ok := op.got(a, b)
				if !ok {
					continue
				}
				x, err := op.float(float64(a), float64(b))
				check(t, op.name, float64(a), float64(b), float64(n), api.OK, x, err)
				if m, whole := num.Whole(x); m != n || !whole {
					t.Errorf("%s(%d, %d) is %d, and %g of floats", op.name, a, b, n, x)
				}
			}
		}
	}
}

// No call panics, whatever it is given.

func TestStrangersDoNotPanic(t *testing.T) {
	all := append(strangers(), math.Copysign(0, -1), 0, 1, -1, 2.5, huge, tiny)
	for _, a := range all {
		for _, b := range all {
			num.Add(a, b)
			num.Sub(a, b)
			num.Mul(a, b)
			num.Div(a, b)
			num.Max(a, b)
			num.Min(a, b)
			num.Rest(a, b)
			num.Power(a, b)
		}
		num.Floor(a)
		num.Ceil(a)
		num.Sign(a)
		num.Abs(a)
		num.Truth(a)
	}
}

// The chapter's examples.

func TestExamples(t *testing.T) {
	for _, c := range [][3]int64{{3, 7, 1}, {3, -7, 2}, {-3, 7, -2}, {-3, -7, -1}, {0, 5, 5}, {4, 8, 0}} {
		if got := num.RestInt(c[0], c[1]); got != c[2] {
			t.Errorf("RestInt(%d, %d) is %d", c[0], c[1], got)
		}
		got, err := num.Rest(float64(c[0]), float64(c[1]))
		check(t, "Rest", float64(c[0]), float64(c[1]), got, err, float64(c[2]), api.OK)
	}
	if n, ok := num.Whole(1 << 53); n != 1<<53 || !ok {
		t.Errorf("Whole(2^53) is %d, %v", n, ok)
	}
	got, err := num.Div(0, 0)
	check(t, "Div", 0, 0, got, err, 1, api.OK)
	if unlike(num.Floor(-0.5), -1) || unlike(num.Ceil(-0.5), 0) {
		t.Errorf("-0.5: Floor %g, Ceil %g", num.Floor(-0.5), num.Ceil(-0.5))
	}
}
