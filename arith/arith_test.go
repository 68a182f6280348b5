package arith_test

import (
	"fmt"
	"math"
	"math/big"
	"slices"
	"testing"

	"rebus/api"
	"rebus/arith"
	"rebus/bitvec"
	"rebus/num"
	"rebus/squeeze"
	"rebus/vec"
)

// most is the greatest number of booleans, top the greatest whole number, tiny
// the least number above 0, and huge the greatest one.
const (
	most = 1 << 20
	top  = 1 << 53
	tiny = math.SmallestNonzeroFloat64
	huge = math.MaxFloat64
)

// kinds lists the kinds of numbers, the least one first.
var kinds = []int{api.Bit, api.Small, api.Int, api.Float}

// functions lists all functions.
var functions = []int{arith.Add, arith.Sub, arith.Mul, arith.Div, arith.Max, arith.Min, arith.Rest, arith.Power}

// strange lists numbers that are no function's.
var strange = []int{
	0, -1, -2, -8, 9, 10, 16, 63, 64, 127, 128, 255, 256, 257, 264, 1<<16 + 1, 1<<32 + 1, 1<<32 + 8, 1 << 62,
	math.MaxInt, math.MinInt, math.MinInt + 1, math.MinInt + 8,
}

// edges lists, for each kind, numbers that fit it, but none that is less.
func edges() map[int][]float64 {
	return map[int][]float64{
		api.Bit:   {0, 1},
		api.Small: {-1, 2, -2, 3, -3, 7, -7, 10, 63, 64, -64, 126, 127, -127, -128},
		api.Int: {
			128, -129, 255, 256, -300, 1022, 1023, 1024, -1023, -1024, 94906265, 94906266, -94906266, 1 << 26, 1 << 27,
			1<<31 - 1, -1 << 31, 1 << 32, 1<<32 + 1, top/2 - 1, top / 2, top/2 + 1, -top / 2, top, top - 1, -top, 1 - top,
		},
		api.Float: {
			tiny, -tiny, 2 * tiny, math.Nextafter(1, 0), math.Nextafter(1, 2), -math.Nextafter(1, 0),
			0.5, -0.5, 0.25, 0.75, 1.5, -1.5, 2.5, 0.1, -0.1, 1.0 / 3, 1023.5, 127.5, -128.5, 0x1p51 + 0.5, 0x1p52 - 0.5,
			top + 2, -top - 2, top + 4, 1 << 54, 1 << 62, 1 << 63, -1 << 63, 1 << 64, 1e100, -1e100, 1e154, 1.4e154, 1e300,
			0x1p-1022, 0x1p-1022 - tiny, 0x1p-1024, -0x1p-1023, 0x1p969, 0x1p970, 0x1p1022, 0x1p1023, -0x1p1023, huge / 2, huge, -huge,
			1e-9, 1e-162, -1e-200, 1e-300, 1e-320, math.Pi,
		},
	}
}

// numbers lists all edges.
func numbers() []float64 {
	var l []float64
	for _, kind := range kinds {
		l = append(l, edges()[kind]...)
	}
	return l
}

// strangers lists what is no number.
func strangers() []float64 {
	return []float64{
		math.Inf(1), math.Inf(-1), math.NaN(), math.Float64frombits(0x7ff0000000000001),
		math.Float64frombits(0xffffffffffffffff), math.Copysign(0, -1),
	}
}

// alike tells whether two float64s are the same, in the sign of a zero too.
func alike(x, y float64) bool { return math.Float64bits(x) == math.Float64bits(y) }

// question is what One is asked, and answer what it must tell.
type question struct {
	f    int
	a, b uint64
}

type answer struct {
	x   float64
	err api.Errno
}

// known keeps answers: the model is slow.
var known = map[question]answer{}

// model is what a function must tell of two numbers, worked out by fractions.
func model(f int, a, b float64) (float64, api.Errno) {
	q := question{f, math.Float64bits(a), math.Float64bits(b)}
	z, ok := known[q]
	if !ok {
		z.x, z.err = workedOut(f, a, b)
		known[q] = z
	}
	return z.x, z.err
}

// exact is a number as a fraction.
func exact(x float64) *big.Rat { return new(big.Rat).SetFloat64(x) }

// rounded is a fraction as a number, a zero without a sign; ErrDomain, if it is
// not finite.
func rounded(x *big.Rat) (float64, api.Errno) {
	z, _ := x.Float64()
	if math.IsInf(z, 0) {
		return 0, api.ErrDomain
	}
	return z + 0, api.OK
}

// workedOut is model, worked out anew.
func workedOut(f int, a, b float64) (float64, api.Errno) {
	x, y, z := exact(a), exact(b), new(big.Rat)
	switch f {
	case arith.Add:
		return rounded(z.Add(x, y))
	case arith.Sub:
		return rounded(z.Sub(x, y))
	case arith.Mul:
		return rounded(z.Mul(x, y))
	case arith.Div:
		if y.Sign() != 0 {
			return rounded(z.Quo(x, y))
		}
		if x.Sign() == 0 {
			return 1, api.OK
		}
		return 0, api.ErrDomain
	case arith.Max, arith.Min:
		if (x.Cmp(y) < 0) == (f == arith.Max) {
			return b, api.OK
		}
		return a, api.OK
	case arith.Rest:
		return remainder(x, y)
	case arith.Power:
		return power(a, y)
	}
	return 0, api.ErrArg
}

// whole tells whether a fraction is an integer of at most a size.
func whole(x *big.Rat, size int64) bool {
	return x.IsInt() && x.Num().CmpAbs(big.NewInt(size)) <= 0
}

// remainder is what is left of b without the greatest multiple of a, where the
// quotient is rounded down.
func remainder(a, b *big.Rat) (float64, api.Errno) {
	if !whole(a, top) || !whole(b, top) {
		return 0, api.ErrDomain
	}
	if a.Sign() == 0 {
		return rounded(b)
	}
	q := new(big.Rat).Quo(b, a)
	// Euclid's quotient by a denominator, that is above zero, is the floor.
	low := new(big.Rat).SetInt(new(big.Int).Div(q.Num(), q.Denom()))
	return rounded(low.Sub(b, low.Mul(low, a)))
}

// power goes by the chapter's steps, each of them rounded.
func power(a float64, b *big.Rat) (float64, api.Errno) {
	if !whole(b, 1023) {
		return 0, api.ErrDomain
	}
	out, x := 1.0, a
	for k := new(big.Int).Abs(b.Num()).Int64(); k > 0; k /= 2 {
		if k%2 != 0 {
			out = product(out, x)
		}
		if k > 1 {
			x = product(x, x)
		}
	}
	if math.IsInf(out, 0) {
		return 0, api.ErrDomain
	}
	if b.Sign() >= 0 {
		return out + 0, api.OK
	}
	if out == 0 {
		return 0, api.ErrDomain
	}
	return rounded(new(big.Rat).Inv(exact(out)))
}

// product is a rounded product; it is infinite, if a factor is.
func product(x, y float64) float64 {
	if math.IsInf(x, 0) || math.IsInf(y, 0) {
		return math.Inf(1)
	}
	z, _ := new(big.Rat).Mul(exact(x), exact(y)).Float64()
	return z
}

// of is the element i of a list, or its only one.
func of(l []float64, i int) float64 { return l[i%max(len(l), 1)] }

// models is what Apply must tell of two lists whose lengths go together.
func models(f int, a, b []float64) ([]float64, api.Errno) {
	n := max(len(a), len(b))
	if len(a) == 0 || len(b) == 0 {
		n = 0
	}
	z := make([]float64, n)
	for i := range z {
		x, err := model(f, of(a, i), of(b, i))
		if err != api.OK {
			return nil, err
		}
		z[i] = x
	}
	return z, api.OK
}

// least tells the least kind that numbers fit.
func least(l []float64) int {
	kind := api.Bit
	for _, x := range l {
		switch {
		case x != math.Trunc(x) || math.Abs(x) > top:
			return api.Float
		case x < -128 || x > 127:
			kind = max(kind, api.Int)
		case x != 0 && x != 1 || len(l) > most:
			kind = max(kind, api.Small)
		}
	}
	return kind
}

// made makes a vector of a kind that numbers fit.
func made(t *testing.T, l []float64, kind int) vec.Vec {
	t.Helper()
	ok := true
	var v vec.Vec
	switch kind {
	case api.Bit:
		v = vec.Bits(bitvec.Pack(list(len(l), func(i int) bool { return l[i] == 1 })))
	case api.Small:
		v = vec.Smalls(list(len(l), func(i int) int8 { return int8(l[i]) }))
	case api.Int:
		v, ok = vec.Ints(list(len(l), func(i int) int64 { return int64(l[i]) }))
	default:
		v, ok = vec.Floats(l)
	}
	if !ok || v.Kind() != kind || !slices.EqualFunc(v.Nums(), l, alike) {
		t.Fatalf("the test can't make kind %d of %g", kind, l)
	}
	return v
}

// list makes n elements by a rule.
func list[T any](n int, rule func(i int) T) []T {
	l := make([]T, n)
	for i := range l {
		l[i] = rule(i)
	}
	return l
}

// told tells a vector, for a report.
func told(v vec.Vec) string {
	if v.Len() > 12 {
		return fmt.Sprintf("%d elements of kind %d", v.Len(), v.Kind())
	}
	if v.Class() != api.Number {
		return fmt.Sprintf("%v of kind %d", v, v.Kind())
	}
	return fmt.Sprintf("%g of kind %d", v.Nums(), v.Kind())
}

// name tells a function and what it is done to, for a report.
func name(f int, a, b vec.Vec) string {
	return fmt.Sprintf("function %d of %s and %s", f, told(a), told(b))
}

// wanted holds a result of Apply against numbers, which must be of the least kind.
func wanted(t *testing.T, f int, a, b, v vec.Vec, err api.Errno, want []float64) {
	t.Helper()
	if err != api.OK {
		t.Errorf("%s is error %d", name(f, a, b), err)
		return
	}
	got := v.Nums()
	if v.Class() != api.Number || v.Len() != len(want) || len(got) != len(want) {
		t.Errorf("%s has %d elements of class %d, not %d", name(f, a, b), v.Len(), v.Class(), len(want))
		return
	}
	for i, x := range want {
		if !alike(got[i], x) || !alike(v.Num(i), x) {
			t.Errorf("%s has %g (%g) at %d, not %g", name(f, a, b), v.Num(i), got[i], i, x)
			return
		}
	}
	if v.Kind() != least(want) || !squeeze.Tight(v) {
		t.Errorf("%s is of kind %d, not %d", name(f, a, b), v.Kind(), least(want))
	}
	if p, ok := v.Packed(); ok != (least(want) == api.Bit) || !p.Tidy() {
		t.Errorf("%s is not tidy, or not packed", name(f, a, b))
	}
}

// refused checks an error of Apply, and that there is nothing beside it.
func refused(t *testing.T, f int, a, b, v vec.Vec, err, want api.Errno) {
	t.Helper()
	if err != want || v.Kind() != 0 || v.Class() != api.Number || v.Len() != 0 {
		t.Errorf("%s is error %d with %d elements of kind %d, not error %d alone", name(f, a, b), err, v.Len(), v.Kind(), want)
	}
}

// held holds Apply of two vectors against what is wanted.
func held(t *testing.T, f int, a, b vec.Vec, want []float64, wantedErr api.Errno) {
	t.Helper()
	v, err := arith.Apply(f, a, b)
	if wantedErr != api.OK {
		refused(t, f, a, b, v, err, wantedErr)
	} else {
		wanted(t, f, a, b, v, err, want)
	}
}

// applied checks what Apply tells of two lists of numbers, in each pair of kinds
// that hold them, and that it leaves them.
func applied(t *testing.T, f int, l, m []float64) {
	t.Helper()
	want, wantedErr := models(f, l, m)
	for first := least(l); first <= api.Float; first++ {
		for second := least(m); second <= api.Float; second++ {
			a, b := made(t, l, first), made(t, m, second)
			held(t, f, a, b, want, wantedErr)
			if a.Kind() != first || b.Kind() != second || !slices.EqualFunc(a.Nums(), l, alike) || !slices.EqualFunc(b.Nums(), m, alike) {
				t.Errorf("%g and %g became %s and %s", l, m, told(a), told(b))
			}
		}
	}
}

// steps lists n of the numbers of a list, the same ones each time.
func steps(l []float64, n, seed int) []float64 {
	x := uint32(seed)
	return list(n, func(int) float64 {
		x = x*1664525 + 1013904223
		return l[int(x>>8)%len(l)]
	})
}

// fine makes two lists of those pairs of numbers that a function has a result
// for.
func fine(f int, l, m []float64) ([]float64, []float64) {
	var a, b []float64
	for i := range max(len(l), len(m)) {
		if _, err := model(f, of(l, i), of(m, i)); err == api.OK {
			a, b = append(a, of(l, i)), append(b, of(m, i))
		}
	}
	return a, b
}

// The functions have the numbers of the chapter.
func TestNumbersOfTheFunctions(t *testing.T) {
	for i, f := range functions {
		if f != i+1 {
			t.Errorf("function %d has the number %d", i+1, f)
		}
	}
}

// P10.1

// one holds what One tells against what is wanted.
func one(t *testing.T, f int, a, b, want float64, wantedErr api.Errno) {
	t.Helper()
	if got, err := arith.One(f, a, b); !alike(got, want) || err != wantedErr {
		t.Errorf("One(%d, %g, %g) is %g, %d, not %g, %d", f, a, b, got, err, want, wantedErr)
	}
}

func TestOne(t *testing.T) {
	for _, f := range functions {
		for _, a := range numbers() {
			for _, b := range numbers() {
				want, err := model(f, a, b)
				one(t, f, a, b, want, err)
			}
		}
	}
}

func TestOneOfMany(t *testing.T) {
	x := uint64(10)
	next := func() uint64 {
		x = x*6364136223846793005 + 1442695040888963407
		return x >> 11
	}
	for i := range 4000 {
		scale := int(next()%120) - 60
		a, b := math.Ldexp(float64(next()), scale-53), math.Ldexp(float64(next()), -53)
		if i%3 == 0 {
			a, b = math.Trunc(a), float64(next()%2047)-1023
		}
		if i%2 == 0 {
			a = -a + 0
		}
		for _, f := range functions {
			want, err := workedOut(f, a, b)
			one(t, f, a, b, want, err)
		}
	}
}

// One tells what the functions of chapter 3 tell.
func TestOneIsOfNum(t *testing.T) {
	safe := func(op func(a, b float64) float64) func(a, b float64) (float64, api.Errno) {
		return func(a, b float64) (float64, api.Errno) { return op(a, b), api.OK }
	}
	ops := map[int]func(a, b float64) (float64, api.Errno){
		arith.Add: num.Add, arith.Sub: num.Sub, arith.Mul: num.Mul, arith.Div: num.Div,
		arith.Max: safe(num.Max), arith.Min: safe(num.Min), arith.Rest: num.Rest, arith.Power: num.Power,
	}
	for f, op := range ops {
		for _, a := range numbers() {
			for _, b := range numbers() {
				want, err := op(a, b)
				one(t, f, a, b, want, err)
			}
		}
	}
}

func TestOneWithResults(t *testing.T) {
	cases := []struct {
		f          int
		a, b, want float64
	}{
		{arith.Add, 1, 2, 3}, {arith.Add, -3, 3, 0}, {arith.Add, 0, 0, 0}, {arith.Add, 0.1, 0.2, 0.30000000000000004}, {arith.Add, top, 1, top},
		{arith.Add, top - 1, 1, top}, {arith.Add, top, top, 1 << 54}, {arith.Add, huge, 0x1p969, huge}, {arith.Add, huge, -huge, 0},
		{arith.Sub, 5, 3, 2}, {arith.Sub, 3, 5, -2}, {arith.Sub, 3, 3, 0}, {arith.Sub, 0, 0, 0}, {arith.Sub, -top, 1, -top}, {arith.Sub, -top, 2, -top - 2},
		{arith.Mul, 6, 7, 42}, {arith.Mul, 0, -3, 0}, {arith.Mul, -3, 0, 0}, {arith.Mul, -tiny, 0.5, 0}, {arith.Mul, 1 << 26, 1 << 27, top}, {arith.Mul, 94906266, 94906266, 9007199326062756},
		{arith.Div, 1, 4, 0.25}, {arith.Div, 4, 1, 4}, {arith.Div, 0, 0, 1}, {arith.Div, 0, -3, 0}, {arith.Div, tiny, -2, 0}, {arith.Div, 1, 3, 1.0 / 3}, {arith.Div, -6, 3, -2},
		{arith.Max, 1, 3, 3}, {arith.Max, 3, 1, 3}, {arith.Max, -0.5, -1, -0.5}, {arith.Max, huge, -huge, huge}, {arith.Max, 0, tiny, tiny}, {arith.Max, 0, -tiny, 0},
		{arith.Min, 1, 3, 1}, {arith.Min, 3, 1, 1}, {arith.Min, -0.5, -1, -1}, {arith.Min, huge, -huge, -huge}, {arith.Min, 0, tiny, 0}, {arith.Min, 0, -tiny, -tiny},
		{arith.Rest, 3, 7, 1}, {arith.Rest, 7, 3, 3}, {arith.Rest, 3, -7, 2}, {arith.Rest, -3, 7, -2}, {arith.Rest, -3, -7, -1}, {arith.Rest, 0, 5, 5}, {arith.Rest, 0, -5, -5},
		{arith.Rest, 0, 0, 0}, {arith.Rest, 4, 8, 0}, {arith.Rest, -4, 8, 0}, {arith.Rest, 4, -8, 0}, {arith.Rest, top, -1, top - 1}, {arith.Rest, -top, 1, 1 - top}, {arith.Rest, 1, top, 0},
		{arith.Power, 2, 10, 1024}, {arith.Power, 10, 2, 100}, {arith.Power, 0, 0, 1}, {arith.Power, 0, 5, 0}, {arith.Power, 5, 0, 1}, {arith.Power, 2, -2, 0.25}, {arith.Power, -2, 3, -8},
		{arith.Power, -2, -3, -0.125}, {arith.Power, 2, 1023, 0x1p1023}, {arith.Power, 2, -1023, 0x1p-1023}, {arith.Power, -1, 1023, -1}, {arith.Power, -1, -1022, 1}, {arith.Power, -1e-200, 3, 0},
		{arith.Power, 1.5, 3, 3.375}, {arith.Power, 0.5, 1023, 0x1p-1023},
	}
	for _, c := range cases {
		one(t, c.f, c.a, c.b, c.want, api.OK)
	}
}

func TestOneWithoutResults(t *testing.T) {
	cases := []struct {
		f    int
		a, b float64
	}{
		{arith.Add, huge, huge}, {arith.Add, huge, 0x1p970}, {arith.Add, -huge, -huge}, {arith.Sub, huge, -huge}, {arith.Sub, -huge, 0x1p970},
		{arith.Mul, 1e200, 1e200}, {arith.Mul, -1e200, 1e200}, {arith.Mul, 0x1p1023, 2}, {arith.Mul, huge, math.Nextafter(1, 2)},
		{arith.Div, 1, 0}, {arith.Div, -1, 0}, {arith.Div, tiny, 0}, {arith.Div, huge, 0}, {arith.Div, 1, tiny}, {arith.Div, -1, tiny}, {arith.Div, 1e200, 1e-200}, {arith.Div, huge, 0.5},
		{arith.Rest, 0.5, 1}, {arith.Rest, 1, 0.5}, {arith.Rest, 0, 0.5}, {arith.Rest, 0.5, 0}, {arith.Rest, top + 2, 1}, {arith.Rest, 1, top + 2}, {arith.Rest, 0, -top - 2}, {arith.Rest, tiny, tiny},
		{arith.Power, 2, 1024}, {arith.Power, 2, -1024}, {arith.Power, 1, 1024}, {arith.Power, 0, 1024}, {arith.Power, 1, -1024}, {arith.Power, 2, 0.5}, {arith.Power, 1, 0.5}, {arith.Power, 0, 0.5},
		{arith.Power, 0, -1}, {arith.Power, 0, -1023}, {arith.Power, 10, 400}, {arith.Power, 10, -400}, {arith.Power, -10, 401}, {arith.Power, 1e-200, -2}, {arith.Power, tiny, -1}, {arith.Power, 0x1p-1022, -1023},
		{arith.Power, 1, tiny}, {arith.Power, 1, top}, {arith.Power, 1, -huge}, {arith.Power, 1, 1 << 32}, {arith.Power, 1, 1<<32 + 1},
	}
	for _, c := range cases {
		one(t, c.f, c.a, c.b, 0, api.ErrDomain)
	}
}

// Where there is no such function, the numbers do not matter.
func TestOneOfNoFunction(t *testing.T) {
	all := append([]float64{0, 1, -1, 2, 0.5, 300, top, top + 2, tiny, huge, -huge}, strangers()...)
	for _, f := range strange {
		for _, a := range all {
			for _, b := range all {
				one(t, f, a, b, 0, api.ErrArg)
			}
		}
	}
}

// The chapter speaks of numbers alone; a call ends all the same.
func TestOneOfWhatIsNoNumber(t *testing.T) {
	for _, f := range functions {
		for _, a := range strangers() {
			for _, b := range append(strangers(), 0, 1, -3, 0.5, huge) {
				for _, pair := range [][2]float64{{a, b}, {b, a}} {
					if _, err := arith.One(f, pair[0], pair[1]); err != api.OK && err != api.ErrDomain {
						t.Errorf("One(%d, %g, %g) is error %d", f, pair[0], pair[1], err)
					}
				}
			}
		}
	}
}

func TestLength(t *testing.T) {
	all := []int{0, 1, 2, 3, 4, 5, 63, 64, 65, 255, 256, 257, most - 1, most, most + 1, 1 << 32, 1<<32 + 1, math.MaxInt - 1, math.MaxInt}
	for _, m := range all {
		for _, n := range all {
			want, wantedOk := 0, false
			if m == n || n == 1 {
				want, wantedOk = m, true
			} else if m == 1 {
				want, wantedOk = n, true
			}
			if got, ok := arith.Length(m, n); got != want || ok != wantedOk {
				t.Errorf("Length(%d, %d) is %d, %v, not %d, %v", m, n, got, ok, want, wantedOk)
			}
		}
	}
}

func TestLengthOfSome(t *testing.T) {
	cases := []struct {
		m, n, want int
		ok         bool
	}{
		{0, 0, 0, true}, {0, 1, 0, true}, {1, 0, 0, true}, {1, 1, 1, true}, {1, 7, 7, true}, {7, 1, 7, true}, {7, 7, 7, true},
		{0, 2, 0, false}, {2, 0, 0, false}, {2, 3, 0, false}, {3, 2, 0, false}, {2, 4, 0, false}, {most, most, most, true}, {most, most + 1, 0, false},
		// No list has such a length; the promise's words hold for them too.
		{-1, -1, -1, true}, {-1, 1, -1, true}, {1, -1, -1, true}, {-1, 0, 0, false}, {0, -1, 0, false}, {-1, -2, 0, false},
		{math.MinInt, 1, math.MinInt, true}, {math.MinInt, math.MaxInt, 0, false}, {math.MinInt, 0, 0, false},
	}
	for _, c := range cases {
		if got, ok := arith.Length(c.m, c.n); got != c.want || ok != c.ok {
			t.Errorf("Length(%d, %d) is %d, %v, not %d, %v", c.m, c.n, got, ok, c.want, c.ok)
		}
	}
}

// P10.2

// Each number with each other one, alone: as it is in each kind that holds it.
func TestApplyOfPairs(t *testing.T) {
	for _, f := range functions {
		for _, a := range numbers() {
			for _, b := range numbers() {
				applied(t, f, []float64{a}, []float64{b})
			}
		}
	}
}

// lists makes lists of n numbers for each least kind, and for those of all kinds.
func lists(n, seed int) [][]float64 {
	all := edges()
	near := []float64{-5, 0, 1, 2, 3, 100, -100}
	ints := slices.Concat(all[api.Bit], all[api.Small], all[api.Int])
	return [][]float64{
		steps(all[api.Bit], n, seed), steps(all[api.Small], n, seed+1), steps(near, n, seed+2), steps(ints, n, seed+3),
		steps(all[api.Float], n, seed+4), steps(numbers(), n, seed+5),
		make([]float64, n), slices.Repeat([]float64{1}, n), steps([]float64{top, top - 1, -top, 1 - top, 0, 1, -1}, n, seed+6),
	}
}

func TestApply(t *testing.T) {
	for _, n := range []int{1, 2, 3, 5, 8, 64, 65} {
		for _, a := range lists(n, n) {
			for _, b := range lists(n, 100+n) {
				for _, f := range functions {
					applied(t, f, a, b)
				}
			}
		}
	}
}

// Pairs that a function has a result for, as each of them is told.
func TestApplyOfFinePairs(t *testing.T) {
	for seed, n := range []int{1, 2, 3, 4, 7, 30, 130} {
		for _, l := range lists(n, 7*seed) {
			for _, m := range lists(n, 7*seed+300) {
				for _, f := range functions {
					a, b := fine(f, l, m)
					applied(t, f, a, b)
				}
			}
		}
	}
}

// One element goes with each of the others, on both sides.
func TestApplyOfOneAndMany(t *testing.T) {
	for _, f := range functions {
		for _, x := range numbers() {
			for _, kind := range kinds {
				l := append(slices.Clone(edges()[kind]), 0, 1)
				applied(t, f, []float64{x}, l)
				applied(t, f, l, []float64{x})
				_, m := fine(f, []float64{x}, l)
				applied(t, f, []float64{x}, m)
				m, _ = fine(f, l, []float64{x})
				applied(t, f, m, []float64{x})
			}
		}
	}
}

// What stands left and what stands right are told apart.
func TestSides(t *testing.T) {
	cases := []struct {
		f          int
		a, b, want []float64
	}{
		{arith.Sub, []float64{5}, []float64{1, 2, 3}, []float64{4, 3, 2}},
		{arith.Sub, []float64{1, 2, 3}, []float64{5}, []float64{-4, -3, -2}},
		{arith.Sub, []float64{1, 2, 3}, []float64{30, 20, 10}, []float64{-29, -18, -7}},
		{arith.Sub, []float64{0.5}, []float64{1, 2, 3}, []float64{-0.5, -1.5, -2.5}},
		{arith.Sub, []float64{1, 2, 3}, []float64{0.5}, []float64{0.5, 1.5, 2.5}},
		{arith.Div, []float64{6}, []float64{1, 2, 3}, []float64{6, 3, 2}},
		{arith.Div, []float64{6, 4, 2}, []float64{2}, []float64{3, 2, 1}},
		{arith.Rest, []float64{3}, []float64{-1, 7}, []float64{2, 1}},
		{arith.Rest, []float64{3, 5, 0}, []float64{7}, []float64{1, 2, 7}},
		{arith.Power, []float64{2}, []float64{0, 1, 2, 3}, []float64{1, 2, 4, 8}},
		{arith.Power, []float64{0, 1, 2, 3}, []float64{2}, []float64{0, 1, 4, 9}},
	}
	for _, c := range cases {
		for first := least(c.a); first <= api.Float; first++ {
			for second := least(c.b); second <= api.Float; second++ {
				held(t, c.f, made(t, c.a, first), made(t, c.b, second), c.want, api.OK)
			}
		}
	}
}

// No elements go with none and with one, whatever it is.
func TestApplyOfNoElements(t *testing.T) {
	for _, f := range functions {
		applied(t, f, nil, nil)
		for _, x := range numbers() {
			applied(t, f, nil, []float64{x})
			applied(t, f, []float64{x}, nil)
		}
	}
}

// The chapter speaks of vectors that have a kind; a call ends all the same.
func TestApplyOfTheZeroValue(t *testing.T) {
	var none vec.Vec
	for _, f := range functions {
		held(t, f, none, none, nil, api.OK)
		for _, kind := range kinds {
			held(t, f, none, made(t, nil, kind), nil, api.OK)
			held(t, f, made(t, nil, kind), none, nil, api.OK)
			held(t, f, none, made(t, []float64{1}, kind), nil, api.OK)
			held(t, f, made(t, []float64{0}, kind), none, nil, api.OK)
			held(t, f, none, made(t, []float64{1, 0}, kind), nil, api.ErrLength)
			held(t, f, made(t, []float64{1, 0}, kind), none, nil, api.ErrLength)
		}
		held(t, f, none, vec.Chars(nil), nil, api.ErrDomain)
		held(t, f, vec.Boxes(nil), none, nil, api.ErrDomain)
	}
}

// Whole numbers whose result comes to just 2^53, and to more: alone, and ahead
// of, behind and between others.
func TestWholeResultsAtTheEdge(t *testing.T) {
	cases := []struct {
		f          int
		a, b, want float64
		kind       int
	}{
		{arith.Add, top - 1, 1, top, api.Int}, {arith.Add, 1 - top, -1, -top, api.Int}, {arith.Add, top, 0, top, api.Int}, {arith.Add, top, 1, top, api.Int}, {arith.Add, top, 2, top + 2, api.Float},
		{arith.Add, -top, -1, -top, api.Int}, {arith.Add, -top, -2, -top - 2, api.Float}, {arith.Add, top, 3, top + 4, api.Float}, {arith.Add, top - 1, 2, top, api.Int}, {arith.Add, top - 1, 3, top + 2, api.Float},
		{arith.Add, top, top, 1 << 54, api.Float}, {arith.Add, -top, -top, -1 << 54, api.Float}, {arith.Add, top, -top, 0, api.Bit}, {arith.Add, top / 2, top / 2, top, api.Int},
		{arith.Sub, top - 1, -1, top, api.Int}, {arith.Sub, 1 - top, 1, -top, api.Int}, {arith.Sub, top, -1, top, api.Int}, {arith.Sub, top, -2, top + 2, api.Float}, {arith.Sub, -top, 1, -top, api.Int},
		{arith.Sub, -top, 3, -top - 4, api.Float}, {arith.Sub, top, -top, 1 << 54, api.Float}, {arith.Sub, -top, -top, 0, api.Bit}, {arith.Sub, top, top - 1, 1, api.Bit},
		{arith.Mul, 1 << 26, 1 << 27, top, api.Int}, {arith.Mul, -1 << 26, 1 << 27, -top, api.Int}, {arith.Mul, -1 << 26, -1 << 27, top, api.Int}, {arith.Mul, 94906265, 94906265, 9007199136250225, api.Int},
		{arith.Mul, 94906266, 94906266, 9007199326062756, api.Float}, {arith.Mul, 1 << 27, 1 << 27, 1 << 54, api.Float}, {arith.Mul, 1 << 32, 1 << 32, 1 << 64, api.Float}, {arith.Mul, top, -1, -top, api.Int},
		{arith.Mul, top, top, 1 << 106, api.Float}, {arith.Mul, top, 0, 0, api.Bit}, {arith.Mul, 441650591, 20394401, top - 1, api.Int}, {arith.Mul, 321, 28059810762433, top, api.Int}, {arith.Mul, 3, 3002399751580331, top, api.Int},
		{arith.Max, top, -top, top, api.Int}, {arith.Min, top, -top, -top, api.Int}, {arith.Rest, top, -1, top - 1, api.Int}, {arith.Rest, -top, top, 0, api.Bit}, {arith.Rest, 0, -top, -top, api.Int},
		{arith.Power, 2, 53, top, api.Int}, {arith.Power, 2, 54, 1 << 54, api.Float}, {arith.Power, -2, 53, -top, api.Int}, {arith.Power, top, 1, top, api.Int}, {arith.Div, top, 1, top, api.Int}, {arith.Div, top, top, 1, api.Bit},
		{arith.Div, top, 0.5, 1 << 54, api.Float}, {arith.Add, top + 2, -2, top, api.Int}, {arith.Mul, 1 << 54, 0.5, top, api.Int}, {arith.Sub, 1 << 54, top, top, api.Int},
	}
	for _, c := range cases {
		a, b := []float64{c.a}, []float64{c.b}
		want, err := models(c.f, a, b)
		if err != api.OK || !alike(want[0], c.want) || least(want) != c.kind {
			t.Fatalf("the model of %d(%g, %g) is %g, %d", c.f, c.a, c.b, want, err)
		}
		applied(t, c.f, a, b)
		x, y := []float64{3, 1, 2}, []float64{2, 1, 3}
		applied(t, c.f, slices.Concat(a, x), slices.Concat(b, y))
		applied(t, c.f, slices.Concat(x, a), slices.Concat(y, b))
		applied(t, c.f, slices.Concat(x, a, y), slices.Concat(y, b, x))
		applied(t, c.f, a, slices.Concat(b, []float64{1}, b))
		applied(t, c.f, slices.Concat(a, []float64{1}, a), b)
	}
}

// The least kind of the result does not hang on that of the arguments.
func TestResultsAreSqueezed(t *testing.T) {
	cases := []struct {
		f    int
		a, b []float64
		kind int
	}{
		{arith.Add, []float64{1, 0}, []float64{0, 0}, api.Bit}, {arith.Add, []float64{1, 0}, []float64{1, 0}, api.Small}, {arith.Add, []float64{300, -1}, []float64{-299, 2}, api.Bit},
		{arith.Add, []float64{0.5, 1.5}, []float64{0.5}, api.Small}, {arith.Add, []float64{0.5, -0.5}, []float64{0.5}, api.Bit}, {arith.Add, []float64{126}, []float64{1}, api.Small},
		{arith.Add, []float64{127}, []float64{1}, api.Int}, {arith.Add, []float64{127}, []float64{127}, api.Int}, {arith.Add, []float64{-128}, []float64{-128}, api.Int}, {arith.Add, []float64{1}, []float64{0.5}, api.Float},
		{arith.Sub, []float64{1, 1}, []float64{1, 0}, api.Bit}, {arith.Sub, []float64{0}, []float64{1}, api.Small}, {arith.Sub, []float64{-127}, []float64{1}, api.Small}, {arith.Sub, []float64{-128}, []float64{1}, api.Int},
		{arith.Sub, []float64{0}, []float64{-128}, api.Int}, {arith.Sub, []float64{top}, []float64{top - 1}, api.Bit}, {arith.Sub, []float64{2.5}, []float64{0.5}, api.Small}, {arith.Sub, []float64{0.5}, []float64{0.25}, api.Float},
		{arith.Mul, []float64{1, 0}, []float64{1, 1}, api.Bit}, {arith.Mul, []float64{-1}, []float64{-1}, api.Bit}, {arith.Mul, []float64{-1}, []float64{-128}, api.Int}, {arith.Mul, []float64{11}, []float64{11}, api.Small},
		{arith.Mul, []float64{12}, []float64{11}, api.Int}, {arith.Mul, []float64{0.5}, []float64{2}, api.Bit}, {arith.Mul, []float64{16}, []float64{-8}, api.Small}, {arith.Mul, []float64{huge, 300}, []float64{0}, api.Bit},
		{arith.Div, []float64{1, 0}, []float64{1}, api.Bit}, {arith.Div, []float64{0}, []float64{0}, api.Bit}, {arith.Div, []float64{300}, []float64{300}, api.Bit}, {arith.Div, []float64{6}, []float64{-3}, api.Small},
		{arith.Div, []float64{1}, []float64{2}, api.Float}, {arith.Div, []float64{1}, []float64{0.0078125}, api.Int}, {arith.Div, []float64{1e300}, []float64{1e300}, api.Bit}, {arith.Div, []float64{127}, []float64{-1}, api.Small},
		{arith.Max, []float64{1, 0}, []float64{0, 1}, api.Bit}, {arith.Max, []float64{-300, -0.5}, []float64{0, 1}, api.Bit}, {arith.Max, []float64{-5}, []float64{-200}, api.Small}, {arith.Max, []float64{300}, []float64{0.5}, api.Int},
		{arith.Min, []float64{1, 0}, []float64{0, 1}, api.Bit}, {arith.Min, []float64{300, 0.5}, []float64{1, 0}, api.Bit}, {arith.Min, []float64{127}, []float64{128}, api.Small}, {arith.Min, []float64{0.5}, []float64{1}, api.Float},
		{arith.Rest, []float64{2, 2}, []float64{300, 301}, api.Bit}, {arith.Rest, []float64{1}, []float64{top}, api.Bit}, {arith.Rest, []float64{-2}, []float64{1}, api.Small}, {arith.Rest, []float64{1000}, []float64{-1}, api.Int},
		{arith.Rest, []float64{128}, []float64{-1}, api.Small}, {arith.Rest, []float64{129}, []float64{-1}, api.Int}, {arith.Rest, []float64{0}, []float64{-128}, api.Small}, {arith.Rest, []float64{0, 0}, []float64{1, 0}, api.Bit},
		{arith.Power, []float64{1, 0}, []float64{0, 1}, api.Bit}, {arith.Power, []float64{300}, []float64{0}, api.Bit}, {arith.Power, []float64{-1}, []float64{3}, api.Small}, {arith.Power, []float64{2}, []float64{7}, api.Int},
		{arith.Power, []float64{-2}, []float64{7}, api.Small}, {arith.Power, []float64{2}, []float64{-1}, api.Float}, {arith.Power, []float64{0.5}, []float64{-1}, api.Small}, {arith.Power, []float64{10}, []float64{300}, api.Float},
	}
	for _, c := range cases {
		for first := least(c.a); first <= api.Float; first++ {
			for second := least(c.b); second <= api.Float; second++ {
				a, b := made(t, c.a, first), made(t, c.b, second)
				if z, err := arith.Apply(c.f, a, b); err != api.OK || z.Kind() != c.kind {
					t.Errorf("%s is of kind %d, %d, not of kind %d", name(c.f, a, b), z.Kind(), err, c.kind)
				}
			}
		}
	}
}

// One pair without a result is enough, wherever it is, and leaves nothing of the
// results of the others.
func TestApplyToOnePairWithoutResult(t *testing.T) {
	wrong := []struct {
		f    int
		a, b float64
	}{
		{arith.Add, huge, huge}, {arith.Sub, -huge, huge}, {arith.Mul, 1e200, 1e200}, {arith.Div, 1, 0}, {arith.Div, 300, 0}, {arith.Div, 0.5, 0}, {arith.Div, 1, tiny},
		{arith.Rest, 0.5, 1}, {arith.Rest, 1, 0.5}, {arith.Rest, 1, top + 2}, {arith.Power, 0, -1}, {arith.Power, 1, 1024}, {arith.Power, 2, 0.5}, {arith.Power, 10, 400}, {arith.Power, 1, -1024},
	}
	for _, c := range wrong {
		for _, n := range []int{1, 2, 3, 65} {
			for at := range n {
				for _, x := range []float64{1, 2, -3} {
					a, b := slices.Repeat([]float64{x}, n), slices.Repeat([]float64{1}, n)
					a[at], b[at] = c.a, c.b
					want, err := models(c.f, a, b)
					if want != nil || err != api.ErrDomain {
						t.Fatalf("the model of %d(%g, %g) has results", c.f, a, b)
					}
					held(t, c.f, made(t, a, least(a)), made(t, b, least(b)), nil, api.ErrDomain)
					held(t, c.f, made(t, a, api.Float), made(t, b, api.Float), nil, api.ErrDomain)
				}
			}
		}
	}
}

// others lists vectors that hold no numbers, of n elements.
func others(n int) []vec.Vec {
	single := vec.Smalls([]int8{1})
	return []vec.Vec{
		vec.Chars(make([]rune, n)), vec.Chars(slices.Repeat([]rune{'1'}, n)), vec.Boxes(make([]vec.Array, n)),
		vec.Boxes(slices.Repeat([]vec.Array{{V: single}}, n)), vec.Boxes(slices.Repeat([]vec.Array{{Shape: []int{1}, V: single}}, n)),
	}
}

// all lists vectors of n elements: of numbers in all kinds, and of other classes.
func all(t *testing.T, n int) []vec.Vec {
	l := others(n)
	for _, x := range []float64{0, 1, -1, 300, 0.5} {
		for kind := least([]float64{x}); kind <= api.Float; kind++ {
			l = append(l, made(t, slices.Repeat([]float64{x}, n), kind))
		}
	}
	return l
}

func TestApplyToOtherClasses(t *testing.T) {
	for _, f := range functions {
		for _, n := range []int{0, 1, 2, 3} {
			for _, m := range []int{0, 1, n} {
				if _, ok := arith.Length(n, m); !ok {
					continue
				}
				for _, a := range others(n) {
					for _, b := range all(t, m) {
						held(t, f, a, b, nil, api.ErrDomain)
						held(t, f, b, a, nil, api.ErrDomain)
					}
				}
			}
		}
	}
}

// That the lengths don't go together is told ahead of what the elements are, and
// of what is done to them.
func TestApplyToLengthsThatDontGoTogether(t *testing.T) {
	lengths := []int{0, 2, 3, 4, 6, 63, 64, 65}
	for _, f := range functions {
		for _, n := range lengths {
			for _, m := range lengths {
				if n == m {
					continue
				}
				for i, a := range all(t, n) {
					for j, b := range all(t, m) {
						if n < 5 && m < 5 || i == j {
							held(t, f, a, b, nil, api.ErrLength)
						}
					}
				}
			}
		}
	}
}

// That there is no such function is told ahead of all other errors.
func TestApplyOfNoFunction(t *testing.T) {
	for _, f := range strange {
		for _, n := range []int{0, 1, 2, 3} {
			for _, m := range []int{0, 1, 2, 3} {
				for _, a := range all(t, n) {
					for _, b := range all(t, m) {
						held(t, f, a, b, nil, api.ErrArg)
					}
				}
			}
		}
		held(t, f, vec.Vec{}, vec.Vec{}, nil, api.ErrArg)
		held(t, f, vec.Vec{}, vec.Chars([]rune("xy")), nil, api.ErrArg)
	}
}

// Each error, beside all those that come after it.
func TestOrderOfErrors(t *testing.T) {
	two, three := vec.Smalls([]int8{1, 5}), vec.Smalls([]int8{0, 0, 0})
	text, box := vec.Chars([]rune("xy")), vec.Boxes([]vec.Array{{}})
	zeros := vec.Smalls([]int8{0, 0})
	cases := []struct {
		f    int
		a, b vec.Vec
		want api.Errno
	}{
		{0, text, three, api.ErrArg}, {9, text, three, api.ErrArg}, {9, text, two, api.ErrArg}, {9, two, three, api.ErrArg}, {9, two, zeros, api.ErrArg}, {-4, two, two, api.ErrArg},
		{arith.Div, text, three, api.ErrLength}, {arith.Div, three, text, api.ErrLength}, {arith.Div, two, three, api.ErrLength}, {arith.Div, vec.Chars(nil), text, api.ErrLength},
		{arith.Div, vec.Boxes(make([]vec.Array, 3)), text, api.ErrLength}, {arith.Div, vec.None(api.Number), text, api.ErrLength},
		{arith.Div, text, zeros, api.ErrDomain}, {arith.Div, box, text, api.ErrDomain}, {arith.Div, two, box, api.ErrDomain}, {arith.Div, two, zeros, api.ErrDomain}, {arith.Add, vec.None(api.Nested), vec.Smalls([]int8{7}), api.ErrDomain},
	}
	for _, c := range cases {
		held(t, c.f, c.a, c.b, nil, c.want)
	}
}

// Apply tells what One tells of each pair.
func TestApplyIsOneOfEach(t *testing.T) {
	for seed := range 40 {
		for _, l := range lists(9, seed) {
			for _, m := range [][]float64{steps(numbers(), 9, seed+50), steps(edges()[api.Small], 9, seed+50), {of(numbers(), seed)}} {
				for _, f := range functions {
					a, b := made(t, l, api.Float), made(t, m, api.Float)
					z, err := arith.Apply(f, a, b)
					for i := range l {
						x, oneErr := arith.One(f, of(l, i), of(m, i))
						if oneErr != api.OK {
							refused(t, f, a, b, z, err, oneErr)
							break
						}
						if err == api.OK && !alike(z.Num(i), x) {
							t.Errorf("%s has %g at %d, One tells %g", name(f, a, b), z.Num(i), i, x)
						}
					}
				}
			}
		}
	}
}

func TestApplyMany(t *testing.T) {
	bits, small := steps([]float64{0, 1}, most, 5), steps([]float64{1, 2, 3, -4}, most, 6)
	ones := slices.Repeat([]float64{1}, most)
	for _, f := range functions {
		for _, l := range [][]float64{bits, small, append(slices.Clone(small[1:]), 0.5), append(slices.Clone(small[1:]), top)} {
			many(t, f, l, bits)
			many(t, f, ones, l)
		}
		many(t, f, small, []float64{1})
		many(t, f, []float64{2}, small)
	}
}

// many checks a function on two lists of many numbers, of which few are unlike,
// in the least kinds alone.
func many(t *testing.T, f int, l, m []float64) {
	t.Helper()
	want, err := manyModels(f, l, m)
	held(t, f, made(t, l, least(l)), made(t, m, least(m)), want, err)
}

// manyModels is models of many numbers of which few are unlike: each pair is
// asked for once.
func manyModels(f int, l, m []float64) ([]float64, api.Errno) {
	p, a := distinct(l)
	q, b := distinct(m)
	answers := make([]answer, len(p)*len(q))
	asked := make([]bool, len(answers))
	z := make([]float64, max(len(l), len(m)))
	for i := range z {
		x, y := a[i%len(a)], b[i%len(b)]
		at := x*len(q) + y
		if !asked[at] {
			answers[at].x, answers[at].err = model(f, p[x], q[y])
			asked[at] = true
		}
		if answers[at].err != api.OK {
			return nil, answers[at].err
		}
		z[i] = answers[at].x
	}
	return z, api.OK
}

// distinct tells the unlike ones of numbers, and for each number the place of
// its like among them.
func distinct(l []float64) ([]float64, []int) {
	var unlike []float64
	places := make([]int, len(l))
	for i, x := range l {
		at := slices.Index(unlike, x)
		if at < 0 {
			at = len(unlike)
			unlike = append(unlike, x)
		}
		places[i] = at
	}
	return unlike, places
}

// More numbers than bits hold: none of them may be lost.
func TestApplyToMoreThanMost(t *testing.T) {
	l := make([]float64, most+70)
	l[0], l[most], l[most+69] = 1, 1, 1
	for _, x := range []float64{1, -1, 2, 300, 0.5, top} {
		l[most+69] = x
		for _, f := range []int{arith.Add, arith.Sub, arith.Mul, arith.Max, arith.Min, arith.Rest, arith.Power} {
			many(t, f, l, []float64{1})
		}
		many(t, arith.Div, l, []float64{1})
		many(t, arith.Mul, l, l)
	}
}

// Neither the arguments nor an earlier result change with what is done later.
func TestArgumentsAndResultsAreLeft(t *testing.T) {
	samples := [][]float64{{1, 0, 1}, {-1, 2, 5}, {300, 1, -top}, {0.5, 1, -2}, {1, 1, 1}, {2}}
	for _, l := range samples {
		for _, m := range samples {
			for _, f := range functions {
				want, wantedErr := models(f, l, m)
				if wantedErr != api.OK {
					continue
				}
				for first := least(l); first <= api.Float; first++ {
					for second := least(m); second <= api.Float; second++ {
						a, b := made(t, l, first), made(t, m, second)
						z, err := arith.Apply(f, a, b)
						clear(z.Nums())
						if p, ok := z.Packed(); ok {
							clear(p.Words())
						}
						for _, g := range functions {
							arith.Apply(g, a, b)
							arith.Apply(g, z, a)
							arith.Apply(g, b, z)
							arith.Apply(g, z, z)
						}
						wanted(t, f, a, b, z, err, want)
						if a.Kind() != first || b.Kind() != second || !slices.EqualFunc(a.Nums(), l, alike) || !slices.EqualFunc(b.Nums(), m, alike) {
							t.Errorf("%g and %g became %s and %s", l, m, told(a), told(b))
						}
					}
				}
			}
		}
	}
}

// The lists that arguments were made of are their maker's, before and afterwards.
func TestListsOfArgumentsAreLeft(t *testing.T) {
	smalls, ints, floats := []int8{1, 2, -3, 99}, []int64{1, 2, -3, 99}, []float64{1, 2, -3, 99}
	a := vec.Smalls(smalls[:3])
	b, _ := vec.Ints(ints[:3])
	c, _ := vec.Floats(floats[:3])
	for _, v := range []vec.Vec{a, b, c} {
		for _, w := range []vec.Vec{a, b, c} {
			z, err := arith.Apply(arith.Add, v, w)
			if !slices.Equal(smalls, []int8{1, 2, -3, 99}) || !slices.Equal(ints, []int64{1, 2, -3, 99}) || !slices.Equal(floats, []float64{1, 2, -3, 99}) {
				t.Fatalf("Apply left %d, %d, %g", smalls, ints, floats)
			}
			clear(smalls)
			clear(ints)
			clear(floats)
			wanted(t, arith.Add, v, w, z, err, []float64{2, 4, -6})
			smalls, ints, floats = append(smalls[:0], 1, 2, -3, 99), append(ints[:0], 1, 2, -3, 99), append(floats[:0], 1, 2, -3, 99)
		}
	}
}

// One vector may stand on both sides.
func TestApplyToItself(t *testing.T) {
	for _, l := range append(lists(5, 1), lists(1, 2)...) {
		for kind := least(l); kind <= api.Float; kind++ {
			v := made(t, l, kind)
			for _, f := range functions {
				want, err := models(f, l, l)
				held(t, f, v, v, want, err)
			}
		}
	}
}

// P10.3

func TestKindsHaveOneAnswer(t *testing.T) {
	for seed := range 12 {
		for _, l := range lists(6, seed) {
			for _, m := range lists([]int{1, 6}[seed%2], seed+70) {
				for _, f := range functions {
					sameInAllKinds(t, f, l, m)
					a, b := fine(f, l, m)
					sameInAllKinds(t, f, a, b)
				}
			}
		}
	}
}

// sameInAllKinds holds what Apply tells of two lists in all pairs of kinds
// against what it tells in floating point.
func sameInAllKinds(t *testing.T, f int, l, m []float64) {
	t.Helper()
	float, floatErr := arith.Apply(f, made(t, l, api.Float), made(t, m, api.Float))
	for first := least(l); first <= api.Float; first++ {
		for second := least(m); second <= api.Float; second++ {
			a, b := made(t, l, first), made(t, m, second)
			z, err := arith.Apply(f, a, b)
			if err != floatErr || z.Kind() != float.Kind() || !slices.EqualFunc(z.Nums(), float.Nums(), alike) {
				t.Errorf("%s is %s, %d; in floating point, it is %s, %d", name(f, a, b), told(z), err, told(float), floatErr)
			}
		}
	}
}

// The chapter's examples.

func TestExamples(t *testing.T) {
	cases := []struct {
		f          int
		a, b, want []float64
		err        api.Errno
	}{
		{arith.Add, []float64{1, 1, 0}, []float64{1, 0, 0}, []float64{2, 1, 0}, api.OK},
		{arith.Sub, []float64{5}, []float64{1, 2, 3}, []float64{4, 3, 2}, api.OK},
		{arith.Div, []float64{1, 6, 0}, []float64{4, 3, 0}, []float64{0.25, 2, 1}, api.OK},
		{arith.Rest, []float64{3}, []float64{-1, 7}, []float64{2, 1}, api.OK},
		{arith.Power, []float64{2, 9}, []float64{10, 0}, []float64{1024, 1}, api.OK},
		{arith.Add, []float64{top}, []float64{top}, []float64{1 << 54}, api.OK},
		{arith.Add, []float64{1, 2}, []float64{1, 2, 3}, nil, api.ErrLength},
		{arith.Div, []float64{1, 2}, []float64{1, 0}, nil, api.ErrDomain},
		{arith.Rest, []float64{0.5}, []float64{1}, nil, api.ErrDomain},
		{arith.Add, nil, []float64{1}, nil, api.OK},
	}
	for _, c := range cases {
		for first := least(c.a); first <= api.Float; first++ {
			for second := least(c.b); second <= api.Float; second++ {
				held(t, c.f, made(t, c.a, first), made(t, c.b, second), c.want, c.err)
			}
		}
	}
}
