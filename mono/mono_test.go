package mono_test

import (
	"fmt"
	"math"
	"math/big"
	"slices"
	"testing"

	"rebus/api"
	"rebus/bitvec"
	"rebus/mono"
	"rebus/squeeze"
	"rebus/vec"
)

// most is the greatest number of booleans, top the greatest whole number, tiny
// the least number above 0, and huge the greatest one.
const (
	most = 1 << 20
	top  = 1 << 53
	tiny = math.SmallestNonzeroFloat64
	huge = math.MaxFloat64
)

// kinds lists the kinds of numbers, the least one first.
var kinds = []int{api.Bit, api.Small, api.Int, api.Float}

// functions lists all functions.
var functions = []int{mono.Same, mono.Negate, mono.Sign, mono.Turn, mono.Ceil, mono.Floor, mono.Size, mono.Not}

// strange lists numbers that are no function's.
var strange = []int{
	0, -1, -2, -8, 9, 10, 16, 63, 64, 127, 128, 255, 256, 257, 264, 1<<16 + 1, 1<<32 + 1, 1<<32 + 8, 1 << 62,
	math.MaxInt, math.MinInt, math.MinInt + 1, math.MinInt + 8,
}

// edges lists, for each kind, numbers that fit it, but none that is less.
func edges() map[int][]float64 {
	return map[int][]float64{
		api.Bit:   {0, 1},
		api.Small: {-1, 2, -2, 3, 7, -4, 126, 127, -127, -128},
		api.Int: {
			128, -129, 129, -130, 254, 255, 256, 257, -255, -256, -257, 300, -300, 65536, 1<<31 - 1, 1 << 31, -1 << 31,
			-1<<31 - 1, 1 << 32, 1<<32 + 1, -1<<32 - 1, 1<<52 + 1, top, top - 1, -top, 1 - top,
		},
		api.Float: {
			tiny, -tiny, 2 * tiny, math.Nextafter(1, 0), math.Nextafter(1, 2), -math.Nextafter(1, 0), -math.Nextafter(1, 2),
			0.5, -0.5, 0.25, -0.25, 1.5, -1.5, 2.5, -2.5, 0.1, -0.1, 1.0 / 3, 0.75, -0.999, 1.001,
			126.5, 127.5, -127.5, -128.5, 128.5, -129.5, math.Nextafter(127, 128), math.Nextafter(-128, -129),
			0x1p51 + 0.5, 0x1p52 - 0.5, 0.5 - 0x1p52,
			top + 2, -top - 2, 1 << 54, 1 << 62, 1 << 63, -1 << 63, 1 << 64, 1e100, -1e100, 1e300,
			0x1p-1022, 0x1p-1022 - tiny, 0x1p-1023, -0x1p-1023, 0x1p-1024, -0x1p-1024, 0x1p-1024 + tiny, -0x1p-1024 - tiny, 0x1p-1024 - tiny,
			0x1p1022, 0x1p1023, -0x1p1023, math.Nextafter(huge, 0), huge, -huge, 1e-300, 1e-310, 1e-320, math.Pi,
		},
	}
}

// numbers lists all edges.
func numbers() []float64 {
	var l []float64
	for _, kind := range kinds {
		l = append(l, edges()[kind]...)
	}
	return l
}

// strangers lists what is no number.
func strangers() []float64 {
	return []float64{
		math.Inf(1), math.Inf(-1), math.NaN(), math.Float64frombits(0x7ff0000000000001),
		math.Float64frombits(0xffffffffffffffff), math.Copysign(0, -1),
	}
}

// alike tells whether two float64s are the same, in the sign of a zero too.
func alike(x, y float64) bool { return math.Float64bits(x) == math.Float64bits(y) }

// rounded is a fraction as a number, a zero without a sign; ErrDomain, if it is
// not finite.
func rounded(x *big.Rat) (float64, api.Errno) {
	z, _ := x.Float64()
	if math.IsInf(z, 0) {
		return 0, api.ErrDomain
	}
	return z + 0, api.OK
}

// model is what a function must tell of a number, worked out by fractions.
func model(f int, x float64) (float64, api.Errno) {
	exact := new(big.Rat).SetFloat64(x)
	// Euclid's quotient by a denominator, that is above zero, is the floor.
	low := func(r *big.Rat) *big.Rat { return new(big.Rat).SetInt(new(big.Int).Div(r.Num(), r.Denom())) }
	neg := func(r *big.Rat) *big.Rat { return new(big.Rat).Neg(r) }
	switch f {
	case mono.Same:
		return x, api.OK
	case mono.Negate:
		return rounded(neg(exact))
	case mono.Sign:
		return float64(exact.Sign()), api.OK
	case mono.Turn:
		if exact.Sign() == 0 {
			return 0, api.ErrDomain
		}
		return rounded(new(big.Rat).Inv(exact))
	case mono.Ceil:
		return rounded(neg(low(neg(exact))))
	case mono.Floor:
		return rounded(low(exact))
	case mono.Size:
		return rounded(new(big.Rat).Abs(exact))
	case mono.Not:
		switch x {
		case 0:
			return 1, api.OK
		case 1:
			return 0, api.OK
		}
		return 0, api.ErrDomain
	}
	return 0, api.ErrArg
}

// models is what Apply must tell of a list of numbers.
func models(f int, l []float64) ([]float64, api.Errno) {
	z := make([]float64, len(l))
	for i, x := range l {
		y, err := model(f, x)
		if err != api.OK {
			return nil, err
		}
		z[i] = y
	}
	return z, api.OK
}

// least tells the least kind that numbers fit.
func least(l []float64) int {
	kind := api.Bit
	for _, x := range l {
		switch {
		case x != math.Trunc(x) || math.Abs(x) > top:
			return api.Float
		case x < -128 || x > 127:
			kind = max(kind, api.Int)
		case x != 0 && x != 1 || len(l) > most:
			kind = max(kind, api.Small)
		}
	}
	return kind
}

// made makes a vector of a kind that numbers fit.
func made(t *testing.T, l []float64, kind int) vec.Vec {
	t.Helper()
	ok := true
	var v vec.Vec
	switch kind {
	case api.Bit:
		v = vec.Bits(bitvec.Pack(list(len(l), func(i int) bool { return l[i] == 1 })))
	case api.Small:
		v = vec.Smalls(list(len(l), func(i int) int8 { return int8(l[i]) }))
	case api.Int:
		v, ok = vec.Ints(list(len(l), func(i int) int64 { return int64(l[i]) }))
	default:
		v, ok = vec.Floats(l)
	}
	if !ok || v.Kind() != kind || !slices.EqualFunc(v.Nums(), l, alike) {
		t.Fatalf("the test can't make kind %d of %g", kind, l)
	}
	return v
}

// list makes n elements by a rule.
func list[T any](n int, rule func(i int) T) []T {
	l := make([]T, n)
	for i := range l {
		l[i] = rule(i)
	}
	return l
}

// name tells a function and what it is done to, for a report.
func name(f int, l []float64, kind int) string {
	if len(l) > 12 {
		return fmt.Sprintf("function %d of %d numbers of kind %d", f, len(l), kind)
	}
	return fmt.Sprintf("function %d of %g of kind %d", f, l, kind)
}

// wanted holds a result of Apply against numbers, which must be of the least kind.
func wanted(t *testing.T, what string, v vec.Vec, err api.Errno, want []float64) {
	t.Helper()
	if err != api.OK {
		t.Errorf("%s is error %d", what, err)
		return
	}
	got := v.Nums()
	if v.Class() != api.Number || v.Len() != len(want) || len(got) != len(want) {
		t.Errorf("%s has %d elements of class %d, not %d", what, v.Len(), v.Class(), len(want))
		return
	}
	for i, x := range want {
		if !alike(got[i], x) || !alike(v.Num(i), x) {
			t.Errorf("%s has %g (%g) at %d, not %g", what, v.Num(i), got[i], i, x)
			return
		}
	}
	if v.Kind() != least(want) || !squeeze.Tight(v) {
		t.Errorf("%s is of kind %d, not %d", what, v.Kind(), least(want))
	}
	if b, ok := v.Packed(); ok != (least(want) == api.Bit) || !b.Tidy() {
		t.Errorf("%s is not tidy, or not packed", what)
	}
}

// refused checks an error of Apply, and that there is nothing beside it.
func refused(t *testing.T, what string, v vec.Vec, err, want api.Errno) {
	t.Helper()
	if err != want || v.Kind() != 0 || v.Class() != api.Number || v.Len() != 0 {
		t.Errorf("%s is error %d with %d elements of kind %d, not error %d alone", what, err, v.Len(), v.Kind(), want)
	}
}

// applied checks what Apply tells of a list of numbers, in each kind that holds
// them.
func applied(t *testing.T, f int, l []float64) {
	t.Helper()
	want, wantedErr := models(f, l)
	for kind := least(l); kind <= api.Float; kind++ {
		v := made(t, l, kind)
		z, err := mono.Apply(f, v)
		if wantedErr != api.OK {
			refused(t, name(f, l, kind), z, err, wantedErr)
		} else {
			wanted(t, name(f, l, kind), z, err, want)
		}
		if v.Kind() != kind || !slices.EqualFunc(v.Nums(), l, alike) {
			t.Errorf("%s left %g of kind %d", name(f, l, kind), v.Nums(), v.Kind())
		}
	}
}

// steps lists n of the numbers of a list, the same ones each time.
func steps(l []float64, n, seed int) []float64 {
	x := uint32(seed)
	return list(n, func(int) float64 {
		x = x*1664525 + 1013904223
		return l[int(x>>8)%len(l)]
	})
}

// The functions have the numbers of the chapter.
func TestNumbersOfTheFunctions(t *testing.T) {
	for i, f := range functions {
		if f != i+1 {
			t.Errorf("function %d has the number %d", i+1, f)
		}
	}
}

// P9.1

// told holds what One tells against what is wanted.
func told(t *testing.T, f int, x, want float64, wantedErr api.Errno) {
	t.Helper()
	if got, err := mono.One(f, x); !alike(got, want) || err != wantedErr {
		t.Errorf("One(%d, %g) is %g, %d, not %g, %d", f, x, got, err, want, wantedErr)
	}
}

func TestOne(t *testing.T) {
	for _, f := range functions {
		for _, x := range numbers() {
			want, err := model(f, x)
			told(t, f, x, want, err)
			want, err = model(f, -x+0)
			told(t, f, -x+0, want, err)
		}
	}
}

func TestOneOfMany(t *testing.T) {
	x := uint64(9)
	for range 20000 {
		x = x*6364136223846793005 + 1442695040888963407
		n := math.Float64frombits(x)
		if n-n != 0 || n == 0 {
			continue
		}
		for _, f := range functions {
			want, err := model(f, n)
			told(t, f, n, want, err)
		}
	}
}

func TestOneWithResults(t *testing.T) {
	cases := []struct {
		f       int
		x, want float64
	}{
		{mono.Same, 0, 0}, {mono.Same, 1, 1}, {mono.Same, -0.5, -0.5}, {mono.Same, huge, huge}, {mono.Same, tiny, tiny}, {mono.Same, top, top},
		{mono.Negate, 0, 0}, {mono.Negate, 1, -1}, {mono.Negate, -1, 1}, {mono.Negate, 0.5, -0.5}, {mono.Negate, -128, 128},
		{mono.Negate, top, -top}, {mono.Negate, huge, -huge}, {mono.Negate, -huge, huge}, {mono.Negate, tiny, -tiny}, {mono.Negate, -tiny, tiny},
		{mono.Sign, 0, 0}, {mono.Sign, 7, 1}, {mono.Sign, -300, -1}, {mono.Sign, tiny, 1}, {mono.Sign, -tiny, -1}, {mono.Sign, huge, 1}, {mono.Sign, -0.5, -1},
		{mono.Turn, 1, 1}, {mono.Turn, -1, -1}, {mono.Turn, 2, 0.5}, {mono.Turn, -4, -0.25}, {mono.Turn, 0.5, 2}, {mono.Turn, 3, 1.0 / 3}, {mono.Turn, 49, 1.0 / 49},
		{mono.Turn, 0x1p1023, 0x1p-1023}, {mono.Turn, -0x1p-1022, -0x1p1022}, {mono.Turn, 0x1p-1023, 0x1p1023}, {mono.Turn, huge, 0x1p-1024},
		{mono.Turn, math.Nextafter(1, 2), 1 - 0x1p-52}, {mono.Turn, math.Nextafter(1, 0), math.Nextafter(1, 2)},
		{mono.Ceil, 0, 0}, {mono.Ceil, 1.5, 2}, {mono.Ceil, -1.5, -1}, {mono.Ceil, -0.5, 0}, {mono.Ceil, tiny, 1}, {mono.Ceil, -tiny, 0},
		{mono.Ceil, math.Nextafter(1, 0), 1}, {mono.Ceil, math.Nextafter(1, 2), 2}, {mono.Ceil, 3, 3}, {mono.Ceil, huge, huge}, {mono.Ceil, -huge, -huge},
		{mono.Ceil, 0x1p52 - 0.5, 0x1p52}, {mono.Ceil, top + 2, top + 2},
		{mono.Floor, 0, 0}, {mono.Floor, 1.5, 1}, {mono.Floor, -1.5, -2}, {mono.Floor, -0.5, -1}, {mono.Floor, 0.5, 0}, {mono.Floor, tiny, 0}, {mono.Floor, -tiny, -1},
		{mono.Floor, math.Nextafter(1, 0), 0}, {mono.Floor, math.Nextafter(1, 2), 1}, {mono.Floor, -3, -3}, {mono.Floor, huge, huge}, {mono.Floor, -huge, -huge},
		{mono.Floor, 0.5 - 0x1p52, -0x1p52}, {mono.Floor, -top - 2, -top - 2},
		{mono.Size, 0, 0}, {mono.Size, -3, 3}, {mono.Size, 2, 2}, {mono.Size, -128, 128}, {mono.Size, -top, top}, {mono.Size, -huge, huge}, {mono.Size, -tiny, tiny}, {mono.Size, -0.5, 0.5},
		{mono.Not, 0, 1}, {mono.Not, 1, 0},
	}
	for _, c := range cases {
		told(t, c.f, c.x, c.want, api.OK)
	}
}

func TestOneWithoutResults(t *testing.T) {
	for _, x := range []float64{0, tiny, -tiny, 0x1p-1024, -0x1p-1024, 0x1p-1024 - tiny, 1e-309} {
		told(t, mono.Turn, x, 0, api.ErrDomain)
	}
	for _, x := range []float64{
		2, -1, -2, 0.5, -0.5, tiny, -tiny, math.Nextafter(1, 0), math.Nextafter(1, 2), -math.Nextafter(1, 0),
		127, 128, 256, 257, 65536, 1 << 32, 1<<32 + 1, top, -top, 1 << 63, 1 << 64, huge, -huge, 1e-300,
	} {
		told(t, mono.Not, x, 0, api.ErrDomain)
	}
}

// Where there is no such function, the number does not matter.
func TestOneOfNoFunction(t *testing.T) {
	for _, f := range strange {
		for _, x := range append(numbers(), strangers()...) {
			told(t, f, x, 0, api.ErrArg)
		}
	}
}

// The chapter speaks of numbers alone; a call ends all the same.
func TestOneOfWhatIsNoNumber(t *testing.T) {
	for _, f := range functions {
		for _, x := range strangers() {
			if _, err := mono.One(f, x); err != api.OK && err != api.ErrDomain {
				t.Errorf("One(%d, %g) is error %d", f, x, err)
			}
		}
	}
}

// P9.2

// lists makes lists of numbers of each least kind: alone, and first, last and in
// the middle of others that fit a lesser kind.
func lists() [][]float64 {
	all := [][]float64{
		nil, {1, 0, 1}, {-1, -1}, {1, -1}, {0.5, 1.5}, {-0.5, 0, 0.25}, {2, -4}, {-300, 0, 7}, {1.5, -1.5}, {-3, 2}, {1, 1},
		{-128, 1}, {128, -127}, {0.5, 0.25, -1}, {1, 0.5}, {-128.5, 127}, {127.5, 0}, {top + 2, 1}, {-0.5, -0.25},
	}
	lesser := map[int][]float64{api.Bit: {0, 1}, api.Small: {1, 0}, api.Int: {-128, 1, 127}, api.Float: {top, 1, -5}}
	for _, kind := range kinds {
		for _, x := range edges()[kind] {
			others := lesser[kind]
			all = append(all,
				[]float64{x}, []float64{x, x, x},
				append([]float64{x}, others...),
				append(slices.Clone(others), x),
				slices.Concat(others, []float64{x}, others))
		}
	}
	return all
}

func TestApply(t *testing.T) {
	for _, l := range lists() {
		for _, f := range functions {
			applied(t, f, l)
		}
	}
}

// Lists of numbers that a function has a result for, as each of them is told.
func TestApplyOfSome(t *testing.T) {
	for _, f := range functions {
		for seed, kind := range [][]float64{
			{0, 1}, {1}, {0}, {-1, 0, 1}, edges()[api.Small], append(edges()[api.Int], 0, 1, -128), edges()[api.Float], numbers(),
		} {
			fine := slices.DeleteFunc(slices.Clone(kind), func(x float64) bool {
				_, err := model(f, x)
				return err != api.OK
			})
			for n := 1; n < 20 && len(fine) > 0; n++ {
				applied(t, f, steps(fine, n*n, 31*n+seed))
			}
		}
	}
}

// Booleans are done many at a time, so that lengths about those of words count.
func TestApplyOfBits(t *testing.T) {
	for _, n := range []int{1, 2, 7, 8, 9, 31, 32, 33, 62, 63, 64, 65, 66, 126, 127, 128, 129, 130, 191, 192, 193, 200, 1000} {
		for _, l := range [][]float64{
			make([]float64, n), slices.Repeat([]float64{1}, n), steps([]float64{0, 1}, n, n), steps([]float64{0, 1, 1, 1}, n, n+1),
			list(n, func(i int) float64 { return float64(i % 2) }),
			list(n, func(i int) float64 { return float64((n - i) / n) }), list(n, func(i int) float64 { return float64((i + 1) / n) }),
		} {
			for _, f := range functions {
				applied(t, f, l)
			}
		}
	}
}

func TestApplyOfNoElements(t *testing.T) {
	for _, kind := range kinds {
		for _, f := range functions {
			z, err := mono.Apply(f, made(t, nil, kind))
			wanted(t, name(f, nil, kind), z, err, nil)
		}
	}
}

// The chapter speaks of vectors that have a kind; a call ends all the same.
func TestApplyOfTheZeroValue(t *testing.T) {
	for _, f := range functions {
		z, err := mono.Apply(f, vec.Vec{})
		wanted(t, name(f, nil, 0), z, err, nil)
	}
}

func TestApplyMany(t *testing.T) {
	bits := steps([]float64{0, 1}, most, 5)
	for _, l := range [][]float64{
		bits, slices.Repeat([]float64{1}, most), append(slices.Clone(bits[1:]), -128), append(slices.Clone(bits[1:]), 128),
		append(slices.Clone(bits[1:]), 0.5), append([]float64{-2.5}, bits[1:]...), slices.Repeat([]float64{-0.5}, most),
	} {
		many(t, l)
	}
}

// many checks all functions on many numbers, of which few are unlike, in the
// least kind alone.
func many(t *testing.T, l []float64) {
	t.Helper()
	v := made(t, l, least(l))
	for _, f := range functions {
		want, wantedErr := manyModels(f, l)
		z, err := mono.Apply(f, v)
		if wantedErr != api.OK {
			refused(t, name(f, l, v.Kind()), z, err, wantedErr)
		} else {
			wanted(t, name(f, l, v.Kind()), z, err, want)
		}
	}
}

// manyModels is models of numbers of which few are unlike; the model is slow.
func manyModels(f int, l []float64) ([]float64, api.Errno) {
	var asked, answers []float64
	z := make([]float64, len(l))
	for i, x := range l {
		at := slices.Index(asked, x)
		if at < 0 {
			y, err := model(f, x)
			if err != api.OK {
				return nil, err
			}
			at = len(asked)
			asked, answers = append(asked, x), append(answers, y)
		}
		z[i] = answers[at]
	}
	return z, api.OK
}

// More numbers than bits hold: none of them may be lost.
func TestApplyToMoreThanMost(t *testing.T) {
	l := make([]float64, most+70)
	l[0], l[most], l[most+69] = 1, 1, 1
	many(t, l)
	for _, x := range []float64{-1, 2, 300, 0.5, tiny} {
		l[most+69] = x
		many(t, l)
		l[most+69] = 1
	}
	many(t, slices.Repeat([]float64{1}, most+1))
	many(t, slices.Repeat([]float64{-0.5}, most+1))
}

// Numbers that are whole, 0 or 1 only in the result, and no longer so in it.
func TestResultsAreSqueezed(t *testing.T) {
	cases := []struct {
		f    int
		l    []float64
		kind int
	}{
		{mono.Same, []float64{1, 0}, api.Bit}, {mono.Same, []float64{2, 0}, api.Small}, {mono.Same, []float64{128}, api.Int}, {mono.Same, []float64{0.5}, api.Float},
		{mono.Negate, []float64{0, 0}, api.Bit}, {mono.Negate, []float64{1, 0}, api.Small}, {mono.Negate, []float64{-1, 0}, api.Bit},
		{mono.Negate, []float64{-128}, api.Int}, {mono.Negate, []float64{128, -127}, api.Small}, {mono.Negate, []float64{-top}, api.Int}, {mono.Negate, []float64{top + 2}, api.Float},
		{mono.Sign, []float64{0.5, huge}, api.Bit}, {mono.Sign, []float64{300, 0}, api.Bit}, {mono.Sign, []float64{2, 0}, api.Bit}, {mono.Sign, []float64{-0.5}, api.Small},
		{mono.Turn, []float64{1, 1}, api.Bit}, {mono.Turn, []float64{-1}, api.Small}, {mono.Turn, []float64{0.5, 1}, api.Small}, {mono.Turn, []float64{2}, api.Float},
		{mono.Turn, []float64{0x1p-7}, api.Int}, {mono.Turn, []float64{-0x1p-7}, api.Small}, {mono.Turn, []float64{0x1p-53}, api.Int}, {mono.Turn, []float64{0x1p-54}, api.Float},
		{mono.Ceil, []float64{-0.5, 0.5}, api.Bit}, {mono.Ceil, []float64{126.5}, api.Small}, {mono.Ceil, []float64{127.5}, api.Int}, {mono.Ceil, []float64{top + 2}, api.Float},
		{mono.Floor, []float64{0.5, 1.5}, api.Bit}, {mono.Floor, []float64{-0.5}, api.Small}, {mono.Floor, []float64{-128.5}, api.Int}, {mono.Floor, []float64{-1e300}, api.Float},
		{mono.Size, []float64{-1, 0}, api.Bit}, {mono.Size, []float64{-127}, api.Small}, {mono.Size, []float64{-128}, api.Int}, {mono.Size, []float64{-0.5}, api.Float},
		{mono.Not, []float64{0, 1}, api.Bit}, {mono.Not, []float64{1}, api.Bit},
	}
	for _, c := range cases {
		for kind := least(c.l); kind <= api.Float; kind++ {
			if z, err := mono.Apply(c.f, made(t, c.l, kind)); err != api.OK || z.Kind() != c.kind {
				t.Errorf("%s is of kind %d, %d, not of kind %d", name(c.f, c.l, kind), z.Kind(), err, c.kind)
			}
		}
	}
}

// others lists vectors that hold no numbers.
func others() []vec.Vec {
	one := vec.Smalls([]int8{1})
	return []vec.Vec{
		vec.None(api.Letter), vec.Chars(nil), vec.Chars([]rune{0}), vec.Chars([]rune{1, 0}), vec.Chars([]rune("1")), vec.Chars([]rune("xy z")),
		vec.None(api.Nested), vec.Boxes(nil), vec.Boxes([]vec.Array{{}}), vec.Boxes([]vec.Array{{V: one}}),
		vec.Boxes([]vec.Array{{Shape: []int{1}, V: one}, {Shape: []int{2}, V: vec.Chars([]rune("hi"))}}),
	}
}

func TestApplyToOtherClasses(t *testing.T) {
	for _, v := range others() {
		for _, f := range functions {
			z, err := mono.Apply(f, v)
			refused(t, fmt.Sprintf("function %d of %d elements of kind %d", f, v.Len(), v.Kind()), z, err, api.ErrDomain)
		}
	}
}

// That there is no such function is told ahead of all other errors.
func TestApplyOfNoFunction(t *testing.T) {
	all := append(others(), vec.Vec{})
	for _, l := range [][]float64{nil, {1}, {0}, {2}, {1, 0, 1}, {-1, 127}, {300, 0}, {0.5, 0}, {tiny}, {huge, -huge}} {
		for kind := least(l); kind <= api.Float; kind++ {
			all = append(all, made(t, l, kind))
		}
	}
	for _, v := range all {
		for _, f := range strange {
			z, err := mono.Apply(f, v)
			refused(t, fmt.Sprintf("function %d of %d elements of kind %d", f, v.Len(), v.Kind()), z, err, api.ErrArg)
		}
	}
}

// One element without a result is enough, wherever it is, and leaves nothing of
// the results of the others.
func TestApplyToOneWithoutResult(t *testing.T) {
	for _, n := range []int{1, 2, 3, 64, 65, 130} {
		for at := range n {
			for _, x := range []float64{0, tiny, 0x1p-1024} {
				for _, fine := range []float64{1, 2, -300, 0.5} {
					l := slices.Repeat([]float64{fine}, n)
					l[at] = x
					applied(t, mono.Turn, l)
				}
			}
			for _, x := range []float64{2, -1, 128, top, 0.5, math.Nextafter(1, 0), tiny} {
				l := steps([]float64{0, 1}, n, at)
				l[at] = x
				applied(t, mono.Not, l)
			}
		}
	}
}

// Apply tells what One tells of each element.
func TestApplyIsOneOfEach(t *testing.T) {
	for _, l := range lists() {
		for _, f := range functions {
			z, err := mono.Apply(f, made(t, l, api.Float))
			for i, x := range l {
				y, oneErr := mono.One(f, x)
				if oneErr != api.OK {
					refused(t, name(f, l, api.Float), z, err, oneErr)
					break
				}
				if err == api.OK && !alike(z.Num(i), y) {
					t.Errorf("%s has %g at %d, One tells %g", name(f, l, api.Float), z.Num(i), i, y)
				}
			}
		}
	}
}

// Neither the argument nor an earlier result changes with what is done later.
func TestArgumentsAndResultsAreLeft(t *testing.T) {
	for _, l := range [][]float64{{1, 0, 1}, {-1, 0, 5}, {300, 1, -top}, {0.5, 1, -2}, {1, 1, 1}, {0.25}} {
		for kind := least(l); kind <= api.Float; kind++ {
			v := made(t, l, kind)
			for _, f := range functions {
				want, wantedErr := models(f, l)
				first, err := mono.Apply(f, v)
				if err != wantedErr || err != api.OK {
					continue
				}
				clear(first.Nums())
				if b, ok := first.Packed(); ok {
					clear(b.Words())
				}
				for _, g := range functions {
					mono.Apply(g, v)
					mono.Apply(g, first)
				}
				wanted(t, name(f, l, kind)+", asked again later", first, err, want)
				if v.Kind() != kind || !slices.EqualFunc(v.Nums(), l, alike) {
					t.Errorf("%g of kind %d became %g of kind %d", l, kind, v.Nums(), v.Kind())
				}
			}
		}
	}
}

// The lists that an argument was made of are its maker's, before and afterwards.
func TestListsOfArgumentsAreLeft(t *testing.T) {
	smalls, ints, floats := []int8{1, 2, -3, 99}, []int64{1, 2, -3, 99}, []float64{1, 2, -3, 99}
	a := vec.Smalls(smalls[:3])
	b, _ := vec.Ints(ints[:3])
	c, _ := vec.Floats(floats[:3])
	for i, v := range []vec.Vec{a, b, c} {
		z, err := mono.Apply(mono.Negate, v)
		if !slices.Equal(smalls, []int8{1, 2, -3, 99}) || !slices.Equal(ints, []int64{1, 2, -3, 99}) || !slices.Equal(floats, []float64{1, 2, -3, 99}) {
			t.Fatalf("Apply left %d, %d, %g", smalls, ints, floats)
		}
		clear([][]int8{smalls, nil, nil}[i])
		clear([][]int64{nil, ints, nil}[i])
		clear([][]float64{nil, nil, floats}[i])
		wanted(t, name(mono.Negate, []float64{1, 2, -3}, v.Kind()), z, err, []float64{-1, -2, 3})
		smalls, ints, floats = []int8{1, 2, -3, 99}, []int64{1, 2, -3, 99}, []float64{1, 2, -3, 99}
	}
}

// P9.3

func TestKindsHaveOneAnswer(t *testing.T) {
	for at, l := range append(lists(), steps(edges()[api.Small], 200, 1), steps([]float64{0, 1}, 200, 2), steps(edges()[api.Int], 200, 3)) {
		for _, f := range functions {
			first, firstErr := mono.Apply(f, made(t, l, api.Float))
			for kind := least(l); kind < api.Float; kind++ {
				z, err := mono.Apply(f, made(t, l, kind))
				if err != firstErr || z.Kind() != first.Kind() || !slices.EqualFunc(z.Nums(), first.Nums(), alike) {
					t.Errorf("list %d: %s is %g of kind %d, %d; of kind 4, it is %g of kind %d, %d",
						at, name(f, l, kind), z.Nums(), z.Kind(), err, first.Nums(), first.Kind(), firstErr)
				}
			}
		}
	}
}

// The chapter's examples.

func TestExamples(t *testing.T) {
	cases := []struct {
		f       int
		l, want []float64
	}{
		{mono.Negate, []float64{1, 0, 1}, []float64{-1, 0, -1}},
		{mono.Sign, []float64{-300, 0, 7}, []float64{-1, 0, 1}},
		{mono.Turn, []float64{2, -4}, []float64{0.5, -0.25}},
		{mono.Ceil, []float64{1.5, -1.5}, []float64{2, -1}},
		{mono.Floor, []float64{1.5, -1.5}, []float64{1, -2}},
		{mono.Size, []float64{-3, 2}, []float64{3, 2}},
		{mono.Not, []float64{1, 0}, []float64{0, 1}},
	}
	for _, c := range cases {
		for kind := least(c.l); kind <= api.Float; kind++ {
			z, err := mono.Apply(c.f, made(t, c.l, kind))
			wanted(t, name(c.f, c.l, kind), z, err, c.want)
		}
	}
	bits := made(t, []float64{1, 0}, api.Bit)
	z, err := mono.Apply(mono.Turn, bits)
	refused(t, "Turn of 1 0", z, err, api.ErrDomain)
	z, err = mono.Apply(mono.Not, vec.Chars([]rune("xy")))
	refused(t, "Not of characters", z, err, api.ErrDomain)
	z, err = mono.Apply(9, bits)
	refused(t, "the function 9", z, err, api.ErrArg)
}
