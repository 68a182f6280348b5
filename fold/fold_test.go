package fold_test

import (
	"cmp"
	"fmt"
	"math"
	"slices"
	"testing"

	"rebus/api"
	"rebus/arith"
	"rebus/bitvec"
	"rebus/fold"
	"rebus/logic"
	"rebus/num"
	"rebus/relate"
	"rebus/squeeze"
	"rebus/vec"
)

// most is the greatest number of elements, top the greatest whole number, tiny the
// least number above 0, and huge the greatest one.
const (
	most = 1 << 20
	top  = 1 << 53
	tiny = math.SmallestNonzeroFloat64
	huge = math.MaxFloat64
)

// kinds lists the kinds of numbers, the least one first.
var kinds = []int{api.Bit, api.Small, api.Int, api.Float}

// reckoning, relations and truths list the functions of the three packages.
var (
	reckoning = []int{arith.Add, arith.Sub, arith.Mul, arith.Div, arith.Max, arith.Min, arith.Rest, arith.Power}
	relations = []int{relate.Less, relate.NotMore, relate.Equal, relate.NotLess, relate.More, relate.Unequal}
	truths    = []int{logic.And, logic.Or, logic.Nand, logic.Nor}
)

// functions lists all functions.
var functions = slices.Concat(reckoning, relations, truths)

// strange lists numbers that are no function's.
var strange = []int{
	0, 9, 10, 17, 18, 19, 20, 25, 26, 27, 31, 37, -1, -2, -8, -11, -16, -21, -24, 64 + 1, 128 + 21, 256 + 1, 256 + 11, 256 + 24,
	1<<16 + 1, 1<<16 + 23, 1<<32 + 1, 1<<32 + 12, 1<<32 + 24, 1<<62 + 21, math.MaxInt, math.MinInt, math.MinInt + 1, math.MinInt + 11, math.MinInt + 24,
}

// below lists numbers below 0.
var below = []int{-1, -2, -3, -64, -most, -1 << 32, -1<<32 + 1, math.MinInt, math.MinInt + 1}

// edges lists, for each kind, numbers of it, mostly such as no lesser kind holds.
func edges() map[int][]float64 {
	return map[int][]float64{
		api.Bit:   {0, 1},
		api.Small: {0, 1, -1, 2, -2, 3, 5, 10, 100, 127, -127, -128},
		api.Int:   {0, 1, -1, 2, 128, -129, 255, 256, 1023, -1023, 1024, 46341, 1 << 31, 1 << 32, 94906265, 94906266, top, top - 1, -top, 1 - top},
		api.Float: {0, 1, -1, 2, 0.5, -0.5, 0.25, 1.5, -1.5, tiny, -tiny, 1e-300, 1e200, -1e200, top + 2, -top - 2, 1 << 63, huge, -huge, math.Pi},
	}
}

// numbers lists all of them.
func numbers() []float64 {
	all := edges()
	return slices.Concat(all[api.Small], all[api.Int], all[api.Float])
}

// result is a number that came of an operation; ErrDomain, if it is not finite.
func result(x float64) (float64, api.Errno) {
	if math.IsInf(x, 0) || math.IsNaN(x) {
		return 0, api.ErrDomain
	}
	if x == 0 {
		return 0, api.OK
	}
	return x, api.OK
}

// model is what a function tells of two numbers.
func model(f int, a, b float64) (float64, api.Errno) {
	switch f {
	case arith.Add:
		return result(a + b)
	case arith.Sub:
		return result(a - b)
	case arith.Mul:
		return result(a * b)
	case arith.Div:
		if a == 0 && b == 0 {
			return 1, api.OK
		}
		return result(a / b)
	case arith.Max:
		return max(a, b), api.OK
	case arith.Min:
		return min(a, b), api.OK
	case arith.Rest:
		return rest(a, b)
	case arith.Power:
		return power(a, b)
	}
	if f >= logic.And {
		return judged(f, a, b)
	}
	return flag(related(f, cmp.Compare(a, b))), api.OK
}

// flag is 1 for true, and 0 for false.
func flag(b bool) float64 {
	if b {
		return 1
	}
	return 0
}

// related tells what a relation tells of two numbers by how they compare.
func related(f, order int) bool {
	switch f {
	case relate.Less:
		return order == -1
	case relate.NotMore:
		return order != 1
	case relate.Equal:
		return order == 0
	case relate.NotLess:
		return order != -1
	case relate.More:
		return order == 1
	}
	return order != 0
}

// judged is what a function of truths tells, by how many of the two are true.
func judged(f int, a, b float64) (float64, api.Errno) {
	for _, x := range []float64{a, b} {
		if x != 0 && x != 1 {
			return 0, api.ErrDomain
		}
	}
	switch f {
	case logic.And:
		return flag(a+b == 2), api.OK
	case logic.Or:
		return flag(a+b >= 1), api.OK
	case logic.Nand:
		return flag(a+b <= 1), api.OK
	}
	return flag(a+b == 0), api.OK
}

// whole tells whether a number is whole.
func whole(x float64) bool { return x == math.Trunc(x) && math.Abs(x) <= top }

// rest is the remainder of b modulo a, that is 0 or has the sign of a.
func rest(a, b float64) (float64, api.Errno) {
	if !whole(a) || !whole(b) {
		return 0, api.ErrDomain
	}
	if a == 0 {
		return b, api.OK
	}
	z := math.Mod(b, a)
	if z != 0 && math.Signbit(z) != math.Signbit(a) {
		z += a
	}
	return result(z)
}

// power goes by the steps of the chapter of numbers.
func power(a, b float64) (float64, api.Errno) {
	if !whole(b) || math.Abs(b) > 1023 {
		return 0, api.ErrDomain
	}
	out, x := 1.0, a
	for k := int(math.Abs(b)); k > 0; k /= 2 {
		if k%2 == 1 {
			out *= x
		}
		x *= x
	}
	if b < 0 && !math.IsInf(out, 0) {
		out = 1 / out
	}
	return result(out)
}

// ofRow is what comes of a row of numbers.
func ofRow(f int, row []float64) (float64, api.Errno) {
	z := row[len(row)-1]
	for _, x := range slices.Backward(row[:len(row)-1]) {
		y, err := model(f, x, z)
		if err != api.OK {
			return 0, err
		}
		z = y
	}
	return z, api.OK
}

// start is what comes of no elements, and whether something does.
func start(f int) (float64, bool) {
	switch f {
	case arith.Max:
		return -huge, true
	case arith.Min:
		return huge, true
	case logic.Nand, logic.Nor:
		return 0, false
	}
	ones := []int{arith.Mul, arith.Div, arith.Power, relate.NotMore, relate.Equal, relate.NotLess, logic.And}
	return flag(slices.Contains(ones, f)), slices.Contains(functions, f)
}

// rowsOf takes a list apart: the elements of each row, row after row.
func rowsOf[T any](l []T, outer, n, inner int) [][]T {
	rows := make([][]T, 0, outer*inner)
	for i := range outer {
		for j := range inner {
			rows = append(rows, list(n, func(k int) T { return l[(i*n+k)*inner+j] }))
		}
	}
	return rows
}

// models is what Fold must tell of a list, and of which kind.
func models(f int, l []float64, kind, outer, n, inner int) ([]float64, int, api.Errno) {
	if n == 0 {
		x, ok := start(f)
		if !ok {
			return nil, 0, api.ErrDomain
		}
		z := same(outer*inner, x)
		return z, least(z), api.OK
	}
	var z []float64
	for _, row := range rowsOf(l, outer, n, inner) {
		x, err := ofRow(f, row)
		if err != api.OK {
			return nil, 0, err
		}
		z = append(z, x)
	}
	if n == 1 {
		return z, kind, api.OK
	}
	return z, least(z), api.OK
}

// list makes n elements by a rule.
func list[T any](n int, rule func(i int) T) []T {
	l := make([]T, n)
	for i := range l {
		l[i] = rule(i)
	}
	return l
}

// steps lists n of the elements of a list, the same ones each time.
func steps[T any](l []T, n, seed int) []T {
	x := uint32(seed)
	return list(n, func(int) T {
		x = x*1664525 + 1013904223
		return l[int(x>>8)%len(l)]
	})
}

// flags makes n booleans, as numbers, the same ones each time.
func flags(n, seed int) []float64 { return steps([]float64{0, 1}, n, seed) }

// same makes n numbers that all equal x.
func same(n int, x float64) []float64 { return slices.Repeat([]float64{x}, n) }

// with makes a list of which one element is another one.
func with(l []float64, at int, x float64) []float64 {
	z := slices.Clone(l)
	z[at] = x
	return z
}

// digits makes booleans, as numbers, of a text of 0s and 1s.
func digits(s string) []float64 {
	return list(len(s), func(i int) float64 { return float64(s[i] - '0') })
}

// least tells the least kind that numbers fit.
func least(l []float64) int {
	kind := api.Bit
	for _, x := range l {
		switch {
		case !whole(x):
			return api.Float
		case x < -128 || x > 127:
			kind = max(kind, api.Int)
		case x != 0 && x != 1 || len(l) > most:
			kind = max(kind, api.Small)
		}
	}
	return kind
}

// alike tells whether two numbers are the same, and neither of them a zero with a
// sign.
func alike(a, b float64) bool { return math.Float64bits(a) == math.Float64bits(b) }

// made makes a vector of a kind that numbers fit.
func made(t *testing.T, l []float64, kind int) vec.Vec {
	t.Helper()
	ok := true
	var v vec.Vec
	switch kind {
	case api.Bit:
		v = vec.Bits(bitvec.Pack(list(len(l), func(i int) bool { return l[i] == 1 })))
	case api.Small:
		v = vec.Smalls(list(len(l), func(i int) int8 { return int8(l[i]) }))
	case api.Int:
		v, ok = vec.Ints(list(len(l), func(i int) int64 { return int64(l[i]) }))
	default:
		v, ok = vec.Floats(l)
	}
	if !ok || v.Kind() != kind || !slices.EqualFunc(v.Nums(), l, alike) {
		t.Fatalf("the test can't make kind %d of %d numbers", kind, len(l))
	}
	return v
}

// tight makes a vector of the least kind.
func tight(t *testing.T, l ...float64) vec.Vec {
	t.Helper()
	return made(t, l, least(l))
}

// told tells a vector, for a report.
func told(v vec.Vec) string {
	switch {
	case v.Len() > 12:
		return fmt.Sprintf("%d elements of kind %d", v.Len(), v.Kind())
	case v.Class() == api.Letter:
		return fmt.Sprintf("%x of kind %d", v.Text(), v.Kind())
	case v.Class() == api.Nested:
		return fmt.Sprintf("%v of kind %d", v, v.Kind())
	}
	return fmt.Sprintf("%g of kind %d", v.Nums(), v.Kind())
}

// name tells a call of Fold, for a report.
func name(f int, v vec.Vec, outer, n, inner int) string {
	return fmt.Sprintf("function %d of %s as %d by %d by %d", f, told(v), outer, n, inner)
}

// wanted holds a result against numbers of a kind.
func wanted(t *testing.T, what string, v vec.Vec, err api.Errno, want []float64, kind int) {
	t.Helper()
	if err != api.OK || v.Class() != api.Number || v.Kind() != kind {
		t.Errorf("%s is error %d of kind %d and class %d, not of kind %d", what, err, v.Kind(), v.Class(), kind)
		return
	}
	got := v.Nums()
	if v.Len() != len(want) || len(got) != len(want) {
		t.Errorf("%s has %d elements, not %d", what, v.Len(), len(want))
		return
	}
	for i, x := range want {
		if !alike(got[i], x) || !alike(v.Num(i), x) {
			t.Errorf("%s has %g (%g) at %d, not %g", what, v.Num(i), got[i], i, x)
			return
		}
	}
	if p, ok := v.Packed(); ok != (kind == api.Bit) || !p.Tidy() {
		t.Errorf("%s is not tidy, or not packed", what)
	}
}

// alone checks an error, and that there is nothing beside it.
func alone(t *testing.T, what string, v vec.Vec, err, want api.Errno) {
	t.Helper()
	if err != want || v.Kind() != 0 || v.Class() != api.Number || v.Len() != 0 {
		t.Errorf("%s is error %d with %d elements of kind %d, not error %d alone", what, err, v.Len(), v.Kind(), want)
	}
}

// held holds Fold of a vector against numbers of the least kind.
func held(t *testing.T, f int, v vec.Vec, outer, n, inner int, want ...float64) {
	t.Helper()
	z, err := fold.Fold(f, v, outer, n, inner)
	wanted(t, name(f, v, outer, n, inner), z, err, want, least(want))
}

// refused checks an error of Fold, and that there is nothing beside it.
func refused(t *testing.T, f int, v vec.Vec, outer, n, inner int, want api.Errno) {
	t.Helper()
	z, err := fold.Fold(f, v, outer, n, inner)
	alone(t, name(f, v, outer, n, inner), z, err, want)
}

// folded checks what Fold tells of a list of numbers, in each kind that holds them,
// and that it leaves them.
func folded(t *testing.T, f int, l []float64, outer, n, inner int) {
	t.Helper()
	for kind := least(l); kind <= api.Float; kind++ {
		foldedAs(t, f, l, kind, outer, n, inner)
	}
}

// foldedAs checks what Fold tells of a list of numbers in a kind, and that it
// leaves them.
func foldedAs(t *testing.T, f int, l []float64, kind, outer, n, inner int) {
	t.Helper()
	v := made(t, l, kind)
	want, wantedKind, wantedErr := models(f, l, kind, outer, n, inner)
	z, err := fold.Fold(f, v, outer, n, inner)
	if wantedErr != api.OK {
		alone(t, name(f, v, outer, n, inner), z, err, wantedErr)
	} else {
		wanted(t, name(f, v, outer, n, inner), z, err, want, wantedKind)
	}
	if v.Kind() != kind || !slices.EqualFunc(v.Nums(), l, alike) {
		t.Errorf("%d numbers of kind %d became %s", len(l), kind, told(v))
	}
}

// fine makes a list of n numbers that a function has a result for all the way from
// the end, of those of a list.
func fine(f int, l []float64, n, seed int) []float64 {
	z := steps(l, n, seed)
	at, ok := z[n-1], true
	for i := n - 2; i >= 0; i-- {
		for k := range l {
			x, err := model(f, z[i], at)
			if err == api.OK {
				at, ok = x, true
				break
			}
			z[i], ok = l[(i+k)%len(l)], false
		}
		if !ok {
			return z[i+1:]
		}
	}
	return z
}

// texts lists vectors of n characters, among them such as stand for 0 and 1.
func texts(n int) []vec.Vec {
	var l []vec.Vec
	for _, c := range []rune{0, 1, '0', '1', ' ', -1} {
		l = append(l, vec.Chars(slices.Repeat([]rune{c}, n)))
	}
	return l
}

// boxes lists vectors of n boxes, among them such as contain a number.
func boxes(n int) []vec.Vec {
	one := vec.Bits(bitvec.Make(1, true))
	return []vec.Vec{
		vec.Boxes(make([]vec.Array, n)), vec.Boxes(slices.Repeat([]vec.Array{{V: one}}, n)),
		vec.Boxes(slices.Repeat([]vec.Array{{Shape: []int{1}, V: one}}, n)), vec.Boxes(slices.Repeat([]vec.Array{{Shape: []int{0}, V: vec.None(api.Number)}}, n)),
	}
}

// ofNumbers lists vectors of n numbers in all kinds that hold them.
func ofNumbers(t *testing.T, n int) []vec.Vec {
	var l []vec.Vec
	for _, x := range []float64{0, 1, -1, 2, 300, 0.5} {
		for kind := least([]float64{x}); kind <= api.Float; kind++ {
			l = append(l, made(t, same(n, x), kind))
		}
	}
	return l
}

// all lists vectors of n elements, of all classes.
func all(t *testing.T, n int) []vec.Vec {
	return slices.Concat(texts(n), boxes(n), ofNumbers(t, n))
}

// longLengths lists the lengths about the edges of 64 and of its multiples.
func longLengths() []int {
	l := []int{2, 3, 4, 31, 32, 33}
	for n := 60; n <= 200; n++ {
		l = append(l, n)
	}
	for _, n := range []int{256, 320, 512, 1024, 4096} {
		l = append(l, n-1, n, n+1)
	}
	return l
}

// P13.1

func TestKnown(t *testing.T) {
	for _, f := range functions {
		if !fold.Known(f) {
			t.Errorf("function %d isn't known", f)
		}
	}
	for _, f := range strange {
		if fold.Known(f) {
			t.Errorf("function %d is known", f)
		}
	}
}

// The chapter tells the numbers of the functions.
func TestKnownByNumber(t *testing.T) {
	for f := -300; f <= 300; f++ {
		want := f >= 1 && f <= 8 || f >= 11 && f <= 16 || f >= 21 && f <= 24
		if fold.Known(f) != want {
			t.Errorf("that function %d is known, is %v", f, !want)
		}
	}
}

// one holds what One tells against what is wanted.
func one(t *testing.T, f int, a, b, want float64, wantedErr api.Errno) {
	t.Helper()
	if got, err := fold.One(f, a, b); !alike(got, want) || err != wantedErr {
		t.Errorf("One(%d, %g, %g) is %g, %d, not %g, %d", f, a, b, got, err, want, wantedErr)
	}
}

func TestOne(t *testing.T) {
	for _, f := range functions {
		for _, a := range numbers() {
			for _, b := range numbers() {
				want, err := model(f, a, b)
				one(t, f, a, b, want, err)
			}
		}
	}
}

// One tells what One of each package tells.
func TestOneIsOfThePackages(t *testing.T) {
	for _, a := range numbers() {
		for _, b := range numbers() {
			for _, f := range reckoning {
				want, err := arith.One(f, a, b)
				one(t, f, a, b, want, err)
			}
			for _, f := range relations {
				want, err := relate.One(f, a, b)
				one(t, f, a, b, num.Flag(want), err)
			}
		}
	}
	for _, f := range truths {
		for k := range 4 {
			want, err := logic.One(f, k/2 == 1, k%2 == 1)
			one(t, f, float64(k/2), float64(k%2), num.Flag(want), err)
		}
	}
}

func TestOneWithResults(t *testing.T) {
	cases := []struct {
		f          int
		a, b, want float64
	}{
		{1, 2, 3, 5}, {1, top, 1, top}, {1, -3, 3, 0}, {2, 2, 3, -1}, {2, 0, 0, 0}, {3, -2, 0, 0}, {3, 0.5, 3, 1.5}, {4, 1, 4, 0.25}, {4, 0, 0, 1}, {4, 0, -5, 0}, {5, 2, 3, 3}, {5, -1, -2, -1},
		{6, 2, 3, 2}, {6, 0.5, -huge, -huge}, {7, 3, -1, 2}, {7, 0, 5, 5}, {8, 2, 10, 1024}, {8, 0, 0, 1}, {8, 2, -1, 0.5},
		{11, 2, 3, 1}, {11, 3, 3, 0}, {11, 3, 2, 0}, {12, 2, 3, 1}, {12, 3, 3, 1}, {12, 3, 2, 0}, {13, 2, 3, 0}, {13, 3, 3, 1}, {13, 3, 2, 0},
		{14, 2, 3, 0}, {14, 3, 3, 1}, {14, 3, 2, 1}, {15, 2, 3, 0}, {15, 3, 3, 0}, {15, 3, 2, 1}, {16, 2, 3, 1}, {16, 3, 3, 0}, {16, 3, 2, 1}, {11, 0.5, tiny, 0}, {15, huge, -huge, 1},
		{21, 0, 0, 0}, {21, 0, 1, 0}, {21, 1, 0, 0}, {21, 1, 1, 1}, {22, 0, 0, 0}, {22, 0, 1, 1}, {22, 1, 0, 1}, {22, 1, 1, 1},
		{23, 0, 0, 1}, {23, 0, 1, 1}, {23, 1, 0, 1}, {23, 1, 1, 0}, {24, 0, 0, 1}, {24, 0, 1, 0}, {24, 1, 0, 0}, {24, 1, 1, 0},
	}
	for _, c := range cases {
		one(t, c.f, c.a, c.b, c.want, api.OK)
	}
}

func TestOneWithoutResults(t *testing.T) {
	cases := []struct {
		f    int
		a, b float64
	}{
		{1, huge, huge}, {2, huge, -huge}, {3, 1e200, 1e200}, {4, 1, 0}, {4, -0.5, 0}, {4, huge, 0.5}, {7, 0.5, 1}, {7, 1, 0.5}, {7, 1, top + 2}, {8, 0, -1}, {8, 2, 0.5}, {8, 10, 400}, {8, 1, 1024},
		{21, 2, 0}, {21, 0, 2}, {21, 0, -1}, {22, 1, 2}, {22, 2, 1}, {22, 0.5, 1}, {23, 0, 7}, {23, -1, 0}, {24, 1, 300}, {24, huge, 1}, {24, tiny, 0}, {21, 1, math.Nextafter(1, 0)}, {22, math.Nextafter(1, 2), 1},
	}
	for _, c := range cases {
		one(t, c.f, c.a, c.b, 0, api.ErrDomain)
	}
}

// A number that is no truth is refused, though the other one might settle what
// comes of both.
func TestOneOfNoTruths(t *testing.T) {
	for _, f := range truths {
		for _, x := range numbers() {
			if x == 0 || x == 1 {
				continue
			}
			for _, y := range []float64{0, 1, x, -1, 0.5, 2} {
				one(t, f, x, y, 0, api.ErrDomain)
				one(t, f, y, x, 0, api.ErrDomain)
			}
		}
	}
}

// Where there is no such function, the numbers do not matter.
func TestOneOfNoFunction(t *testing.T) {
	strangers := []float64{math.Inf(1), math.Inf(-1), math.NaN()}
	for _, f := range strange {
		for _, a := range slices.Concat([]float64{0, 1, -1, 2, 0.5, 300, top, top + 2, huge}, strangers) {
			for _, b := range slices.Concat([]float64{0, 1, -1, 2, 0.5, 300, top, top + 2, huge}, strangers) {
				one(t, f, a, b, 0, api.ErrArg)
			}
		}
	}
}

// The chapter speaks of numbers alone; a call ends all the same.
func TestOneOfWhatIsNoNumber(t *testing.T) {
	strangers := []float64{math.Inf(1), math.Inf(-1), math.NaN(), math.Copysign(0, -1)}
	for _, f := range functions {
		for _, a := range strangers {
			for _, b := range append(slices.Clone(strangers), 0, 1, -3, 0.5, huge) {
				for _, pair := range [][2]float64{{a, b}, {b, a}} {
					if _, err := fold.One(f, pair[0], pair[1]); err != api.OK && err != api.ErrDomain {
						t.Errorf("One(%d, %g, %g) is error %d", f, pair[0], pair[1], err)
					}
				}
			}
		}
	}
}

// applied is what Apply of the package of a function tells.
func applied(f int, a, b vec.Vec) (vec.Vec, api.Errno) {
	switch {
	case slices.Contains(reckoning, f):
		return arith.Apply(f, a, b)
	case slices.Contains(relations, f):
		return relate.Apply(f, a, b)
	}
	return logic.Apply(f, a, b)
}

// two holds what Two tells against what Apply tells.
func two(t *testing.T, f int, a, b vec.Vec) {
	t.Helper()
	what := fmt.Sprintf("Two of function %d of %s and %s", f, told(a), told(b))
	z, err := fold.Two(f, a, b)
	want, wantedErr := applied(f, a, b)
	if wantedErr != api.OK {
		alone(t, what, z, err, wantedErr)
	} else {
		wanted(t, what, z, err, want.Nums(), want.Kind())
	}
}

// Vectors of every class and kind, of lengths that go together and others.
func TestTwo(t *testing.T) {
	for _, f := range functions {
		for _, n := range []int{0, 1, 2, 3} {
			for _, m := range []int{0, 1, 2, 3} {
				for _, a := range all(t, n) {
					for _, b := range all(t, m) {
						two(t, f, a, b)
					}
				}
			}
		}
	}
}

func TestTwoOfLists(t *testing.T) {
	for seed, n := range []int{1, 2, 5, 63, 64, 65, 130} {
		for first := range kinds {
			for second := range kinds {
				l, m := steps(edges()[kinds[first]], n, seed), steps(edges()[kinds[second]], n, seed+5)
				for _, f := range functions {
					two(t, f, made(t, l, kinds[first]), made(t, m, kinds[second]))
					two(t, f, made(t, l[:1], kinds[first]), made(t, m, kinds[second]))
					two(t, f, made(t, l, kinds[first]), made(t, m[:1], kinds[second]))
				}
			}
		}
	}
}

func TestTwoWithResults(t *testing.T) {
	ba, a := vec.Chars([]rune("ba")), vec.Chars([]rune("a"))
	cases := []struct {
		f    int
		a, b vec.Vec
		want []float64
	}{
		{1, tight(t, 1, 1, 0), tight(t, 1, 0, 0), []float64{2, 1, 0}}, {2, tight(t, 5), tight(t, 1, 2, 3), []float64{4, 3, 2}}, {3, tight(t, 2, 0.5), tight(t, 4), []float64{8, 2}},
		{4, tight(t, 1, 6, 0), tight(t, 4, 3, 0), []float64{0.25, 2, 1}}, {5, tight(t, 1, 2), tight(t, 2, 1), []float64{2, 2}}, {6, tight(t, 1, 2), tight(t, 2, 1), []float64{1, 1}},
		{7, tight(t, 3), tight(t, -1, 7), []float64{2, 1}}, {8, tight(t, 2, 9), tight(t, 10, 0), []float64{1024, 1}}, {1, tight(t), tight(t, 3), nil},
		{11, tight(t, 1, 0, 0, 1), tight(t, 1, 0, 1, 0), digits("0010")}, {12, tight(t, 1, 0, 0, 1), tight(t, 1, 0, 1, 0), digits("1110")}, {13, tight(t, 0.5, 300), tight(t, 300), digits("01")},
		{14, tight(t, 2), tight(t, 1, 2, 3), digits("110")}, {15, tight(t, 2), tight(t, 1, 2, 3), digits("100")}, {16, tight(t, 1, 1), a, digits("11")}, {13, a, ba, digits("01")},
		{21, tight(t, 0, 0, 1, 1), tight(t, 0, 1, 0, 1), digits("0001")}, {22, tight(t, 0, 0, 1, 1), tight(t, 0, 1, 0, 1), digits("0111")}, {23, tight(t, 0, 0, 1, 1), tight(t, 0, 1, 0, 1), digits("1110")},
		{24, tight(t, 0, 0, 1, 1), tight(t, 0, 1, 0, 1), digits("1000")}, {22, tight(t), tight(t, 2), nil},
	}
	for _, c := range cases {
		z, err := fold.Two(c.f, c.a, c.b)
		wanted(t, fmt.Sprintf("Two of function %d of %s and %s", c.f, told(c.a), told(c.b)), z, err, c.want, least(c.want))
	}
}

func TestTwoWithoutResults(t *testing.T) {
	ba, none := vec.Chars([]rune("ba")), vec.None(api.Letter)
	cases := []struct {
		f    int
		a, b vec.Vec
		want api.Errno
	}{
		{0, ba, tight(t, 1, 2, 3), api.ErrArg}, {9, tight(t, 1), tight(t, 1), api.ErrArg}, {10, tight(t, 1), tight(t, 1), api.ErrArg}, {17, ba, ba, api.ErrArg}, {20, tight(t, 1), tight(t, 0), api.ErrArg}, {25, tight(t, 1), tight(t, 0), api.ErrArg},
		{1, tight(t, 1, 2), tight(t, 1, 2, 3), api.ErrLength}, {11, ba, tight(t, 1, 2, 3), api.ErrLength}, {21, none, tight(t, 1, 0, 1, 0), api.ErrLength},
		{1, ba, tight(t, 1), api.ErrDomain}, {4, tight(t, 1, 2), tight(t, 1, 0), api.ErrDomain}, {11, ba, ba, api.ErrDomain}, {13, vec.None(api.Nested), tight(t, 1), api.ErrDomain}, {21, tight(t, 1, 0), tight(t, 2), api.ErrDomain}, {24, none, none, api.ErrDomain},
	}
	for _, c := range cases {
		z, err := fold.Two(c.f, c.a, c.b)
		alone(t, fmt.Sprintf("Two of function %d of %s and %s", c.f, told(c.a), told(c.b)), z, err, c.want)
	}
}

// That there is no such function is told ahead of all other errors.
func TestTwoOfNoFunction(t *testing.T) {
	for _, f := range strange {
		for _, n := range []int{0, 1, 2, 3} {
			for _, a := range all(t, n) {
				for _, b := range slices.Concat(texts(2), boxes(1), ofNumbers(t, 3)) {
					for _, pair := range [][2]vec.Vec{{a, b}, {b, a}} {
						z, err := fold.Two(f, pair[0], pair[1])
						alone(t, fmt.Sprintf("Two of function %d of %s and %s", f, told(a), told(b)), z, err, api.ErrArg)
					}
				}
			}
		}
	}
}

// P13.2

func TestStart(t *testing.T) {
	cases := []struct {
		f    int
		want float64
	}{
		{1, 0}, {2, 0}, {3, 1}, {4, 1}, {5, -huge}, {6, huge}, {7, 0}, {8, 1}, {11, 0}, {12, 1}, {13, 1}, {14, 1}, {15, 0}, {16, 0}, {21, 1}, {22, 0},
	}
	for _, c := range cases {
		if x, ok := fold.Start(c.f); !ok || !alike(x, c.want) {
			t.Errorf("function %d starts with %g, %v, not %g", c.f, x, ok, c.want)
		}
	}
	for _, f := range append([]int{23, 24}, strange...) {
		if x, ok := fold.Start(f); ok || !alike(x, 0) {
			t.Errorf("function %d starts with %g, %v", f, x, ok)
		}
	}
}

// What a function starts with changes no number (no truth, where a relation tells
// one) on one side of it.
func TestStartChangesNothing(t *testing.T) {
	ahead := []int{arith.Add, arith.Mul, arith.Max, arith.Min, arith.Rest, relate.Less, relate.NotMore, relate.Equal, relate.Unequal, logic.And, logic.Or}
	behind := []int{arith.Add, arith.Sub, arith.Mul, arith.Div, arith.Max, arith.Min, arith.Power, relate.Equal, relate.NotLess, relate.More, relate.Unequal, logic.And, logic.Or}
	for _, f := range functions {
		x, ok := fold.Start(f)
		for _, y := range numbers() {
			if f > arith.Power && y != 0 && y != 1 || f == arith.Rest && !whole(y) || !ok {
				continue
			}
			if slices.Contains(ahead, f) {
				one(t, f, x, y, y, api.OK)
			}
			if slices.Contains(behind, f) {
				one(t, f, y, x, y, api.OK)
			}
		}
	}
}

// P13.3

// All rows of up to six booleans, each alone, and all of them that have a result
// together: row by row, and as rows that lie side by side.
func TestFoldOfAllShortRows(t *testing.T) {
	for n := 1; n <= 6; n++ {
		for _, f := range functions {
			var rows [][]float64
			for k := range 1 << n {
				row := list(n, func(i int) float64 { return float64(k >> i & 1) })
				folded(t, f, row, 1, n, 1)
				if _, err := ofRow(f, row); err == api.OK {
					rows = append(rows, row)
				}
			}
			folded(t, f, slices.Concat(rows...), len(rows), n, 1)
			across := list(n*len(rows), func(i int) float64 { return rows[i%len(rows)][i/len(rows)] })
			folded(t, f, across, 1, n, len(rows))
		}
	}
}

// Rows of each least kind, and of all kinds, of several lengths: of any numbers,
// and of such as have a result.
func TestFoldOfRows(t *testing.T) {
	all := edges()
	near := []float64{-5, 0, 1, 2, 3, 100, -100}
	calm := []float64{1, 2, -1, 0.5, -0.5, 3, 0.25}
	for seed, n := range []int{2, 3, 4, 5, 8, 13, 30, 63, 64, 65} {
		for _, f := range functions {
			for i, l := range [][]float64{all[api.Bit], all[api.Small], all[api.Int], all[api.Float], near, calm, {top, top - 1, -top, 1 - top, 0, 1, -1}} {
				folded(t, f, steps(l, n, seed+10*i), 1, n, 1)
				row := fine(f, l, n, seed+10*i+1)
				folded(t, f, row, 1, len(row), 1)
			}
		}
	}
}

// Each number with each other one.
func TestFoldOfPairs(t *testing.T) {
	for _, f := range functions {
		for _, a := range numbers() {
			for _, b := range numbers() {
				folded(t, f, []float64{a, b}, 1, 2, 1)
			}
		}
	}
}

// Rows that lie in one another: inner elements apart, and outer times as many.
func TestFoldOfRowsInOneAnother(t *testing.T) {
	for outer := range 5 {
		for n := 2; n < 7; n++ {
			for inner := range 5 {
				size := outer * n * inner
				lists := [][]float64{
					flags(size, size), steps([]float64{1, 2, 3, -1, -2, 5}, size, n), steps([]float64{1, 0.5, -2, 0.25}, size, n+1),
					steps([]float64{1000, 7, -3000, 12}, size, n+2), list(size, func(i int) float64 { return float64(i + 1) }), same(size, 1),
				}
				for _, l := range lists {
					for _, f := range functions {
						folded(t, f, l, outer, n, inner)
					}
				}
			}
		}
	}
}

// Of numbers that tell their place, each row has those of its own.
func TestFoldTakesTheElementsOfARow(t *testing.T) {
	l := list(24, func(i int) float64 { return float64(i) })
	held(t, arith.Max, tight(t, l...), 2, 3, 4, 8, 9, 10, 11, 20, 21, 22, 23)
	held(t, arith.Min, tight(t, l...), 2, 3, 4, 0, 1, 2, 3, 12, 13, 14, 15)
	held(t, arith.Sub, tight(t, l...), 2, 3, 4, 4, 5, 6, 7, 16, 17, 18, 19)
	held(t, arith.Sub, tight(t, l...), 4, 3, 2, 2, 3, 8, 9, 14, 15, 20, 21)
	held(t, arith.Sub, tight(t, l...), 1, 2, 12, same(12, -12)...)
	held(t, arith.Sub, tight(t, l...), 12, 2, 1, same(12, -1)...)
	held(t, relate.Less, tight(t, l...), 3, 2, 4, same(12, 1)...)
	held(t, relate.More, tight(t, l...), 3, 2, 4, same(12, 0)...)
}

// A function starts from the end of a row.
func TestFoldStartsFromTheEnd(t *testing.T) {
	cases := []struct {
		f    int
		l    []float64
		want float64
	}{
		{arith.Sub, []float64{1, 2, 3}, 2}, {arith.Sub, []float64{1, 2, 3, 4}, -2}, {arith.Div, []float64{8, 4, 2}, 4}, {arith.Div, []float64{1, 0, 0}, 1}, {arith.Div, []float64{6, 3, 2, 4}, 1},
		{arith.Rest, []float64{3, 5, 9}, 1}, {arith.Rest, []float64{5, 3, 7}, 1}, {arith.Power, []float64{2, 3, 2}, 512}, {arith.Power, []float64{4, 3, 2, 1}, 262144}, {arith.Add, []float64{1e16, 1, 1}, 1e16 + 2},
		{arith.Add, []float64{1, 1, 1e16}, 1e16}, {arith.Mul, []float64{0.1, 0.2, 0.3}, 0.006}, {relate.Less, []float64{2, 1, 5}, 0}, {relate.Less, []float64{0, 1, 5}, 1}, {relate.Equal, []float64{3, 3, 3}, 0}, {relate.Equal, []float64{1, 3, 3}, 1},
		{relate.More, []float64{5, 3, 2}, 1}, {relate.NotLess, []float64{0, 2, 3}, 1}, {relate.NotMore, []float64{2, 1, 1}, 0}, {relate.Unequal, []float64{1, 5, 6}, 0}, {logic.Nand, []float64{1, 1, 0}, 0}, {logic.Nand, []float64{0, 1, 1}, 1}, {logic.Nor, []float64{0, 0, 1}, 1}, {logic.Nor, []float64{1, 0, 0}, 0},
	}
	for _, c := range cases {
		for kind := least(c.l); kind <= api.Float; kind++ {
			held(t, c.f, made(t, c.l, kind), 1, len(c.l), 1, c.want)
		}
	}
}

// No elements are what the function starts with, once for each row.
func TestFoldOfNoElements(t *testing.T) {
	for _, f := range functions {
		for _, outer := range []int{0, 1, 2, 3, 64, 1000} {
			for _, inner := range []int{0, 1, 2, 5, 65} {
				folded(t, f, nil, outer, 0, inner)
			}
		}
		foldedAs(t, f, nil, api.Bit, most, 0, 0)
		foldedAs(t, f, nil, api.Bit, 0, 0, most)
	}
	for _, sizes := range [][2]int{{1, most}, {most, 1}, {1024, 1024}, {3, most / 3}} {
		for _, f := range []int{arith.Add, arith.Max, relate.Equal, logic.And, logic.Nor} {
			foldedAs(t, f, nil, api.Bit, sizes[0], 0, sizes[1])
		}
	}
	held(t, arith.Mul, vec.None(api.Number), 2, 0, 3, 1, 1, 1, 1, 1, 1)
	held(t, arith.Add, vec.None(api.Number), 1, 0, 1, 0)
	held(t, arith.Max, vec.None(api.Number), 1, 0, 2, -huge, -huge)
	refused(t, logic.Nand, vec.None(api.Number), 1, 0, 1, api.ErrDomain)
	refused(t, logic.Nor, vec.None(api.Number), 0, 0, 0, api.ErrDomain)
}

// A row of one element is left as it is, of whatever kind, and whatever the
// function is: nothing is done to it.
func TestFoldOfOneElement(t *testing.T) {
	for _, f := range functions {
		for _, sizes := range [][2]int{{1, 1}, {2, 3}, {6, 1}, {1, 6}, {0, 0}, {0, 3}, {64, 1}, {5, 13}} {
			size := sizes[0] * sizes[1]
			for _, kind := range kinds {
				foldedAs(t, f, steps(edges()[kind], size, f), kind, sizes[0], 1, sizes[1])
			}
			folded(t, f, flags(size, f), sizes[0], 1, sizes[1])
		}
	}
	held(t, logic.And, tight(t, 7), 1, 1, 1, 7)
	held(t, logic.Nor, tight(t, 0.5, -1), 2, 1, 1, 0.5, -1)
}

// Characters are left where rows have one element, and refused otherwise.
func TestFoldOfCharacters(t *testing.T) {
	for _, f := range functions {
		for _, sizes := range [][2]int{{1, 1}, {2, 3}, {0, 3}, {64, 1}} {
			for _, v := range texts(sizes[0] * sizes[1]) {
				z, err := fold.Fold(f, v, sizes[0], 1, sizes[1])
				if err != api.OK || z.Kind() != api.Char || !slices.Equal(z.Text(), v.Text()) {
					t.Errorf("%s is %s, error %d", name(f, v, sizes[0], 1, sizes[1]), told(z), err)
				}
			}
		}
		for _, sizes := range [][3]int{{1, 2, 1}, {1, 0, 1}, {0, 2, 1}, {0, 0, 0}, {5, 0, 7}, {2, 3, 4}, {1, 64, 1}, {1, 2, 64}, {0, 2, 64}, {3, 2, 0}} {
			for _, v := range texts(sizes[0] * sizes[1] * sizes[2]) {
				refused(t, f, v, sizes[0], sizes[1], sizes[2], api.ErrDomain)
			}
		}
	}
}

// Boxes are refused, even where rows have one element.
func TestFoldOfBoxes(t *testing.T) {
	for _, f := range functions {
		for _, sizes := range [][3]int{{1, 1, 1}, {2, 1, 3}, {0, 1, 0}, {1, 2, 1}, {1, 0, 1}, {0, 2, 1}, {0, 0, 0}, {5, 0, 7}, {2, 3, 4}, {1, 64, 1}, {1, 2, 64}} {
			for _, v := range boxes(sizes[0] * sizes[1] * sizes[2]) {
				refused(t, f, v, sizes[0], sizes[1], sizes[2], api.ErrDomain)
			}
		}
	}
}

// Where there are no rows, there is no result, however long they would be.
func TestFoldOfNoRows(t *testing.T) {
	for _, f := range functions {
		for _, n := range []int{2, 3, 63, 64, 65, 1000, most} {
			for _, sizes := range [][2]int{{0, 0}, {0, 1}, {1, 0}, {0, 3}, {3, 0}, {0, 64}, {64, 0}, {0, most}, {most, 0}} {
				for _, kind := range kinds {
					held(t, f, made(t, nil, kind), sizes[0], n, sizes[1])
				}
			}
		}
	}
}

// patterns lists rows of n booleans: such as any function may end at any place of.
func patterns(n int) [][]float64 {
	l := [][]float64{same(n, 0), same(n, 1), flags(n, n), flags(n, n+1), list(n, func(i int) float64 { return float64(i % 2) }), list(n, func(i int) float64 { return float64(1 - i%2) })}
	for _, at := range []int{0, 1, 2, n / 2, n/2 + 1, 62, 63, 64, 65, n - 3, n - 2, n - 1} {
		if at >= 0 && at < n {
			l = append(l, with(same(n, 0), at, 1), with(same(n, 1), at, 0))
		}
	}
	return l
}

func TestFoldOfLongBooleans(t *testing.T) {
	for _, n := range longLengths() {
		for _, row := range patterns(n) {
			for _, f := range functions {
				foldedAs(t, f, row, api.Bit, 1, n, 1)
			}
		}
	}
}

// Each place of a long row counts, wherever it is, and the parity of how many are
// ahead of it and behind it.
func TestFoldOfLongBooleansUnlikeInOnePlace(t *testing.T) {
	for _, n := range []int{63, 64, 65, 66, 127, 128, 129, 192, 193} {
		for at := range n {
			for _, f := range functions {
				foldedAs(t, f, with(same(n, 0), at, 1), api.Bit, 1, n, 1)
				foldedAs(t, f, with(same(n, 1), at, 0), api.Bit, 1, n, 1)
			}
		}
	}
}

// Two places of a long row count.
func TestFoldOfLongBooleansUnlikeInTwoPlaces(t *testing.T) {
	for _, n := range []int{64, 65, 70} {
		for at := range n {
			for other := at + 1; other < n; other++ {
				for _, f := range functions {
					foldedAs(t, f, with(with(same(n, 0), at, 1), other, 1), api.Bit, 1, n, 1)
					foldedAs(t, f, with(with(same(n, 1), at, 0), other, 0), api.Bit, 1, n, 1)
				}
			}
		}
	}
}

// Rows of booleans that lie one after the other, each of its own, where none begins
// with a word.
func TestFoldOfLongRowsOfBooleans(t *testing.T) {
	for _, n := range []int{31, 62, 63, 64, 65, 66, 100, 127, 128, 129, 200} {
		rows := patterns(n)
		for _, f := range functions {
			var good [][]float64
			for _, row := range rows {
				if _, err := ofRow(f, row); err == api.OK {
					good = append(good, row)
				}
			}
			for _, l := range [][][]float64{rows, good, rows[:1], rows[:2], good[len(good)-1:]} {
				folded(t, f, slices.Concat(l...), len(l), n, 1)
			}
		}
	}
}

// Booleans of rows that lie side by side.
func TestFoldOfBooleansSideBySide(t *testing.T) {
	for _, inner := range []int{2, 3, 31, 32, 62, 63, 64, 65, 66, 100, 127, 128, 129, 200} {
		for outer := range 4 {
			for n := 2; n < 6; n++ {
				size := outer * n * inner
				for _, l := range [][]float64{flags(size, size), flags(size, n), same(size, 0), same(size, 1)} {
					for _, f := range functions {
						foldedAs(t, f, l, api.Bit, outer, n, inner)
					}
				}
			}
		}
	}
	for _, f := range functions {
		for _, sizes := range [][3]int{{2, 64, 64}, {1, 65, 65}, {3, 63, 66}, {2, 100, 2}, {2, 2, 100}, {1, 200, 64}} {
			size := sizes[0] * sizes[1] * sizes[2]
			folded(t, f, flags(size, f), sizes[0], sizes[1], sizes[2])
		}
	}
}

func TestFoldOfMany(t *testing.T) {
	for i, sizes := range [][3]int{{1, most, 1}, {1, most - 1, 1}, {2, most / 2, 1}, {1024, 1024, 1}, {1, 1024, 1024}, {64, 128, 128}, {most / 2, 2, 1}, {1, 2, most / 2}, {1, most / 2, 2}} {
		size := sizes[0] * sizes[1] * sizes[2]
		mixed, ones := flags(size, 7), same(size, 1)
		for k, f := range functions {
			if (i+k)%3 == 0 {
				foldedAs(t, f, mixed, api.Bit, sizes[0], sizes[1], sizes[2])
				foldedAs(t, f, ones, api.Bit, sizes[0], sizes[1], sizes[2])
			}
		}
		f := []int{arith.Add, arith.Sub, arith.Max, relate.Less}[i%4]
		foldedAs(t, f, steps([]float64{-3, 0, 1, 100}, size, 7), api.Small, sizes[0], sizes[1], sizes[2])
	}
}

// Whole numbers that come to more than 2^53 are rounded on the way, in whatever
// kind they are.
func TestFoldBeyondTheGreatestWholeNumber(t *testing.T) {
	cases := []struct {
		f    int
		l    []float64
		want float64
	}{
		{arith.Add, []float64{top, 1, -1}, top}, {arith.Add, []float64{-1, 1, top}, top - 1}, {arith.Add, []float64{-1, -1, 1, 1, top}, top - 2}, {arith.Add, []float64{-top, 1, 1, 1, top}, 0}, {arith.Add, []float64{-top, top, 3}, 4}, {arith.Add, []float64{-top, 3, top}, 4},
		{arith.Add, []float64{top, top, -top, -top}, 0}, {arith.Add, []float64{-top, -top, top, top}, 0}, {arith.Add, []float64{-3, -top, 1, top, top}, top - 3}, {arith.Add, []float64{top, top}, 1 << 54},
		{arith.Sub, []float64{top, -1, -1}, top}, {arith.Sub, []float64{0, top, -1, 1, -1, 0, 0}, -top - 4}, {arith.Sub, []float64{-top, 1}, -top}, {arith.Sub, []float64{1, -top, 1, 1}, top},
		{arith.Sub, []float64{top, 1, top, -1, 1}, 1 << 54}, {arith.Mul, []float64{0, top, 2}, 0}, {arith.Mul, []float64{0, top, top, top}, 0}, {arith.Mul, []float64{3, 1 << 27, 1 << 27}, 3 * (1 << 54)}, {arith.Mul, []float64{94906267, 94906267}, 9007199515875288},
		{arith.Mul, []float64{0, 94906267, 94906267}, 0}, {arith.Add, []float64{-9007199515875288, 1}, -9007199515875287}, {arith.Rest, []float64{top, 5}, 5},
	}
	for _, c := range cases {
		for kind := least(c.l); kind <= api.Float; kind++ {
			held(t, c.f, made(t, c.l, kind), 1, len(c.l), 1, c.want)
		}
		folded(t, c.f, c.l, 1, len(c.l), 1)
		twice := slices.Concat(c.l, c.l)
		folded(t, c.f, twice, 2, len(c.l), 1)
		folded(t, c.f, list(len(twice), func(i int) float64 { return c.l[i/2] }), 1, len(c.l), 2)
	}
	wholes := []float64{top, -top, top - 1, 1 - top, 1, -1, 3, 5}
	for seed := range 300 {
		for _, f := range []int{arith.Add, arith.Sub, arith.Max, arith.Min, arith.Rest} {
			folded(t, f, steps(wholes, 2+seed%12, seed), 1, 2+seed%12, 1)
		}
		folded(t, arith.Mul, steps([]float64{94906265, 94906267, -3, 5, 46341, -1}, 2+seed%12, seed), 1, 2+seed%12, 1)
	}
}

// One row without a result is enough, whichever it is; and one place of it.
func TestFoldWithoutAResult(t *testing.T) {
	for _, sizes := range [][3]int{{3, 4, 1}, {1, 4, 3}, {2, 3, 2}, {3, 64, 1}, {1, 2, 64}, {2, 65, 1}} {
		size := sizes[0] * sizes[1] * sizes[2]
		for at := range size {
			for _, f := range truths {
				for _, x := range []float64{2, -1, 300, 0.5} {
					l := with(flags(size, at), at, x)
					for kind := least(l); kind <= api.Float; kind++ {
						refused(t, f, made(t, l, kind), sizes[0], sizes[1], sizes[2], api.ErrDomain)
					}
				}
			}
			for f, x := range map[int]float64{arith.Rest: 0.5, arith.Power: 0.5, arith.Add: huge, arith.Mul: huge} {
				folded(t, f, with(same(size, 3), at, x), sizes[0], sizes[1], sizes[2])
			}
			folded(t, arith.Div, with(same(size, 1), at, 0), sizes[0], sizes[1], sizes[2])
		}
	}
}

// Whether there is a result hangs on what comes of the elements from the end on.
func TestFoldWithoutAResultFromTheEnd(t *testing.T) {
	without := []struct {
		f int
		l []float64
	}{
		{arith.Div, []float64{1, 0}}, {arith.Div, []float64{0, 1, 0}}, {arith.Div, []float64{1, 0, 0, 0}}, {arith.Div, []float64{0, 0, 2, 0}}, {arith.Div, []float64{5, 0, 7}}, {arith.Add, []float64{-huge, huge, huge}}, {arith.Add, []float64{1, huge, huge}},
		{arith.Sub, []float64{0, -huge, huge}}, {arith.Sub, []float64{huge, huge, -huge}}, {arith.Mul, []float64{0, 1e200, 1e200}}, {arith.Power, []float64{1, 2, 10}}, {arith.Power, []float64{1, 2, -1}}, {arith.Rest, []float64{1, 0.5, 1}}, {arith.Rest, []float64{0.5, 1, 1}}, {arith.Power, []float64{0, 0, -1}},
		{logic.And, []float64{0, 2}}, {logic.And, []float64{2, 0}}, {logic.Or, []float64{1, 2}}, {logic.Or, []float64{2, 1}}, {logic.And, []float64{0, 0, 2}}, {logic.Or, []float64{2, 1, 1}}, {logic.Nand, []float64{0, 0.5, 1}}, {logic.Nor, []float64{1, 1, -1}}, {logic.And, []float64{1, 2}},
	}
	for _, c := range without {
		for kind := least(c.l); kind <= api.Float; kind++ {
			refused(t, c.f, made(t, c.l, kind), 1, len(c.l), 1, api.ErrDomain)
		}
		// Beside rows that have results, ahead of it and behind it.
		n, ones := len(c.l), same(len(c.l), 1)
		for at := range 3 {
			rows := [][]float64{ones, ones, ones}
			rows[at] = c.l
			refused(t, c.f, tight(t, slices.Concat(rows...)...), 3, n, 1, api.ErrDomain)
			refused(t, c.f, tight(t, list(3*n, func(i int) float64 { return rows[i%3][i/3] })...), 1, n, 3, api.ErrDomain)
		}
	}
	held(t, arith.Div, tight(t, 1, 0, 0), 1, 3, 1, 1)
	held(t, arith.Div, tight(t, 0, 1, 0, 0), 1, 4, 1, 0)
	held(t, arith.Div, tight(t, 6, 0, 0, 3), 1, 4, 1, 6)
	held(t, arith.Add, tight(t, huge, huge, -huge), 1, 3, 1, huge)
	held(t, arith.Mul, tight(t, 1e200, 1e200, 0), 1, 3, 1, 0)
	held(t, arith.Rest, tight(t, 2, 3, 0), 1, 3, 1, 0)
}

// The quotients of booleans: each row has a result just where its zeros allow it.
func TestFoldOfQuotientsOfBooleans(t *testing.T) {
	for _, n := range []int{63, 64, 65, 66, 128, 129} {
		for seed := range 20 {
			row := fine(arith.Div, []float64{0, 1}, n, seed)
			folded(t, arith.Div, row, 1, len(row), 1)
			for at := range row {
				foldedAs(t, arith.Div, with(row, at, 1-row[at]), api.Bit, 1, len(row), 1)
			}
		}
	}
}

// A number below 0 is told ahead of what the elements are.
func TestFoldOfNumbersBelowZero(t *testing.T) {
	for _, f := range append([]int{0, 9}, functions...) {
		for _, x := range below {
			for _, v := range []vec.Vec{vec.None(api.Number), tight(t, 7), tight(t, 1, 0.5), vec.None(api.Letter), vec.Chars([]rune("xy")), vec.None(api.Nested), boxes(1)[0], {}} {
				for _, y := range []int{0, 1, 2, -1} {
					for _, z := range []int{0, 1, 2, -3} {
						refused(t, f, v, x, y, z, api.ErrArg)
						refused(t, f, v, y, x, z, api.ErrArg)
						refused(t, f, v, y, z, x, api.ErrArg)
					}
				}
			}
		}
	}
}

// That there is no such function is told ahead of all other errors.
func TestFoldOfNoFunction(t *testing.T) {
	for _, f := range strange {
		for _, sizes := range [][3]int{{1, 1, 1}, {1, 2, 1}, {1, 0, 1}, {0, 2, 1}, {2, 3, 4}, {1, 64, 1}, {1, 2, 64}, {0, 0, 0}, {5, 0, 5}} {
			for _, v := range all(t, sizes[0]*sizes[1]*sizes[2]) {
				refused(t, f, v, sizes[0], sizes[1], sizes[2], api.ErrArg)
			}
		}
	}
}

// Each error, beside all those that come after it.
func TestOrderOfErrors(t *testing.T) {
	none, text, box := vec.None(api.Number), vec.Chars([]rune("xy")), boxes(2)[0]
	cases := []struct {
		f               int
		v               vec.Vec
		outer, n, inner int
		want            api.Errno
	}{
		{0, box, 1, 2, 1, api.ErrArg}, {9, box, 2, 1, 1, api.ErrArg}, {10, text, 1, 2, 1, api.ErrArg}, {17, text, 2, 1, 1, api.ErrArg}, {20, none, 1, 0, 1, api.ErrArg}, {25, tight(t, 1, 2), 1, 2, 1, api.ErrArg}, {25, tight(t, 7), 1, 1, 1, api.ErrArg},
		{logic.Nor, box, -1, 2, -1, api.ErrArg}, {logic.Nor, text, 1, -2, 1, api.ErrArg}, {logic.Nor, none, 1, 0, -1, api.ErrArg}, {logic.Nor, none, -1, 0, 1, api.ErrArg}, {logic.Nor, none, -1, 0, 0, api.ErrArg}, {logic.And, tight(t, 7), -1, 1, -1, api.ErrArg},
		{logic.And, box, 2, 1, 1, api.ErrDomain}, {logic.And, vec.None(api.Nested), 0, 1, 0, api.ErrDomain}, {logic.And, vec.None(api.Nested), 0, 0, 0, api.ErrDomain}, {logic.And, vec.None(api.Nested), 5, 0, 5, api.ErrDomain}, {logic.And, vec.None(api.Letter), 0, 2, 0, api.ErrDomain},
		{logic.And, vec.None(api.Letter), 1, 0, 1, api.ErrDomain}, {logic.Nor, none, 0, 0, 1, api.ErrDomain}, {logic.And, tight(t, 1, 2), 1, 2, 1, api.ErrDomain}, {arith.Add, text, 1, 2, 1, api.ErrDomain}, {relate.Equal, text, 1, 2, 1, api.ErrDomain},
	}
	for _, c := range cases {
		refused(t, c.f, c.v, c.outer, c.n, c.inner, c.want)
	}
}

// The chapter speaks of vectors that have the elements that the numbers tell of; a
// call ends all the same, and tells that the numbers are wrong.
func TestFoldOfNumbersThatAreNotOfTheVector(t *testing.T) {
	great := []int{most + 1, 1 << 21, 1 << 31, 1 << 32, 1<<32 + 1, 1 << 62, math.MaxInt}
	vectors := []vec.Vec{vec.None(api.Number), tight(t, 7), tight(t, 1, 0), tight(t, flags(128, 3)...), tight(t, 1, 0.5, 300, 2)}
	for _, f := range []int{arith.Add, arith.Sub, arith.Div, arith.Max, relate.Equal, logic.And} {
		for _, v := range vectors {
			for _, x := range great {
				for _, y := range []int{2, 3, 64, 1 << 31, 1 << 32, 1 << 62, math.MaxInt} {
					for _, z := range append([]int{1, 2, 64}, great...) {
						refused(t, f, v, x, y, z, api.ErrArg)
						refused(t, f, v, z, y, x, api.ErrArg)
						refused(t, f, v, z, x, y, api.ErrArg)
						refused(t, f, v, x, 0, z, api.ErrArg)
					}
				}
			}
			for _, sizes := range [][3]int{{1, 3, 1}, {2, 64, 2}, {1, 127, 1}, {1, 129, 1}, {1, 2, 65}, {1, 2, 63}, {3, 2, 1}, {most, most, 1}, {1, most, most}, {2, 0, most}, {most, 0, 2}, {1 << 10, 2, 1<<10 + 1}} {
				refused(t, f, v, sizes[0], sizes[1], sizes[2], api.ErrArg)
			}
		}
		for _, x := range great {
			refused(t, f, vec.None(api.Number), x, 0, 0, api.ErrArg)
			refused(t, f, vec.None(api.Number), 0, x, 0, api.ErrArg)
			refused(t, f, vec.None(api.Number), 0, 2, x, api.ErrArg)
		}
		refused(t, f, tight(t, 1), 1, 0, 1, api.ErrArg)
		refused(t, f, tight(t, 1), 0, 2, 0, api.ErrArg)
		refused(t, f, vec.None(api.Number), 1, 2, 1, api.ErrArg)
	}
}

// A vector without a kind has no elements, and they are numbers.
func TestFoldOfTheZeroValue(t *testing.T) {
	var none vec.Vec
	for _, f := range functions {
		held(t, f, none, 0, 2, 1)
		held(t, f, none, 3, 5, 0)
		if x, ok := start(f); ok {
			held(t, f, none, 1, 0, 2, x, x)
		} else {
			refused(t, f, none, 1, 0, 2, api.ErrDomain)
		}
		if z, err := fold.Fold(f, none, 0, 1, 0); err != api.OK || z.Kind() != 0 || z.Len() != 0 {
			t.Errorf("%s is %s, error %d", name(f, none, 0, 1, 0), told(z), err)
		}
	}
}

// What comes of numbers of a greater kind is of the least kind, and not that of the
// first result or of the elements.
func TestResultsAreOfTheLeastKind(t *testing.T) {
	cases := []struct {
		f        int
		l        []float64
		outer, n int
		kind     int
	}{
		{arith.Add, []float64{1, 1, 0, 1, 0, 0}, 2, 3, api.Small}, {arith.Add, []float64{1, 0, 0, 1, 0, 0}, 2, 3, api.Bit}, {arith.Add, []float64{0.5, 0.5}, 1, 2, api.Bit}, {arith.Sub, []float64{300, 299, 5, 5}, 2, 2, api.Bit},
		{arith.Mul, []float64{64, 2}, 1, 2, api.Int}, {arith.Mul, []float64{64, -2}, 1, 2, api.Small}, {arith.Add, []float64{127, 1, 0, 0}, 2, 2, api.Int}, {arith.Div, []float64{1, 1, 1, 2}, 2, 2, api.Float}, {arith.Div, []float64{4, 2, 6, 3}, 2, 2, api.Small},
		{arith.Add, []float64{top, 1, -1, top, top, 0}, 2, 3, api.Float}, {arith.Add, []float64{top, 1, -1}, 1, 3, api.Int}, {relate.Less, []float64{0.5, 300, top, -1.5}, 2, 2, api.Bit}, {arith.Max, []float64{1, -5, 0, -300}, 2, 2, api.Bit}, {arith.Min, []float64{1, -5, 0, 300}, 2, 2, api.Small},
		{arith.Power, []float64{0.5, 0, 300, 1}, 2, 2, api.Int}, {arith.Rest, []float64{2, 301, 300, 600}, 2, 2, api.Bit}, {arith.Add, []float64{huge, -huge}, 1, 2, api.Bit},
	}
	for _, c := range cases {
		for kind := least(c.l); kind <= api.Float; kind++ {
			v, err := fold.Fold(c.f, made(t, c.l, kind), c.outer, c.n, 1)
			if err != api.OK || v.Kind() != c.kind || !squeeze.Tight(v) {
				t.Errorf("function %d of %g as kind %d is %s, error %d, not of kind %d", c.f, c.l, kind, told(v), err, c.kind)
			}
		}
	}
	for _, f := range functions {
		for kind := range edges() {
			for seed := range 20 {
				v, err := fold.Fold(f, made(t, steps(edges()[kind], 12, seed), kind), 2, 3, 2)
				if err == api.OK && !squeeze.Tight(v) {
					t.Errorf("function %d is of kind %d, not %d", f, v.Kind(), squeeze.Least(v))
				}
			}
		}
	}
}

// samples lists vectors of 192 numbers of each kind.
func samples(t *testing.T) []vec.Vec {
	var z []vec.Vec
	for _, kind := range kinds {
		z = append(z, made(t, flags(192, kind), kind), made(t, same(192, 1), kind), made(t, steps(edges()[kind], 192, 3), kind))
	}
	return z
}

// Neither the arguments nor an earlier result change with what is done later.
func TestArgumentsAndResultsAreLeft(t *testing.T) {
	for _, v := range samples(t) {
		before, kind := v.Nums(), v.Kind()
		for _, f := range functions {
			for _, sizes := range [][3]int{{1, 192, 1}, {3, 64, 1}, {1, 3, 64}, {4, 4, 12}, {192, 1, 1}, {8, 1, 24}} {
				z, err := fold.Fold(f, v, sizes[0], sizes[1], sizes[2])
				want, wantedKind := z.Nums(), z.Kind()
				p, _ := z.Packed()
				clear(z.Nums())
				clear(p.Words())
				clear(p.Unpack())
				for _, g := range functions {
					fold.Fold(g, v, 2, 96, 1)
					fold.Fold(g, z, 1, z.Len(), 1)
					fold.Two(g, v, v)
					fold.Two(g, z, z)
				}
				if err == api.OK {
					wanted(t, name(f, v, sizes[0], sizes[1], sizes[2]), z, err, want, wantedKind)
				}
			}
		}
		if v.Kind() != kind || !slices.EqualFunc(v.Nums(), before, alike) {
			t.Errorf("an argument of kind %d became %s", kind, told(v))
		}
	}
}

// The lists that arguments were made of are their maker's, before and afterwards.
func TestListsOfArgumentsAreLeft(t *testing.T) {
	smalls, ints, floats, bools, chars := []int8{1, 0, 1, 99}, []int64{1, 0, 1, 99}, []float64{1, 0, 1, 99}, []bool{true, false, true, true}, []rune{1, 0, 1, 99}
	a, d := vec.Smalls(smalls[:3]), vec.Bits(bitvec.Pack(bools[:3]))
	b, _ := vec.Ints(ints[:3])
	c, _ := vec.Floats(floats[:3])
	var sums, left []vec.Vec
	for _, v := range []vec.Vec{a, b, c, d} {
		held(t, arith.Add, v, 1, 3, 1, 2)
		z, _ := fold.Fold(arith.Sub, v, 1, 3, 1)
		sums = append(sums, z)
		z, _ = fold.Fold(arith.Sub, v, 3, 1, 1)
		left = append(left, z)
	}
	text, _ := fold.Fold(arith.Add, vec.Chars(chars[:3]), 1, 1, 3)
	if !slices.Equal(smalls, []int8{1, 0, 1, 99}) || !slices.Equal(ints, []int64{1, 0, 1, 99}) || !slices.Equal(floats, []float64{1, 0, 1, 99}) || !slices.Equal(bools, []bool{true, false, true, true}) || !slices.Equal(chars, []rune{1, 0, 1, 99}) {
		t.Errorf("lists became %d, %d, %g, %v, %x", smalls, ints, floats, bools, chars)
	}
	clear(smalls)
	clear(ints)
	clear(floats)
	clear(bools)
	clear(chars)
	for i := range sums {
		wanted(t, "a sum", sums[i], api.OK, []float64{2}, api.Small)
		wanted(t, "what is left", left[i], api.OK, digits("101"), left[i].Kind())
	}
	if !slices.Equal(text.Text(), []rune{1, 0, 1}) {
		t.Errorf("characters became %x", text.Text())
	}
}

// Fold of rows of two elements is Two of their first and their second elements.
func TestFoldOfTwoIsTwo(t *testing.T) {
	for _, n := range []int{1, 2, 3, 63, 64, 65, 100} {
		for _, kind := range kinds {
			for seed := range 5 {
				l, m := steps(edges()[kind], n, seed), steps(edges()[kind], n, seed+9)
				both := made(t, slices.Concat(l, m), kind)
				for _, f := range functions {
					want, wantedErr := fold.Two(f, made(t, l, kind), made(t, m, kind))
					if wantedErr != api.OK {
						refused(t, f, both, 1, 2, n, wantedErr)
					} else {
						held(t, f, both, 1, 2, n, want.Nums()...)
					}
				}
			}
		}
	}
}

// P13.4

// In whatever kind the numbers are, the answer is the same.
func TestKindsHaveOneAnswer(t *testing.T) {
	for seed := range 40 {
		for _, sizes := range [][3]int{{1, 5, 1}, {2, 3, 4}, {1, 64, 1}, {3, 65, 1}, {1, 3, 64}, {2, 2, 70}, {1, 130, 1}} {
			size := sizes[0] * sizes[1] * sizes[2]
			for _, kind := range kinds {
				l := steps(edges()[kind], size, seed)
				for _, f := range functions {
					want, wantedErr := fold.Fold(f, made(t, l, kind), sizes[0], sizes[1], sizes[2])
					for other := kind + 1; other <= api.Float; other++ {
						v, err := fold.Fold(f, made(t, l, other), sizes[0], sizes[1], sizes[2])
						if err != wantedErr || v.Kind() != want.Kind() || !slices.EqualFunc(v.Nums(), want.Nums(), alike) {
							t.Errorf("%s of kind %d is %s, error %d, not %s, error %d", name(f, v, sizes[0], sizes[1], sizes[2]), other, told(v), err, told(want), wantedErr)
						}
					}
				}
			}
		}
	}
}

// The chapter's examples.

func TestExamples(t *testing.T) {
	held(t, arith.Sub, tight(t, 1, 2, 3, 4), 1, 4, 1, -2)
	held(t, arith.Add, tight(t, 1, 1, 0, 1, 0, 0), 2, 3, 1, 2, 1)
	held(t, arith.Add, tight(t, 1, 2, 3, 10, 20, 30), 1, 2, 3, 11, 22, 33)
	held(t, arith.Div, tight(t, 8, 4, 2), 1, 3, 1, 4)
	held(t, arith.Mul, tight(t), 1, 0, 1, 1)
	if x, ok := fold.Start(arith.Max); !ok || x != -math.MaxFloat64 {
		t.Errorf("Max starts with %g, %v", x, ok)
	}
	refused(t, logic.Nor, tight(t), 1, 0, 1, api.ErrDomain)
	refused(t, logic.And, tight(t, 1, 2), 1, 2, 1, api.ErrDomain)
	held(t, logic.And, tight(t, 7), 1, 1, 1, 7)
	held(t, arith.Add, tight(t, top, 1, -1), 1, 3, 1, top)
}
