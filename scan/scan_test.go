package scan_test

import (
	"cmp"
	"fmt"
	"math"
	"slices"
	"testing"

	"rebus/api"
	"rebus/arith"
	"rebus/bitvec"
	"rebus/fold"
	"rebus/logic"
	"rebus/relate"
	"rebus/scan"
	"rebus/squeeze"
	"rebus/vec"
)

// most is the greatest number of elements, top the greatest whole number, tiny the
// least number above 0, and huge the greatest one.
const (
	most = 1 << 20
	top  = 1 << 53
	tiny = math.SmallestNonzeroFloat64
	huge = math.MaxFloat64
)

// kinds lists the kinds of numbers, the least one first.
var kinds = []int{api.Bit, api.Small, api.Int, api.Float}

// reckoning, relations and truths list the functions of the three packages.
var (
	reckoning = []int{arith.Add, arith.Sub, arith.Mul, arith.Div, arith.Max, arith.Min, arith.Rest, arith.Power}
	relations = []int{relate.Less, relate.NotMore, relate.Equal, relate.NotLess, relate.More, relate.Unequal}
	truths    = []int{logic.And, logic.Or, logic.Nand, logic.Nor}
)

// functions lists all functions.
var functions = slices.Concat(reckoning, relations, truths)

// strange lists numbers that are no function's.
var strange = []int{
	0, 9, 10, 17, 18, 19, 20, 25, 26, 27, 31, 37, -1, -2, -8, -11, -16, -21, -24, 64 + 1, 128 + 21, 256 + 1, 256 + 11, 256 + 24,
	1<<16 + 1, 1<<16 + 23, 1<<32 + 1, 1<<32 + 12, 1<<32 + 24, 1<<62 + 21, math.MaxInt, math.MinInt, math.MinInt + 1, math.MinInt + 11, math.MinInt + 24,
}

// below lists numbers below 0.
var below = []int{-1, -2, -3, -64, -most, -1 << 32, -1<<32 + 1, math.MinInt, math.MinInt + 1}

// great lists numbers that are greater than any vector of the tests is long.
var great = []int{1 << 22, 1 << 31, 1 << 32, 1<<32 + 1, 1 << 62, 1<<62 + 1, math.MaxInt - 1, math.MaxInt}

// edges lists, for each kind, numbers of it, mostly such as no lesser kind holds.
func edges() map[int][]float64 {
	return map[int][]float64{
		api.Bit:   {0, 1},
		api.Small: {0, 1, -1, 2, -2, 3, 5, 10, 100, 127, -127, -128},
		api.Int:   {0, 1, -1, 2, 128, -129, 255, 256, 1023, -1023, 1024, 46341, 1 << 31, 1 << 32, 94906265, 94906266, top, top - 1, -top, 1 - top},
		api.Float: {0, 1, -1, 2, 0.5, -0.5, 0.25, 1.5, -1.5, tiny, -tiny, 1e-300, 1e200, -1e200, top + 2, -top - 2, 1 << 63, huge, -huge, math.Pi},
	}
}

// numbers lists all of them.
func numbers() []float64 {
	all := edges()
	return slices.Concat(all[api.Small], all[api.Int], all[api.Float])
}

// lists lists numbers that rows are made of.
func lists() [][]float64 {
	all := edges()
	return [][]float64{
		all[api.Bit], all[api.Small], all[api.Int], all[api.Float],
		{-5, 0, 1, 2, 3, 100, -100}, {1, 2, -1, 0.5, -0.5, 3, 0.25}, {top, top - 1, -top, 1 - top, 0, 1, -1}, {1, -1}, {0, 1, -1}, {2, 3, 5}, {0.1, 0.2, 0.3}, {1e16, 1, -1},
	}
}

// result is a number that came of an operation; ErrDomain, if it is not finite.
func result(x float64) (float64, api.Errno) {
	if math.IsInf(x, 0) || math.IsNaN(x) {
		return 0, api.ErrDomain
	}
	if x == 0 {
		return 0, api.OK
	}
	return x, api.OK
}

// model is what a function tells of two numbers.
func model(f int, a, b float64) (float64, api.Errno) {
	switch f {
	case arith.Add:
		return result(a + b)
	case arith.Sub:
		return result(a - b)
	case arith.Mul:
		return result(a * b)
	case arith.Div:
		if a == 0 && b == 0 {
			return 1, api.OK
		}
		return result(a / b)
	case arith.Max:
		return max(a, b), api.OK
	case arith.Min:
		return min(a, b), api.OK
	case arith.Rest:
		return rest(a, b)
	case arith.Power:
		return power(a, b)
	}
	if f >= logic.And {
		return judged(f, a, b)
	}
	return flag(related(f, cmp.Compare(a, b))), api.OK
}

// flag is 1 for true, and 0 for false.
func flag(b bool) float64 {
	if b {
		return 1
	}
	return 0
}

// related tells what a relation tells of two numbers by how they compare.
func related(f, order int) bool {
	switch f {
	case relate.Less:
		return order == -1
	case relate.NotMore:
		return order != 1
	case relate.Equal:
		return order == 0
	case relate.NotLess:
		return order != -1
	case relate.More:
		return order == 1
	}
	return order != 0
}

// judged is what a function of truths tells, by how many of the two are true.
func judged(f int, a, b float64) (float64, api.Errno) {
	if a != 0 && a != 1 || b != 0 && b != 1 {
		return 0, api.ErrDomain
	}
	switch f {
	case logic.And:
		return flag(a+b == 2), api.OK
	case logic.Or:
		return flag(a+b >= 1), api.OK
	case logic.Nand:
		return flag(a+b <= 1), api.OK
	}
	return flag(a+b == 0), api.OK
}

// whole tells whether a number is whole.
func whole(x float64) bool { return x == math.Trunc(x) && math.Abs(x) <= top }

// rest is the remainder of b modulo a, that is 0 or has the sign of a.
func rest(a, b float64) (float64, api.Errno) {
	if !whole(a) || !whole(b) {
		return 0, api.ErrDomain
	}
	if a == 0 {
		return b, api.OK
	}
	z := math.Mod(b, a)
	if z != 0 && math.Signbit(z) != math.Signbit(a) {
		z += a
	}
	return result(z)
}

// power goes by the steps of the chapter of numbers.
func power(a, b float64) (float64, api.Errno) {
	if !whole(b) || math.Abs(b) > 1023 {
		return 0, api.ErrDomain
	}
	out, x := 1.0, a
	for k := int(math.Abs(b)); k > 0; k /= 2 {
		if k%2 == 1 {
			out *= x
		}
		x *= x
	}
	if b < 0 && !math.IsInf(out, 0) {
		out = 1 / out
	}
	return result(out)
}

// reduced is what comes of a row of numbers, from the last one to the first.
func reduced(f int, row []float64) (float64, api.Errno) {
	z := row[len(row)-1]
	for _, x := range slices.Backward(row[:len(row)-1]) {
		y, err := model(f, x, z)
		if err != api.OK {
			return 0, err
		}
		z = y
	}
	return z, api.OK
}

// ofRow is what comes of a row of numbers up to each of them.
func ofRow(f int, row []float64) ([]float64, api.Errno) {
	z := make([]float64, len(row))
	for i := range row {
		x, err := reduced(f, row[:i+1])
		if err != api.OK {
			return nil, err
		}
		z[i] = x
	}
	return z, api.OK
}

// row tells the elements of the row j of the rows i that lie in one another.
func row[T any](l []T, i, j, n, inner int) []T {
	return list(n, func(k int) T { return l[(i*n+k)*inner+j] })
}

// models is what Scan must tell of a list, and of which kind.
func models(f int, l []float64, kind, outer, n, inner int) ([]float64, int, api.Errno) {
	if n <= 1 {
		return l, kind, api.OK
	}
	z := make([]float64, len(l))
	for i := range outer {
		for j := range inner {
			told, err := ofRow(f, row(l, i, j, n, inner))
			if err != api.OK {
				return nil, 0, err
			}
			for k, x := range told {
				z[(i*n+k)*inner+j] = x
			}
		}
	}
	return z, least(z), api.OK
}

// list makes n elements by a rule.
func list[T any](n int, rule func(i int) T) []T {
	l := make([]T, n)
	for i := range l {
		l[i] = rule(i)
	}
	return l
}

// steps lists n of the elements of a list, the same ones each time.
func steps[T any](l []T, n, seed int) []T {
	x := uint32(seed)
	return list(n, func(int) T {
		x = x*1664525 + 1013904223
		return l[int(x>>8)%len(l)]
	})
}

// flags makes n booleans, as numbers, the same ones each time.
func flags(n, seed int) []float64 { return steps([]float64{0, 1}, n, seed) }

// same makes n numbers that all equal x.
func same(n int, x float64) []float64 { return slices.Repeat([]float64{x}, n) }

// with makes a list of which one element is another one.
func with(l []float64, at int, x float64) []float64 {
	z := slices.Clone(l)
	z[at] = x
	return z
}

// across lays rows of one length side by side.
func across(rows [][]float64) []float64 {
	if len(rows) == 0 {
		return nil
	}
	return list(len(rows)*len(rows[0]), func(i int) float64 { return rows[i%len(rows)][i/len(rows)] })
}

// digits makes booleans, as numbers, of a text of 0s and 1s.
func digits(s string) []float64 {
	return list(len(s), func(i int) float64 { return float64(s[i] - '0') })
}

// least tells the least kind that numbers fit.
func least(l []float64) int {
	kind := api.Bit
	for _, x := range l {
		switch {
		case !whole(x):
			return api.Float
		case x < -128 || x > 127:
			kind = max(kind, api.Int)
		case x != 0 && x != 1 || len(l) > most:
			kind = max(kind, api.Small)
		}
	}
	return kind
}

// alike tells whether two numbers are the same, and neither of them a zero with a
// sign.
func alike(a, b float64) bool { return math.Float64bits(a) == math.Float64bits(b) }

// made makes a vector of a kind that numbers fit.
func made(t *testing.T, l []float64, kind int) vec.Vec {
	t.Helper()
	ok := true
	var v vec.Vec
	switch kind {
	case api.Bit:
		v = vec.Bits(bitvec.Pack(list(len(l), func(i int) bool { return l[i] == 1 })))
	case api.Small:
		v = vec.Smalls(list(len(l), func(i int) int8 { return int8(l[i]) }))
	case api.Int:
		v, ok = vec.Ints(list(len(l), func(i int) int64 { return int64(l[i]) }))
	default:
		v, ok = vec.Floats(l)
	}
	if !ok || v.Kind() != kind || !slices.EqualFunc(v.Nums(), l, alike) {
		t.Fatalf("the test can't make kind %d of %d numbers", kind, len(l))
	}
	return v
}

// tight makes a vector of the least kind.
func tight(t *testing.T, l ...float64) vec.Vec {
	t.Helper()
	return made(t, l, least(l))
}

// told tells a vector, for a report.
func told(v vec.Vec) string {
	switch {
	case v.Len() > 12:
		return fmt.Sprintf("%d elements of kind %d", v.Len(), v.Kind())
	case v.Class() == api.Letter:
		return fmt.Sprintf("%x of kind %d", v.Text(), v.Kind())
	case v.Class() == api.Nested:
		return fmt.Sprintf("%v of kind %d", v, v.Kind())
	}
	return fmt.Sprintf("%g of kind %d", v.Nums(), v.Kind())
}

// name tells a call of Scan, for a report.
func name(f int, v vec.Vec, outer, n, inner int) string {
	return fmt.Sprintf("function %d of %s as %d by %d by %d", f, told(v), outer, n, inner)
}

// wanted holds a result against numbers of a kind.
func wanted(t *testing.T, what string, v vec.Vec, err api.Errno, want []float64, kind int) {
	t.Helper()
	if err != api.OK || v.Class() != api.Number || v.Kind() != kind {
		t.Errorf("%s is error %d of kind %d and class %d, not of kind %d", what, err, v.Kind(), v.Class(), kind)
		return
	}
	got := v.Nums()
	if v.Len() != len(want) || len(got) != len(want) {
		t.Errorf("%s has %d elements, not %d", what, v.Len(), len(want))
		return
	}
	for i, x := range want {
		if !alike(got[i], x) || !alike(v.Num(i), x) {
			t.Errorf("%s has %g (%g) at %d, not %g", what, v.Num(i), got[i], i, x)
			return
		}
	}
	if p, ok := v.Packed(); ok != (kind == api.Bit) || !p.Tidy() {
		t.Errorf("%s is not tidy, or not packed", what)
	}
}

// alone checks an error, and that there is nothing beside it.
func alone(t *testing.T, what string, v vec.Vec, err, want api.Errno) {
	t.Helper()
	if err != want || v.Kind() != 0 || v.Class() != api.Number || v.Len() != 0 {
		t.Errorf("%s is error %d with %d elements of kind %d, not error %d alone", what, err, v.Len(), v.Kind(), want)
	}
}

// held holds Scan of a vector against numbers of the least kind.
func held(t *testing.T, f int, v vec.Vec, outer, n, inner int, want ...float64) {
	t.Helper()
	z, err := scan.Scan(f, v, outer, n, inner)
	wanted(t, name(f, v, outer, n, inner), z, err, want, least(want))
}

// refused checks an error of Scan, and that there is nothing beside it.
func refused(t *testing.T, f int, v vec.Vec, outer, n, inner int, want api.Errno) {
	t.Helper()
	z, err := scan.Scan(f, v, outer, n, inner)
	alone(t, name(f, v, outer, n, inner), z, err, want)
}

// scanned checks what Scan tells of a list of numbers, in each kind that holds them,
// and that it leaves them.
func scanned(t *testing.T, f int, l []float64, outer, n, inner int) {
	t.Helper()
	for kind := least(l); kind <= api.Float; kind++ {
		scannedAs(t, f, l, kind, outer, n, inner)
	}
}

// scannedAs checks what Scan tells of a list of numbers in a kind, and that it
// leaves them.
func scannedAs(t *testing.T, f int, l []float64, kind, outer, n, inner int) {
	t.Helper()
	v := made(t, l, kind)
	want, wantedKind, wantedErr := models(f, l, kind, outer, n, inner)
	z, err := scan.Scan(f, v, outer, n, inner)
	if wantedErr != api.OK {
		alone(t, name(f, v, outer, n, inner), z, err, wantedErr)
	} else {
		wanted(t, name(f, v, outer, n, inner), z, err, want, wantedKind)
	}
	if v.Kind() != kind || !slices.EqualFunc(v.Nums(), l, alike) {
		t.Errorf("%d numbers of kind %d became %s", len(l), kind, told(v))
	}
}

// sampled checks some of what Scan tells of a list of numbers that have results, in
// a kind: the elements of each row at some places.
func sampled(t *testing.T, f int, l []float64, kind, outer, n, inner int, places []int) {
	t.Helper()
	v := made(t, l, kind)
	z, err := scan.Scan(f, v, outer, n, inner)
	what := name(f, v, outer, n, inner)
	if err != api.OK || z.Len() != len(l) || !squeeze.Tight(z) {
		t.Errorf("%s is error %d, with %d elements of kind %d", what, err, z.Len(), z.Kind())
		return
	}
	got := z.Nums()
	for _, i := range slices.Compact([]int{0, outer / 2, outer - 1}) {
		for _, j := range slices.Compact([]int{0, inner / 2, inner - 1}) {
			row := row(l, i, j, n, inner)
			for _, k := range places {
				want, wantedErr := reduced(f, row[:k+1])
				if x := got[(i*n+k)*inner+j]; wantedErr != api.OK || !alike(x, want) {
					t.Errorf("%s has %g at %d of the row %d, %d, not %g, error %d", what, x, k, i, j, want, wantedErr)
					return
				}
			}
		}
	}
}

// fine makes a row of at most n of the numbers of a list, up to each of which there
// is a result of a function.
func fine(f int, l []float64, n, seed int) []float64 {
	var z []float64
	for i, x := range steps(l, n, seed) {
		at := slices.Index(l, x)
		k := slices.IndexFunc(list(len(l), func(k int) float64 { return l[(at+k)%len(l)] }), func(x float64) bool {
			_, err := reduced(f, append(z[:i:i], x))
			return err == api.OK
		})
		if k < 0 {
			return z
		}
		z = append(z, l[(at+k)%len(l)])
	}
	return z
}

// texts lists vectors of n characters, among them such as stand for 0 and 1.
func texts(n int) []vec.Vec {
	var l []vec.Vec
	for _, c := range []rune{0, 1, '0', '1', ' ', -1} {
		l = append(l, vec.Chars(slices.Repeat([]rune{c}, n)))
	}
	return l
}

// boxes lists vectors of n boxes, among them such as contain a number.
func boxes(n int) []vec.Vec {
	one := vec.Bits(bitvec.Make(1, true))
	return []vec.Vec{
		vec.Boxes(make([]vec.Array, n)), vec.Boxes(slices.Repeat([]vec.Array{{V: one}}, n)),
		vec.Boxes(slices.Repeat([]vec.Array{{Shape: []int{1}, V: one}}, n)), vec.Boxes(slices.Repeat([]vec.Array{{Shape: []int{0}, V: vec.None(api.Number)}}, n)),
	}
}

// ofNumbers lists vectors of n numbers in all kinds that hold them.
func ofNumbers(t *testing.T, n int) []vec.Vec {
	var l []vec.Vec
	for _, x := range []float64{0, 1, -1, 2, 300, 0.5} {
		for kind := least([]float64{x}); kind <= api.Float; kind++ {
			l = append(l, made(t, same(n, x), kind))
		}
	}
	return l
}

// all lists vectors of n elements, of all classes.
func all(t *testing.T, n int) []vec.Vec {
	return slices.Concat(texts(n), boxes(n), ofNumbers(t, n))
}

// patterns lists rows of n booleans: such as any function may end at any place of.
func patterns(n int) [][]float64 {
	l := [][]float64{same(n, 0), same(n, 1), flags(n, n), flags(n, n+1), list(n, func(i int) float64 { return float64(i % 2) }), list(n, func(i int) float64 { return float64(1 - i%2) })}
	for _, at := range []int{0, 1, 2, n / 2, 62, 63, 64, 65, n - 3, n - 2, n - 1} {
		if at >= 0 && at < n {
			l = append(l, with(same(n, 0), at, 1), with(same(n, 1), at, 0))
		}
	}
	return l
}

// withResults lists those of some rows that a function has results for.
func withResults(f int, rows [][]float64) [][]float64 {
	var l [][]float64
	for _, row := range rows {
		if _, err := ofRow(f, row); err == api.OK {
			l = append(l, row)
		}
	}
	return l
}

// P14.1

func TestScanWithResults(t *testing.T) {
	cases := []struct {
		f       int
		l, want []float64
	}{
		{1, []float64{1, 2, 3, 4}, []float64{1, 3, 6, 10}}, {1, []float64{-1, 0.5, 0.25}, []float64{-1, -0.5, -0.25}}, {2, []float64{1, 2, 3, 4, 5}, []float64{1, -1, 2, -2, 3}}, {2, []float64{0, 1, 0.5}, []float64{0, -1, -0.5}},
		{3, []float64{2, -3, 5, 0, 7}, []float64{2, -6, -30, 0, 0}}, {3, []float64{0.5, 3, -2}, []float64{0.5, 1.5, -3}}, {4, []float64{8, 4, 2}, []float64{8, 2, 4}}, {4, []float64{0, 0, 0}, []float64{0, 1, 0}}, {4, []float64{6, 3, 2, 4}, []float64{6, 2, 4, 1}},
		{5, []float64{-3, -5, 0.5, 0, 2}, []float64{-3, -3, 0.5, 0.5, 2}}, {6, []float64{3, 5, 0.5, 1, -2}, []float64{3, 3, 0.5, 0.5, -2}}, {7, []float64{3, 7, 5}, []float64{3, 1, 2}}, {7, []float64{0, 5, 7, 3}, []float64{0, 5, 2, 3}}, {7, []float64{5, 3, 7}, []float64{5, 3, 1}},
		{8, []float64{2, 3, 2}, []float64{2, 8, 512}}, {8, []float64{4, 3, 2, 0}, []float64{4, 64, 262144, 64}}, {8, []float64{2, -1}, []float64{2, 0.5}}, {8, []float64{0.5, 2, 0}, []float64{0.5, 0.25, 0.5}},
		{11, []float64{5, 7, 2}, []float64{5, 1, 0}}, {11, []float64{-1, 0, 1, 9, 10}, []float64{-1, 1, 1, 1, 1}}, {12, []float64{5, 3, 2, 2}, []float64{5, 0, 0, 0}}, {12, []float64{0.5, 2, 1, 1}, []float64{0.5, 1, 0, 0}},
		{13, []float64{3, 3, 3, 1}, []float64{3, 1, 0, 0}}, {13, []float64{1, 4, 4, 4}, []float64{1, 0, 1, 0}}, {14, []float64{2, 0, 3, 3}, []float64{2, 1, 1, 1}}, {14, []float64{0, 2, 3, 3}, []float64{0, 0, 1, 0}}, {15, []float64{2, 1, 0, 5}, []float64{2, 1, 1, 1}},
		{15, []float64{1, 0, 5, 3}, []float64{1, 1, 1, 1}}, {15, []float64{1, 5, 3}, []float64{1, 0, 0}}, {16, []float64{0, 4, 4}, []float64{0, 1, 0}}, {16, []float64{1, 4, 5, 5}, []float64{1, 1, 0, 0}},
		{21, digits("1101"), digits("1100")}, {22, digits("0010"), digits("0011")}, {23, digits("1110"), digits("1011")}, {23, digits("01010"), digits("01111")}, {24, digits("00100"), digits("01100")}, {24, digits("1010"), digits("1000")},
	}
	for _, c := range cases {
		for kind := least(c.l); kind <= api.Float; kind++ {
			held(t, c.f, made(t, c.l, kind), 1, len(c.l), 1, c.want...)
			twice := list(2*len(c.l), func(i int) float64 { return c.l[i/2] })
			held(t, c.f, made(t, twice, kind), 1, len(c.l), 2, list(2*len(c.l), func(i int) float64 { return c.want[i/2] })...)
			held(t, c.f, made(t, slices.Repeat(c.l, 3), kind), 3, len(c.l), 1, slices.Repeat(c.want, 3)...)
		}
	}
}

// All rows of up to seven booleans, each alone, and all of them that have results
// together: row by row, and as rows that lie side by side.
func TestScanOfAllShortRows(t *testing.T) {
	for n := 1; n <= 7; n++ {
		rows := list(1<<n, func(k int) []float64 { return list(n, func(i int) float64 { return float64(k >> i & 1) }) })
		for _, f := range functions {
			for _, row := range rows {
				scanned(t, f, row, 1, n, 1)
			}
			good := withResults(f, rows)
			scanned(t, f, slices.Concat(good...), len(good), n, 1)
			scanned(t, f, across(good), 1, n, len(good))
		}
	}
}

// Rows of each least kind, and of all kinds, of several lengths: of any numbers,
// and of such as have results.
func TestScanOfRows(t *testing.T) {
	for seed, n := range []int{2, 3, 4, 5, 8, 13, 30, 63, 64, 65} {
		for _, f := range functions {
			for i, l := range lists() {
				scanned(t, f, steps(l, n, seed+10*i), 1, n, 1)
				row := fine(f, l, n, seed+10*i+1)
				scanned(t, f, row, 1, len(row), 1)
			}
		}
	}
}

// Each number with each other one.
func TestScanOfPairs(t *testing.T) {
	for _, f := range functions {
		for _, a := range numbers() {
			for _, b := range numbers() {
				scanned(t, f, []float64{a, b}, 1, 2, 1)
			}
		}
	}
}

// All rows of three and of four of some numbers, of which some have no result.
func TestScanOfFewNumbers(t *testing.T) {
	for _, l := range [][]float64{{0, 1, -1}, {0, 1, 2}, {0, 0.5, 1}, {-2, 3, 0}, {top, -top, 1}, {94906267, -1, 0}, {huge, -huge, 0}} {
		for n := 3; n <= 4; n++ {
			for k := range 81 {
				row := list(n, func(i int) float64 { return l[[]int{k, k / 3, k / 9, k / 27}[i]%3] })
				for _, f := range functions {
					scanned(t, f, row, 1, n, 1)
				}
			}
		}
	}
}

// Rows that lie in one another: inner elements apart, and outer times as many.
func TestScanOfRowsInOneAnother(t *testing.T) {
	for outer := range 5 {
		for n := 2; n < 7; n++ {
			for inner := range 5 {
				size := outer * n * inner
				lists := [][]float64{
					flags(size, size), steps([]float64{1, 2, 3, -1, -2, 5}, size, n), steps([]float64{1, 0.5, -2, 0.25}, size, n+1),
					steps([]float64{1000, 7, -3000, 12}, size, n+2), list(size, func(i int) float64 { return float64(i + 1) }), same(size, 1), steps([]float64{0, 1, 3}, size, n+3),
				}
				for _, l := range lists {
					for _, f := range functions {
						scanned(t, f, l, outer, n, inner)
					}
				}
			}
		}
	}
}

// Of numbers that tell their place, each row has those of its own.
func TestScanTakesTheElementsOfARow(t *testing.T) {
	l := list(24, func(i int) float64 { return float64(i) })
	held(t, arith.Max, tight(t, l...), 2, 3, 4, l...)
	held(t, arith.Min, tight(t, l...), 2, 3, 4, 0, 1, 2, 3, 0, 1, 2, 3, 0, 1, 2, 3, 12, 13, 14, 15, 12, 13, 14, 15, 12, 13, 14, 15)
	held(t, arith.Sub, tight(t, l...), 2, 3, 4, 0, 1, 2, 3, -4, -4, -4, -4, 4, 5, 6, 7, 12, 13, 14, 15, -4, -4, -4, -4, 16, 17, 18, 19)
	held(t, arith.Sub, tight(t, l...), 4, 3, 2, 0, 1, -2, -2, 2, 3, 6, 7, -2, -2, 8, 9, 12, 13, -2, -2, 14, 15, 18, 19, -2, -2, 20, 21)
	held(t, arith.Add, tight(t, l[:6]...), 1, 2, 3, 0, 1, 2, 3, 5, 7)
	held(t, arith.Add, tight(t, l[:6]...), 3, 2, 1, 0, 1, 2, 5, 4, 9)
	held(t, relate.Less, tight(t, l...), 3, 2, 4, 0, 1, 2, 3, 1, 1, 1, 1, 8, 9, 10, 11, 1, 1, 1, 1, 16, 17, 18, 19, 1, 1, 1, 1)
}

// The element at the beginning of a row is left as it is, by any function: nothing
// is done to it alone.
func TestScanLeavesTheFirstElement(t *testing.T) {
	for _, f := range append(slices.Clone(relations), arith.Add, arith.Mul, arith.Max, arith.Min) {
		for _, x := range []float64{0, 1, 2, -1, 127, -128, 300, top, -top, 0.5, -0.25, tiny, 1e300} {
			for n := 2; n < 5; n++ {
				v := tight(t, with(same(n, 0), 0, x)...)
				z, err := scan.Scan(f, v, 1, n, 1)
				if err != api.OK || z.Len() != n || !alike(z.Num(0), x) {
					t.Errorf("%s is %s, error %d", name(f, v, 1, n, 1), told(z), err)
				}
			}
		}
	}
	held(t, relate.Equal, tight(t, 0.5, 0.5, 7, 7), 2, 2, 1, 0.5, 1, 7, 1)
	held(t, relate.Equal, tight(t, 300, 0.5, 300, 7), 1, 2, 2, 300, 0.5, 1, 0)
}

// The elements up to a place are put together from the last one of them.
func TestScanStartsFromTheEndEachTime(t *testing.T) {
	cases := []struct {
		f       int
		l, want []float64
	}{
		{arith.Sub, []float64{10, 1, 1, 1}, []float64{10, 9, 10, 9}}, {arith.Div, []float64{1, 0, 0}, nil}, {arith.Div, []float64{16, 8, 4, 2}, []float64{16, 2, 8, 4}}, {arith.Add, []float64{1e16, 1, 1}, []float64{1e16, 1e16, 1e16 + 2}}, {arith.Add, []float64{1, 1, 1e16}, []float64{1, 2, 1e16}},
		{arith.Mul, []float64{0.1, 0.2, 0.3}, []float64{0.1, 0.020000000000000004, 0.006}}, {arith.Power, []float64{2, 2, 3}, []float64{2, 4, 256}}, {arith.Rest, []float64{4, 7, 9}, []float64{4, 3, 2}}, {relate.Less, []float64{2, 1, 5}, []float64{2, 0, 0}}, {relate.Less, []float64{0, 1, 5}, []float64{0, 1, 1}},
		{relate.More, []float64{1, 1, 1, 1}, []float64{1, 0, 1, 0}}, {relate.NotLess, []float64{0, 0, 0, 0}, []float64{0, 1, 0, 1}}, {relate.NotMore, []float64{1, 0, 1}, []float64{1, 0, 1}}, {logic.Nand, []float64{1, 1, 0, 0}, []float64{1, 0, 0, 1}}, {logic.Nor, []float64{0, 0, 1, 0}, []float64{0, 1, 1, 0}},
	}
	for _, c := range cases {
		for kind := least(c.l); kind <= api.Float; kind++ {
			if c.want == nil {
				refused(t, c.f, made(t, c.l, kind), 1, len(c.l), 1, api.ErrDomain)
				continue
			}
			held(t, c.f, made(t, c.l, kind), 1, len(c.l), 1, c.want...)
		}
	}
}

// Rows of no elements and of one are left as they are, of whatever kind, and
// whatever the function is: nothing is done to them.
func TestScanOfOneElement(t *testing.T) {
	for _, f := range functions {
		for _, sizes := range [][2]int{{1, 1}, {2, 3}, {6, 1}, {1, 6}, {0, 0}, {0, 3}, {3, 0}, {64, 1}, {1, 64}, {5, 13}, {0, math.MaxInt}, {math.MaxInt, 0}} {
			size := sizes[0] * sizes[1]
			for _, kind := range kinds {
				scannedAs(t, f, steps(edges()[kind], size, f), kind, sizes[0], 1, sizes[1])
			}
			scanned(t, f, flags(size, f), sizes[0], 1, sizes[1])
		}
		for _, sizes := range [][2]int{{0, 0}, {0, 1}, {1, 0}, {1, 1}, {2, 3}, {64, 1}, {1, 64}, {most, most}, {math.MaxInt, math.MaxInt}} {
			for _, kind := range kinds {
				scannedAs(t, f, nil, kind, sizes[0], 0, sizes[1])
			}
		}
	}
	held(t, logic.And, tight(t, 7), 1, 1, 1, 7)
	held(t, logic.Nor, tight(t, 0.5, -1), 2, 1, 1, 0.5, -1)
	held(t, arith.Power, tight(t, 0.5, -1), 1, 1, 2, 0.5, -1)
}

// Characters are left where rows have at most one element, and refused otherwise.
func TestScanOfCharacters(t *testing.T) {
	for _, f := range functions {
		for _, sizes := range [][3]int{{1, 1, 1}, {2, 1, 3}, {0, 1, 3}, {64, 1, 1}, {1, 0, 1}, {5, 0, 7}, {0, 0, 0}} {
			for _, v := range texts(sizes[0] * sizes[1] * sizes[2]) {
				z, err := scan.Scan(f, v, sizes[0], sizes[1], sizes[2])
				if err != api.OK || z.Kind() != api.Char || !slices.Equal(z.Text(), v.Text()) {
					t.Errorf("%s is %s, error %d", name(f, v, sizes[0], sizes[1], sizes[2]), told(z), err)
				}
			}
		}
		for _, sizes := range [][3]int{{1, 2, 1}, {0, 2, 1}, {2, 3, 4}, {1, 64, 1}, {1, 2, 64}, {0, 2, 64}, {3, 2, 0}, {0, math.MaxInt, 0}, {math.MaxInt, 2, 0}} {
			for _, v := range texts(sizes[0] * sizes[1] * sizes[2]) {
				refused(t, f, v, sizes[0], sizes[1], sizes[2], api.ErrDomain)
			}
		}
	}
}

// Boxes are refused, even where rows have at most one element.
func TestScanOfBoxes(t *testing.T) {
	for _, f := range functions {
		for _, sizes := range [][3]int{{1, 1, 1}, {2, 1, 3}, {0, 1, 0}, {1, 2, 1}, {1, 0, 1}, {0, 2, 1}, {0, 0, 0}, {5, 0, 7}, {2, 3, 4}, {1, 64, 1}, {1, 2, 64}, {math.MaxInt, 2, 0}} {
			for _, v := range boxes(sizes[0] * sizes[1] * sizes[2]) {
				refused(t, f, v, sizes[0], sizes[1], sizes[2], api.ErrDomain)
			}
		}
	}
}

// Where there are no rows, there are no results, however long the rows would be, and
// however many there are of them along an axis.
func TestScanOfNoRows(t *testing.T) {
	for _, f := range functions {
		for _, n := range append([]int{2, 3, 63, 64, 65, 1000, most}, great...) {
			for _, sizes := range [][2]int{{0, 0}, {0, 1}, {1, 0}, {0, 3}, {3, 0}, {0, 64}, {64, 0}, {0, most}, {most, 0}, {0, math.MaxInt}, {math.MaxInt, 0}, {1 << 62, 0}, {0, 1 << 62}} {
				for _, kind := range kinds {
					held(t, f, made(t, nil, kind), sizes[0], n, sizes[1])
				}
			}
		}
	}
}

// A vector without a kind has no elements, and they are numbers.
func TestScanOfTheZeroValue(t *testing.T) {
	var none vec.Vec
	for _, f := range functions {
		held(t, f, none, 0, 2, 1)
		held(t, f, none, 3, 5, 0)
		for n := range 2 {
			if z, err := scan.Scan(f, none, 0, n, 0); err != api.OK || z.Kind() != 0 || z.Len() != 0 {
				t.Errorf("%s is %s, error %d", name(f, none, 0, n, 0), told(z), err)
			}
		}
	}
}

func TestScanOfLongBooleans(t *testing.T) {
	lengths := []int{31, 32, 33, 60, 61, 62}
	for _, edge := range []int{64, 128, 192, 256} {
		lengths = append(lengths, edge-1, edge, edge+1)
	}
	for n := 66; n <= 130; n += 3 {
		lengths = append(lengths, n)
	}
	for _, n := range lengths {
		for _, row := range patterns(n) {
			for _, f := range functions {
				scannedAs(t, f, row, api.Bit, 1, n, 1)
			}
		}
	}
}

// Each place of a long row counts, wherever it is, and the parity of how many are
// ahead of it.
func TestScanOfLongBooleansUnlikeInOnePlace(t *testing.T) {
	for _, n := range []int{63, 64, 65, 66, 128, 129} {
		for at := range n {
			for _, f := range functions {
				scannedAs(t, f, with(same(n, 0), at, 1), api.Bit, 1, n, 1)
				scannedAs(t, f, with(same(n, 1), at, 0), api.Bit, 1, n, 1)
			}
		}
	}
}

// Two places of a long row count.
func TestScanOfLongBooleansUnlikeInTwoPlaces(t *testing.T) {
	for _, n := range []int{64, 66} {
		for at := range n {
			for other := at + 1; other < n; other += 3 {
				for _, f := range functions {
					scannedAs(t, f, with(with(same(n, 0), at, 1), other, 1), api.Bit, 1, n, 1)
					scannedAs(t, f, with(with(same(n, 1), at, 0), other, 0), api.Bit, 1, n, 1)
				}
			}
		}
	}
}

// Rows of booleans that lie one after the other, each of its own, where none begins
// with a word.
func TestScanOfLongRowsOfBooleans(t *testing.T) {
	for _, n := range []int{31, 62, 63, 64, 65, 66, 100, 127, 128, 129} {
		rows := patterns(n)
		for _, f := range functions {
			good := withResults(f, rows)
			for _, l := range [][][]float64{rows, good, rows[:2], good[len(good)-1:]} {
				scanned(t, f, slices.Concat(l...), len(l), n, 1)
			}
		}
	}
}

// Booleans of rows that lie side by side.
func TestScanOfBooleansSideBySide(t *testing.T) {
	for _, inner := range []int{2, 3, 31, 32, 62, 63, 64, 65, 66, 100, 127, 128, 129, 200} {
		for outer := range 4 {
			for n := 2; n < 6; n++ {
				size := outer * n * inner
				for _, l := range [][]float64{flags(size, size), flags(size, n), same(size, 0), same(size, 1)} {
					for _, f := range functions {
						scannedAs(t, f, l, api.Bit, outer, n, inner)
					}
				}
			}
		}
	}
	for _, f := range functions {
		for _, sizes := range [][3]int{{2, 64, 64}, {1, 65, 65}, {3, 63, 66}, {2, 100, 2}, {2, 2, 100}, {1, 129, 64}, {66, 2, 64}, {131, 3, 65}} {
			size := sizes[0] * sizes[1] * sizes[2]
			scanned(t, f, flags(size, f), sizes[0], sizes[1], sizes[2])
		}
		for _, n := range []int{3, 64, 65, 66} {
			good := withResults(f, patterns(n))
			scannedAs(t, f, across(slices.Concat(good, good, good, good, good)), api.Bit, 1, n, 5*len(good))
			scannedAs(t, f, across(good), api.Bit, 1, n, len(good))
		}
	}
}

// closed lists the functions that tell 0 or 1 of 0s and 1s.
func closed() []int {
	return slices.Concat([]int{arith.Mul, arith.Max, arith.Min, arith.Rest, arith.Power}, relations, truths)
}

// samplePlaces lists some places of a row of n elements, those about the edges of
// words among them.
func samplePlaces(n int) []int {
	l := []int{0, 1, 2, 62, 63, 64, 65, 127, 128, 129, 190, 191, 192, 193, n / 2, n - 66, n - 65, n - 64, n - 63, n - 3, n - 2, n - 1}
	return slices.DeleteFunc(l, func(i int) bool { return i < 0 || i >= n })
}

// Greater numbers of booleans, with what settles a row late, or nowhere.
func TestScanOfLongerBooleans(t *testing.T) {
	for _, n := range []int{319, 320, 321, 511, 512, 513, 1023, 1024, 1025, 4095, 4096, 4097} {
		for _, row := range [][]float64{same(n, 0), same(n, 1), flags(n, n), with(same(n, 0), n-2, 1), with(same(n, 1), n-2, 0), with(same(n, 0), n/2, 1), with(same(n, 1), n/2, 0)} {
			for _, f := range append(closed(), arith.Add, arith.Sub) {
				sampled(t, f, row, api.Bit, 1, n, 1, samplePlaces(n))
			}
		}
	}
}

// As many elements as there may be, in a row, in many rows and in rows that lie in
// one another.
func TestScanOfMany(t *testing.T) {
	for i, sizes := range [][3]int{{1, most, 1}, {1, most - 1, 1}, {2, most / 2, 1}, {1024, 1024, 1}, {1, 1024, 1024}, {64, 128, 128}, {most / 2, 2, 1}, {1, 2, most / 2}, {1, most / 2, 2}} {
		size := sizes[0] * sizes[1] * sizes[2]
		places := slices.Compact([]int{0, 1, sizes[1] / 2, sizes[1] - 1})
		mixed, ones := flags(size, 7), same(size, 1)
		for k, f := range append(closed(), arith.Add, arith.Sub) {
			if (i+k)%6 == 0 {
				sampled(t, f, mixed, api.Bit, sizes[0], sizes[1], sizes[2], places)
				sampled(t, f, ones, api.Bit+i%4, sizes[0], sizes[1], sizes[2], places)
			}
		}
		sampled(t, arith.Div, ones, api.Bit, sizes[0], sizes[1], sizes[2], places)
		f := []int{arith.Add, arith.Sub, arith.Max, arith.Min, relate.Less, relate.Unequal}[i%6]
		sampled(t, f, steps([]float64{-3, 0, 1, 100}, size, 7), api.Small, sizes[0], sizes[1], sizes[2], places)
		sampled(t, arith.Mul, steps([]float64{-1, 1}, size, 7), api.Small, sizes[0], sizes[1], sizes[2], places)
	}
}

// More elements than a vector of booleans holds are scanned as well; if all results
// are 0 or 1, the least kind that holds so many is Small.
func TestScanOfMoreThanBooleansHold(t *testing.T) {
	n := most + 1
	v := made(t, same(n, 1), api.Small)
	for _, f := range []int{arith.Max, arith.Div, logic.And, relate.Equal} {
		held(t, f, v, 1, n, 1, same(n, 1)...)
	}
	l := with(with(same(n, 1), 0, top), n-1, 5)
	held(t, arith.Max, made(t, l, api.Int), 1, n, 1, same(n, top)...)
	held(t, arith.Add, made(t, same(n, 3), api.Int), 1, n, 1, list(n, func(i int) float64 { return float64(3*i + 3) })...)
	// The sum of all of them is more than the greatest whole number.
	l = with(with(same(n, 0), 0, top), n-1, 3)
	held(t, arith.Add, made(t, l, api.Int), 1, n, 1, with(same(n, top), n-1, top+4)...)
	held(t, arith.Sub, made(t, same(2*n, 2), api.Small), n, 2, 1, list(2*n, func(i int) float64 { return float64(2 - i%2*2) })...)
}

// Whole numbers that come to more than 2^53 are rounded on the way, in whatever
// kind they are.
func TestScanBeyondTheGreatestWholeNumber(t *testing.T) {
	cases := []struct {
		f       int
		l, want []float64
	}{
		{arith.Add, []float64{top, 1, -1}, []float64{top, top, top}}, {arith.Add, []float64{-1, 1, top}, []float64{-1, 0, top - 1}}, {arith.Add, []float64{1, top, -top, 1}, []float64{1, top, 1, 2}}, {arith.Add, []float64{1, 1, top, -top}, []float64{1, 2, top, 2}},
		{arith.Add, []float64{top, -top, 1}, []float64{top, 0, 1}}, {arith.Add, []float64{-top, top, 3}, []float64{-top, 0, 4}}, {arith.Add, []float64{top, top, -top, -top}, []float64{top, 1 << 54, top, 0}}, {arith.Add, []float64{-top, -1, 2}, []float64{-top, -top, 1 - top}},
		{arith.Add, []float64{-1, top, 1, -1}, []float64{-1, top - 1, top - 1, top - 1}}, {arith.Add, []float64{-1, top, 2, -3}, []float64{-1, top - 1, top + 1, top - 2}}, {arith.Add, []float64{top - 1, 1, 1}, []float64{top - 1, top, top + 1}}, {arith.Add, []float64{top, 1, 1}, []float64{top, top, top + 2}},
		{arith.Sub, []float64{top, -1, -1}, []float64{top, top, top}}, {arith.Sub, []float64{top, top, top}, []float64{top, 0, top}}, {arith.Sub, []float64{top, -top, -top}, []float64{top, 1 << 54, top}}, {arith.Sub, []float64{-top, 1, 2}, []float64{-top, -top, 1 - top}}, {arith.Sub, []float64{1, -top, 1, 1}, []float64{1, top, top, top}},
		{arith.Mul, []float64{0, top, 2}, []float64{0, 0, 0}}, {arith.Mul, []float64{0, top, top, top}, []float64{0, 0, 0, 0}}, {arith.Mul, []float64{3, 1 << 27, 1 << 27, 0, 5}, []float64{3, 3 << 27, 3 << 54, 0, 0}}, {arith.Mul, []float64{94906267, 94906267, -1}, []float64{94906267, 9007199515875288, -9007199515875288}},
		{arith.Mul, []float64{-1, 94906267, 94906267, 3}, nil}, {arith.Mul, []float64{3, 5, top}, nil}, {arith.Mul, []float64{-1, -top, -1}, []float64{-1, top, -top}}, {arith.Rest, []float64{top, 5, 7}, []float64{top, 5, 2}}, {arith.Rest, []float64{7, top, 5}, nil},
	}
	for _, c := range cases {
		want, err := ofRow(c.f, c.l)
		if err != api.OK || c.want != nil && !slices.Equal(want, c.want) {
			t.Errorf("the test holds function %d of %.17g against %.17g, not %.17g", c.f, c.l, c.want, want)
		}
		scanned(t, c.f, c.l, 1, len(c.l), 1)
		scanned(t, c.f, slices.Repeat(c.l, 2), 2, len(c.l), 1)
		scanned(t, c.f, list(2*len(c.l), func(i int) float64 { return c.l[i/2] }), 1, len(c.l), 2)
	}
}

// Sums and products of whole numbers that come to more than 2^53 on the way, and
// back.
func TestScanOfGreatWholeNumbers(t *testing.T) {
	lists := [][]float64{
		{top, -top, top - 1, 1 - top, 1, -1, 3, 5}, {top / 2, -top / 2, top/2 + 1, -1, 1, 3}, {top - 3, 1, 2, -1, -2, 0}, {3 - top, 1, 2, -1, -2, 0}, {top / 4, top/4 + 1, -top / 4, 1, 3},
	}
	factors := [][]float64{{94906265, 94906267, -3, 5, 46341, -1}, {1 << 26, 1<<26 + 1, 0, -1, 2, 1}, {-1, 1, 0, 3, top}, {1 << 27, -1 << 26, 3, 1}}
	for seed := range 200 {
		n := 2 + seed%12
		for _, l := range lists {
			for _, f := range []int{arith.Add, arith.Sub, arith.Max, arith.Min, arith.Rest} {
				scanned(t, f, steps(l, n, seed), 1, n, 1)
			}
		}
		for _, l := range factors {
			scanned(t, arith.Mul, steps(l, n, seed), 1, n, 1)
		}
	}
}

// Sums of which just the last one, or just one on the way of it, exceeds 2^53: by
// one, by two, or not at all.
func TestScanAboutTheGreatestWholeNumber(t *testing.T) {
	for _, ahead := range [][]float64{{}, {0}, {-1}, {-2}, {1}, {1, 1}, {-1, 1}, {1, -1}, {-1, -1, 1}} {
		for _, x := range []float64{top - 2, top - 1, top, 2 - top, 1 - top, -top} {
			for _, behind := range [][]float64{{0}, {1}, {-1}, {2}, {-2}, {3}, {-3}, {1, 1}, {-1, -1}, {1, -1}, {-1, 1}, {1, -1, 1}, {2, -3, 1}, {-x}, {-x, 1}, {-x, x}, {-x, 1, x}} {
				l := slices.Concat(ahead, []float64{x}, behind)
				scanned(t, arith.Add, l, 1, len(l), 1)
				scanned(t, arith.Sub, l, 1, len(l), 1)
				scanned(t, arith.Sub, list(len(l), func(i int) float64 { return unsigned(l[i] * float64(1-i%2*2)) }), 1, len(l), 1)
			}
		}
	}
}

// unsigned is a number without the sign of a zero.
func unsigned(x float64) float64 {
	z, _ := result(x)
	return z
}

// One row without a result is enough, whichever it is; and one place of it.
func TestScanWithoutAResult(t *testing.T) {
	for _, sizes := range [][3]int{{3, 4, 1}, {1, 4, 3}, {2, 3, 2}, {3, 64, 1}, {1, 2, 64}, {2, 65, 1}} {
		size := sizes[0] * sizes[1] * sizes[2]
		for at := range size {
			for _, f := range truths {
				for _, x := range []float64{2, -1, 300, 0.5} {
					l := with(flags(size, at), at, x)
					for kind := least(l); kind <= api.Float; kind++ {
						refused(t, f, made(t, l, kind), sizes[0], sizes[1], sizes[2], api.ErrDomain)
					}
				}
			}
			for f, x := range map[int]float64{arith.Rest: 0.5, arith.Power: 0.5, arith.Add: huge, arith.Mul: huge} {
				scanned(t, f, with(same(size, 3), at, x), sizes[0], sizes[1], sizes[2])
			}
			scanned(t, arith.Div, with(same(size, 1), at, 0), sizes[0], sizes[1], sizes[2])
		}
	}
}

// One place without a result is enough, though there is one further behind: a row is
// refused by what comes of its elements up to any of them.
func TestScanWithoutAResultOnTheWay(t *testing.T) {
	without := []struct {
		f int
		l []float64
	}{
		{arith.Div, []float64{1, 0}}, {arith.Div, []float64{1, 0, 0}}, {arith.Div, []float64{0, 1, 0, 0}}, {arith.Div, []float64{6, 0, 0, 3}}, {arith.Div, []float64{5, 0, 7}}, {arith.Add, []float64{huge, huge, -huge}}, {arith.Add, []float64{-huge, huge, huge}}, {arith.Add, []float64{1, huge, huge}},
		{arith.Sub, []float64{huge, -huge, -huge}}, {arith.Sub, []float64{0, -huge, huge}}, {arith.Mul, []float64{1e200, 1e200, 0}}, {arith.Mul, []float64{0, 1e200, 1e200}}, {arith.Mul, []float64{0, top, top, 1e300}}, {arith.Power, []float64{1, 2, 10}}, {arith.Power, []float64{1, 2, -1}}, {arith.Power, []float64{0, -1, 0}}, {arith.Power, []float64{2, 0.5, 0}},
		{arith.Rest, []float64{1, 0.5, 1}}, {arith.Rest, []float64{0.5, 1, 1}}, {arith.Rest, []float64{1, 1, 0.5}}, {arith.Rest, []float64{3, top + 2, 0}}, {logic.And, []float64{0, 2}}, {logic.And, []float64{2, 0}}, {logic.Or, []float64{1, 2, 1}}, {logic.Or, []float64{2, 1}}, {logic.And, []float64{0, 0, 2}}, {logic.Or, []float64{2, 1, 1}},
		{logic.Nand, []float64{0, 0.5, 1}}, {logic.Nor, []float64{1, 1, -1}}, {logic.And, []float64{1, 2}},
	}
	for _, c := range without {
		for kind := least(c.l); kind <= api.Float; kind++ {
			refused(t, c.f, made(t, c.l, kind), 1, len(c.l), 1, api.ErrDomain)
		}
		// Beside rows that have results, ahead of it and behind it.
		n, ones := len(c.l), same(len(c.l), 1)
		for at := range 3 {
			rows := [][]float64{ones, ones, ones}
			rows[at] = c.l
			refused(t, c.f, tight(t, slices.Concat(rows...)...), 3, n, 1, api.ErrDomain)
			refused(t, c.f, tight(t, across(rows)...), 1, n, 3, api.ErrDomain)
		}
	}
	held(t, arith.Div, tight(t, 0, 0, 0), 1, 3, 1, 0, 1, 0)
	held(t, arith.Add, tight(t, huge, -huge, huge), 1, 3, 1, huge, 0, huge)
	held(t, arith.Mul, tight(t, 1e200, 0, 1e200), 1, 3, 1, 1e200, 0, 0)
	held(t, arith.Rest, tight(t, 2, 3, 0), 1, 3, 1, 2, 1, 0)
}

// The quotients of booleans: each row has results just where its zeros allow it.
func TestScanOfQuotientsOfBooleans(t *testing.T) {
	for _, n := range []int{63, 64, 65, 66, 128, 129} {
		for zeros := range n + 1 {
			row := slices.Concat(same(zeros, 0), same(n-zeros, 1))
			scannedAs(t, arith.Div, row, api.Bit, 1, n, 1)
			for at := zeros + 1; at < n; at += 5 {
				refused(t, arith.Div, tight(t, with(row, at, 0)...), 1, n, 1, api.ErrDomain)
			}
		}
	}
}

// A number below 0 is told ahead of what the elements are.
func TestScanOfNumbersBelowZero(t *testing.T) {
	for _, f := range append([]int{0, 9}, functions...) {
		for _, x := range below {
			for _, v := range []vec.Vec{vec.None(api.Number), tight(t, 7), tight(t, 1, 0.5), vec.None(api.Letter), vec.Chars([]rune("xy")), vec.None(api.Nested), boxes(1)[0], {}} {
				for _, y := range []int{0, 1, 2, -1} {
					for _, z := range []int{0, 1, 2, -3} {
						refused(t, f, v, x, y, z, api.ErrArg)
						refused(t, f, v, y, x, z, api.ErrArg)
						refused(t, f, v, y, z, x, api.ErrArg)
					}
				}
			}
		}
	}
}

// That there is no such function is told ahead of all other errors.
func TestScanOfNoFunction(t *testing.T) {
	for _, f := range strange {
		for _, sizes := range [][3]int{{1, 1, 1}, {1, 2, 1}, {1, 0, 1}, {0, 2, 1}, {2, 3, 4}, {1, 64, 1}, {1, 2, 64}, {0, 0, 0}, {5, 0, 5}} {
			for _, v := range all(t, sizes[0]*sizes[1]*sizes[2]) {
				refused(t, f, v, sizes[0], sizes[1], sizes[2], api.ErrArg)
			}
		}
	}
	for f := -300; f <= 300; f++ {
		want := api.ErrArg
		if f >= 1 && f <= 8 || f >= 11 && f <= 16 || f >= 21 && f <= 24 {
			want = api.OK
		}
		for n := range 4 {
			if _, err := scan.Scan(f, tight(t, same(n, 1)...), 1, n, 1); err != want {
				t.Errorf("function %d of %d ones is error %d, not %d", f, n, err, want)
			}
		}
	}
}

// Each error, beside all those that come after it.
func TestOrderOfErrors(t *testing.T) {
	none, text, box := vec.None(api.Number), vec.Chars([]rune("xy")), boxes(2)[0]
	cases := []struct {
		f               int
		v               vec.Vec
		outer, n, inner int
		want            api.Errno
	}{
		{0, box, 1, 2, 1, api.ErrArg}, {9, box, 2, 1, 1, api.ErrArg}, {10, text, 1, 2, 1, api.ErrArg}, {17, text, 2, 1, 1, api.ErrArg}, {20, none, 1, 0, 1, api.ErrArg}, {25, tight(t, 1, 2), 1, 2, 1, api.ErrArg}, {25, tight(t, 7), 1, 1, 1, api.ErrArg},
		{logic.Nor, box, -1, 2, -1, api.ErrArg}, {logic.Nor, text, 1, -2, 1, api.ErrArg}, {logic.Nor, none, 1, 0, -1, api.ErrArg}, {logic.Nor, none, -1, 0, 1, api.ErrArg}, {logic.Nor, none, -1, 0, 0, api.ErrArg}, {logic.And, tight(t, 7), -1, 1, -1, api.ErrArg}, {logic.And, tight(t, 1, 2), -1, 2, -1, api.ErrArg},
		{logic.And, box, 2, 1, 1, api.ErrDomain}, {logic.And, vec.None(api.Nested), 0, 1, 0, api.ErrDomain}, {logic.And, vec.None(api.Nested), 0, 0, 0, api.ErrDomain}, {logic.And, vec.None(api.Nested), 5, 0, 5, api.ErrDomain}, {logic.And, vec.None(api.Nested), 0, 2, 0, api.ErrDomain}, {logic.And, vec.None(api.Letter), 0, 2, 0, api.ErrDomain},
		{logic.And, tight(t, 1, 2), 1, 2, 1, api.ErrDomain}, {arith.Add, text, 1, 2, 1, api.ErrDomain}, {relate.Equal, text, 1, 2, 1, api.ErrDomain},
	}
	for _, c := range cases {
		refused(t, c.f, c.v, c.outer, c.n, c.inner, c.want)
	}
}

// The chapter speaks of vectors that have the elements that the numbers tell of; a
// call ends all the same, and tells that the numbers are wrong.
func TestScanOfNumbersThatAreNotOfTheVector(t *testing.T) {
	vectors := []vec.Vec{vec.None(api.Number), tight(t, 7), tight(t, 1, 0), tight(t, flags(128, 3)...), tight(t, 1, 0.5, 300, 2), tight(t, list(12, func(i int) float64 { return float64(i) })...)}
	for _, f := range []int{arith.Add, arith.Sub, arith.Div, arith.Max, relate.Equal, logic.And} {
		for _, v := range vectors {
			for _, x := range great {
				for _, y := range []int{2, 3, 64, 1 << 31, 1 << 32, 1 << 62, math.MaxInt} {
					for _, z := range append([]int{1, 2, 64}, great...) {
						refused(t, f, v, x, y, z, api.ErrArg)
						refused(t, f, v, z, y, x, api.ErrArg)
						refused(t, f, v, z, max(x, 2), y, api.ErrArg)
					}
				}
			}
			for _, sizes := range [][3]int{{1, 3, 1}, {2, 64, 2}, {1, 127, 1}, {1, 129, 1}, {1, 2, 65}, {1, 2, 63}, {3, 2, 1}, {most, most, 1}, {1, most, most}, {1 << 10, 2, 1<<10 + 1}, {5, 2, 1}, {1, 5, 2}, {2, 5, 1}, {3, 3, 1}, {12, 2, 1}, {1, 24, 1}, {2, 2, 2}, {2, 2, 4}, {1, 2, 7}, {1, 2, 5}, {7, 2, 1}} {
				refused(t, f, v, sizes[0], sizes[1], sizes[2], api.ErrArg)
			}
		}
		for _, v := range vectors[1:] {
			for _, x := range append([]int{0, 1, 2, 64}, great...) {
				refused(t, f, v, 0, 2, x, api.ErrArg)
				refused(t, f, v, x, 2, 0, api.ErrArg)
			}
		}
		refused(t, f, vec.None(api.Number), 1, 2, 1, api.ErrArg)
	}
}

// What comes of numbers of a greater kind is of the least kind, and not that of the
// first result or of the elements.
func TestResultsAreOfTheLeastKind(t *testing.T) {
	cases := []struct {
		f        int
		l        []float64
		outer, n int
		kind     int
	}{
		{arith.Add, []float64{1, 1, 0, 1, 0, 0}, 2, 3, api.Small}, {arith.Add, []float64{1, 0, 0, 1, 0, 0}, 2, 3, api.Bit}, {arith.Add, []float64{0, 1, 0, -1}, 2, 2, api.Small}, {arith.Sub, []float64{1, 0, 1, 1}, 2, 2, api.Bit}, {arith.Sub, []float64{0, 1}, 1, 2, api.Small},
		{arith.Mul, []float64{64, 2}, 1, 2, api.Int}, {arith.Mul, []float64{64, -2}, 1, 2, api.Small}, {arith.Mul, []float64{1, 0, 0, 300}, 2, 2, api.Bit}, {arith.Add, []float64{127, 1, 0, 0}, 2, 2, api.Int}, {arith.Div, []float64{1, 1, 1, 2}, 2, 2, api.Float}, {arith.Div, []float64{4, 2, 6, 3}, 2, 2, api.Small},
		{arith.Add, []float64{top, 1, -1, top, top, 0}, 2, 3, api.Float}, {arith.Add, []float64{top, 1, -1}, 1, 3, api.Int}, {relate.Less, []float64{1, 300, 0, -1.5}, 2, 2, api.Bit}, {relate.Less, []float64{5, 300, 0, -1.5}, 2, 2, api.Small}, {relate.Equal, []float64{0.5, 0.5}, 1, 2, api.Float}, {arith.Max, []float64{1, -5, 0, -300}, 2, 2, api.Bit}, {arith.Min, []float64{1, 5, 0, 300}, 2, 2, api.Bit},
		{arith.Min, []float64{1, -5, 0, 300}, 2, 2, api.Small}, {arith.Power, []float64{1, 5, 300, 1}, 2, 2, api.Int}, {arith.Power, []float64{1, 5, 0, 7}, 2, 2, api.Bit}, {arith.Rest, []float64{1, 301, 0, 0}, 2, 2, api.Bit}, {arith.Add, []float64{1, -1, huge, -huge}, 2, 2, api.Float},
	}
	for _, c := range cases {
		for kind := least(c.l); kind <= api.Float; kind++ {
			v, err := scan.Scan(c.f, made(t, c.l, kind), c.outer, c.n, 1)
			if err != api.OK || v.Kind() != c.kind || !squeeze.Tight(v) {
				t.Errorf("function %d of %g as kind %d is %s, error %d, not of kind %d", c.f, c.l, kind, told(v), err, c.kind)
			}
		}
	}
}

// samples lists vectors of 192 numbers of each kind.
func samples(t *testing.T) []vec.Vec {
	var z []vec.Vec
	for _, kind := range kinds {
		z = append(z, made(t, flags(192, kind), kind), made(t, same(192, 1), kind), made(t, steps(edges()[kind], 192, 3), kind))
	}
	return z
}

// Neither the arguments nor an earlier result change with what is done later.
func TestArgumentsAndResultsAreLeft(t *testing.T) {
	for _, v := range samples(t) {
		before, kind := v.Nums(), v.Kind()
		for _, f := range functions {
			for _, sizes := range [][3]int{{1, 192, 1}, {3, 64, 1}, {1, 3, 64}, {4, 4, 12}, {192, 1, 1}, {8, 1, 24}} {
				z, err := scan.Scan(f, v, sizes[0], sizes[1], sizes[2])
				want, wantedKind := z.Nums(), z.Kind()
				p, _ := z.Packed()
				clear(z.Nums())
				clear(p.Words())
				clear(p.Unpack())
				for _, g := range functions {
					scan.Scan(g, v, 2, 96, 1)
					scan.Scan(g, v, 1, 3, 64)
					scan.Scan(g, z, 1, z.Len(), 1)
				}
				if err == api.OK {
					wanted(t, name(f, v, sizes[0], sizes[1], sizes[2]), z, err, want, wantedKind)
				}
			}
		}
		if v.Kind() != kind || !slices.EqualFunc(v.Nums(), before, alike) {
			t.Errorf("an argument of kind %d became %s", kind, told(v))
		}
	}
}

// The lists that arguments were made of are their maker's, before and afterwards.
func TestListsOfArgumentsAreLeft(t *testing.T) {
	smalls, ints, floats, bools, chars := []int8{1, 0, 1, 99}, []int64{1, 0, 1, 99}, []float64{1, 0, 1, 99}, []bool{true, false, true, true}, []rune{1, 0, 1, 99}
	a, d := vec.Smalls(smalls[:3]), vec.Bits(bitvec.Pack(bools[:3]))
	b, _ := vec.Ints(ints[:3])
	c, _ := vec.Floats(floats[:3])
	var sums, left []vec.Vec
	for _, v := range []vec.Vec{a, b, c, d} {
		z, _ := scan.Scan(arith.Sub, v, 1, 3, 1)
		sums = append(sums, z)
		z, _ = scan.Scan(arith.Sub, v, 3, 1, 1)
		left = append(left, z)
	}
	text, _ := scan.Scan(arith.Add, vec.Chars(chars[:3]), 1, 1, 3)
	if !slices.Equal(smalls, []int8{1, 0, 1, 99}) || !slices.Equal(ints, []int64{1, 0, 1, 99}) || !slices.Equal(floats, []float64{1, 0, 1, 99}) || !slices.Equal(bools, []bool{true, false, true, true}) || !slices.Equal(chars, []rune{1, 0, 1, 99}) {
		t.Errorf("lists became %d, %d, %g, %v, %x", smalls, ints, floats, bools, chars)
	}
	clear(smalls)
	clear(ints)
	clear(floats)
	clear(bools)
	clear(chars)
	for i := range sums {
		wanted(t, "a difference", sums[i], api.OK, []float64{1, 1, 2}, api.Small)
		wanted(t, "what is left", left[i], api.OK, digits("101"), left[i].Kind())
	}
	if !slices.Equal(text.Text(), []rune{1, 0, 1}) {
		t.Errorf("characters became %x", text.Text())
	}
}

// P14.2

// shapes lists how elements may lie in rows.
func shapes() [][3]int {
	return [][3]int{{1, 5, 1}, {2, 3, 4}, {3, 2, 1}, {1, 64, 1}, {3, 65, 1}, {1, 3, 64}, {2, 2, 70}, {1, 130, 1}, {2, 20, 3}}
}

// The last element of each row is what Fold tells of the row.
func TestTheLastElementIsFold(t *testing.T) {
	for seed := range 20 {
		for _, sizes := range shapes() {
			outer, n, inner := sizes[0], sizes[1], sizes[2]
			for _, l := range lists() {
				for _, f := range functions {
					v := tight(t, steps(l, outer*n*inner, seed)...)
					z, err := scan.Scan(f, v, outer, n, inner)
					if err != api.OK {
						continue
					}
					want, err := fold.Fold(f, v, outer, n, inner)
					last := list(outer*inner, func(i int) float64 { return z.Num((i/inner*n+n-1)*inner + i%inner) })
					wanted(t, "the end of "+name(f, v, outer, n, inner), want, err, last, least(last))
				}
			}
		}
	}
}

// Each element is what Fold tells of the elements of its row up to there; and where
// Fold has no result for one of them, Scan has none.
func TestEachElementIsFold(t *testing.T) {
	for seed, n := range []int{2, 3, 7, 40, 64, 67} {
		for _, l := range lists() {
			for _, f := range functions {
				for _, row := range [][]float64{steps(l, n, seed), fine(f, l, n, seed)} {
					z, err := scan.Scan(f, tight(t, row...), 1, len(row), 1)
					wantedErr := api.OK
					for i := range row {
						want, wrong := fold.Fold(f, tight(t, row[:i+1]...), 1, i+1, 1)
						if wrong != api.OK {
							wantedErr = wrong
							break
						}
						if err == api.OK && !alike(z.Num(i), want.Num(0)) {
							t.Errorf("function %d of %g has %g at %d, not %g", f, row, z.Num(i), i, want.Num(0))
							break
						}
					}
					if err != wantedErr {
						t.Errorf("function %d of %g is error %d, not %d", f, row, err, wantedErr)
					}
				}
			}
		}
	}
}

// In whatever kind the numbers are, the answer is the same.
func TestKindsHaveOneAnswer(t *testing.T) {
	for seed := range 20 {
		for _, sizes := range shapes() {
			size := sizes[0] * sizes[1] * sizes[2]
			for _, kind := range kinds {
				l := steps(edges()[kind], size, seed)
				for _, f := range functions {
					want, wantedErr := scan.Scan(f, made(t, l, kind), sizes[0], sizes[1], sizes[2])
					for other := kind + 1; other <= api.Float; other++ {
						v, err := scan.Scan(f, made(t, l, other), sizes[0], sizes[1], sizes[2])
						if err != wantedErr || v.Kind() != want.Kind() || !slices.EqualFunc(v.Nums(), want.Nums(), alike) {
							t.Errorf("%s of kind %d is %s, error %d, not %s, error %d", name(f, v, sizes[0], sizes[1], sizes[2]), other, told(v), err, told(want), wantedErr)
						}
					}
				}
			}
		}
	}
}

// The chapter's examples.

func TestExamples(t *testing.T) {
	held(t, arith.Add, tight(t, 1, 0, 1, 1), 1, 4, 1, 1, 1, 2, 3)
	held(t, arith.Sub, tight(t, 1, 2, 3, 4), 1, 4, 1, 1, -1, 2, -2)
	held(t, relate.Less, tight(t, 0, 1, 0, 1), 1, 4, 1, 0, 1, 0, 0)
	held(t, arith.Div, tight(t, 8, 4, 2), 1, 3, 1, 8, 2, 4)
	held(t, arith.Max, tight(t, 1, 5, 3, 2), 1, 2, 2, 1, 5, 3, 5)
	refused(t, logic.And, tight(t, 1, 2), 1, 2, 1, api.ErrDomain)
	if v, err := scan.Scan(arith.Add, vec.Chars([]rune{'x'}), 1, 1, 1); err != api.OK || v.Kind() != api.Char || !slices.Equal(v.Text(), []rune{'x'}) {
		t.Errorf("Add of a single character is %s, error %d", told(v), err)
	}
}
