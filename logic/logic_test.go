package logic_test

import (
	"fmt"
	"math"
	"slices"
	"testing"

	"rebus/api"
	"rebus/arith"
	"rebus/bitvec"
	"rebus/logic"
	"rebus/vec"
)

// most is the greatest number of booleans, top the greatest whole number, tiny
// the least number above 0, and huge the greatest one.
const (
	most = 1 << 20
	top  = 1 << 53
	tiny = math.SmallestNonzeroFloat64
	huge = math.MaxFloat64
)

// kinds lists the kinds of numbers, the least one first.
var kinds = []int{api.Bit, api.Small, api.Int, api.Float}

// functions lists all functions.
var functions = []int{logic.And, logic.Or, logic.Nand, logic.Nor}

// both lists the booleans.
var both = []bool{false, true}

// strange lists numbers that are no function's.
var strange = []int{
	0, 1, 2, 3, 4, 5, 6, 7, 8, 9, 10, 11, 16, 17, 19, 20, 25, 26, 27, 37, -1, -21, -22, -23, -24, 64 + 21, 128 + 22, 256 + 21,
	256 + 24, 1<<16 + 23, 1<<32 + 21, 1<<32 + 24, 1<<62 + 21, math.MaxInt, math.MinInt, math.MinInt + 21, math.MinInt + 24,
}

// others lists, for each kind, numbers of it that are neither 0 nor 1 and that no
// lesser kind holds.
func others() map[int][]float64 {
	return map[int][]float64{
		api.Small: {-1, 2, -2, 3, 64, 126, 127, -127, -128},
		api.Int:   {128, -129, 255, 256, 257, -255, -256, -257, 1 << 31, 1 << 32, 1<<32 + 1, -1 << 32, 1<<32 - 1, top, top - 1, -top, 1 - top},
		api.Float: {
			tiny, -tiny, 0.5, -0.5, 0.25, 1.5, -1.5, math.Nextafter(1, 0), math.Nextafter(1, 2), -math.Nextafter(1, 0), 1e-300, -1e-300,
			0x1p-1022, 127.5, 256.5, top + 2, -top - 2, 1 << 63, 1 << 64, 1e100, -1e100, huge, -huge, math.Pi,
		},
	}
}

// allOthers lists numbers that are neither 0 nor 1.
func allOthers() []float64 {
	return slices.Concat(others()[api.Small], others()[api.Int], others()[api.Float])
}

// model is what a function tells of two booleans, by how many of them are true.
func model(f int, a, b bool) bool {
	trues := 0
	if a {
		trues++
	}
	if b {
		trues++
	}
	switch f {
	case logic.And:
		return trues == 2
	case logic.Or:
		return trues >= 1
	case logic.Nand:
		return trues <= 1
	}
	return f == logic.Nor && trues == 0
}

// of is the element i of a list, or its only one.
func of[T any](l []T, i int) T { return l[i%max(len(l), 1)] }

// list makes n elements by a rule.
func list[T any](n int, rule func(i int) T) []T {
	l := make([]T, n)
	for i := range l {
		l[i] = rule(i)
	}
	return l
}

// models is what Apply must tell of two lists whose lengths go together.
func models(f int, a, b []bool) []bool {
	n := max(len(a), len(b))
	if len(a) == 0 || len(b) == 0 {
		n = 0
	}
	return list(n, func(i int) bool { return model(f, of(a, i), of(b, i)) })
}

// digits makes booleans of a text of 0s and 1s.
func digits(s string) []bool { return list(len(s), func(i int) bool { return s[i] == '1' }) }

// steps lists n of the elements of a list, the same ones each time.
func steps[T any](l []T, n, seed int) []T {
	x := uint32(seed)
	return list(n, func(int) T {
		x = x*1664525 + 1013904223
		return l[int(x>>8)%len(l)]
	})
}

// flags makes n booleans, the same ones each time.
func flags(n, seed int) []bool { return steps(both, n, seed) }

// same makes n booleans that all equal x.
func same(n int, x bool) []bool { return slices.Repeat([]bool{x}, n) }

// but makes booleans of which one is another one.
func but(l []bool, at int) []bool {
	z := slices.Clone(l)
	z[at] = !z[at]
	return z
}

// numbersOf makes numbers of booleans.
func numbersOf(l []bool) []float64 {
	return list(len(l), func(i int) float64 {
		if l[i] {
			return 1
		}
		return 0
	})
}

// with makes numbers of which one is another one.
func with(l []bool, at int, x float64) []float64 {
	z := numbersOf(l)
	z[at] = x
	return z
}

// least tells the least kind that numbers fit.
func least(l []float64) int {
	kind := api.Bit
	for _, x := range l {
		switch {
		case x != math.Trunc(x) || math.Abs(x) > top:
			return api.Float
		case x < -128 || x > 127:
			kind = max(kind, api.Int)
		case x != 0 && x != 1 || len(l) > most:
			kind = max(kind, api.Small)
		}
	}
	return kind
}

// made makes a vector of a kind that numbers fit.
func made(t *testing.T, l []float64, kind int) vec.Vec {
	t.Helper()
	ok := true
	var v vec.Vec
	switch kind {
	case api.Bit:
		v = vec.Bits(bitvec.Pack(list(len(l), func(i int) bool { return l[i] == 1 })))
	case api.Small:
		v = vec.Smalls(list(len(l), func(i int) int8 { return int8(l[i]) }))
	case api.Int:
		v, ok = vec.Ints(list(len(l), func(i int) int64 { return int64(l[i]) }))
	default:
		v, ok = vec.Floats(l)
	}
	if !ok || v.Kind() != kind || !slices.Equal(v.Nums(), l) {
		t.Fatalf("the test can't make kind %d of %d numbers", kind, len(l))
	}
	return v
}

// flagged makes a vector of a kind of booleans.
func flagged(t *testing.T, l []bool, kind int) vec.Vec {
	t.Helper()
	return made(t, numbersOf(l), kind)
}

// told tells a vector, for a report.
func told(v vec.Vec) string {
	switch {
	case v.Len() > 12:
		return fmt.Sprintf("%d elements of kind %d", v.Len(), v.Kind())
	case v.Class() == api.Letter:
		return fmt.Sprintf("%x of kind %d", v.Text(), v.Kind())
	case v.Class() == api.Nested:
		return fmt.Sprintf("%v of kind %d", v, v.Kind())
	}
	return fmt.Sprintf("%g of kind %d", v.Nums(), v.Kind())
}

// name tells a function and what it is done to, for a report.
func name(f int, a, b vec.Vec) string {
	return fmt.Sprintf("function %d of %s and %s", f, told(a), told(b))
}

// wanted holds a result of Apply against booleans.
func wanted(t *testing.T, f int, a, b, v vec.Vec, err api.Errno, want []bool) {
	t.Helper()
	p, ok := v.Packed()
	if err != api.OK || !ok || !p.Tidy() || v.Kind() != api.Bit || v.Class() != api.Number {
		t.Errorf("%s is error %d of kind %d and class %d, or not tidy", name(f, a, b), err, v.Kind(), v.Class())
		return
	}
	got := p.Unpack()
	if v.Len() != len(want) || len(got) != len(want) {
		t.Errorf("%s has %d elements, not %d", name(f, a, b), v.Len(), len(want))
		return
	}
	for i, x := range want {
		if got[i] != x {
			t.Errorf("%s is %v at %d, not %v", name(f, a, b), got[i], i, x)
			return
		}
	}
}

// held holds Apply of two vectors against what is wanted.
func held(t *testing.T, f int, a, b vec.Vec, want []bool) {
	t.Helper()
	v, err := logic.Apply(f, a, b)
	wanted(t, f, a, b, v, err, want)
}

// refused checks an error of Apply, and that there is nothing beside it.
func refused(t *testing.T, f int, a, b vec.Vec, want api.Errno) {
	t.Helper()
	v, err := logic.Apply(f, a, b)
	if err != want || v.Kind() != 0 || v.Class() != api.Number || v.Len() != 0 {
		t.Errorf("%s is error %d with %d elements of kind %d, not error %d alone", name(f, a, b), err, v.Len(), v.Kind(), want)
	}
}

// modelled checks all functions of two lists of booleans against the model, in
// each pair of kinds, and that Apply leaves the vectors.
func modelled(t *testing.T, l, m []bool) {
	t.Helper()
	for _, first := range kinds {
		for _, second := range kinds {
			a, b := flagged(t, l, first), flagged(t, m, second)
			for _, f := range functions {
				held(t, f, a, b, models(f, l, m))
			}
			if a.Kind() != first || b.Kind() != second || !slices.Equal(a.Nums(), numbersOf(l)) || !slices.Equal(b.Nums(), numbersOf(m)) {
				t.Errorf("%d and %d booleans became %s and %s", len(l), len(m), told(a), told(b))
			}
		}
	}
}

// packed checks all functions of two lists of booleans, as bits.
func packed(t *testing.T, l, m []bool) {
	t.Helper()
	a, b := vec.Bits(bitvec.Pack(l)), vec.Bits(bitvec.Pack(m))
	for _, f := range functions {
		held(t, f, a, b, models(f, l, m))
	}
}

// longLengths lists the lengths about the edges of 64 and of its multiples.
func longLengths() []int {
	l := list(200, func(i int) int { return i })
	for _, n := range []int{256, 320, 512, 1024, 4096, 65536} {
		l = append(l, n-1, n, n+1)
	}
	return l
}

// texts lists vectors of n characters, among them such as stand for 0 and 1.
func texts(n int) []vec.Vec {
	var l []vec.Vec
	for _, c := range []rune{0, 1, '0', '1', ' ', -1} {
		l = append(l, vec.Chars(slices.Repeat([]rune{c}, n)))
	}
	return l
}

// boxes lists vectors of n boxes, among them such as contain a boolean.
func boxes(n int) []vec.Vec {
	flag := vec.Bits(bitvec.Make(1, true))
	return []vec.Vec{
		vec.Boxes(make([]vec.Array, n)), vec.Boxes(slices.Repeat([]vec.Array{{V: flag}}, n)),
		vec.Boxes(slices.Repeat([]vec.Array{{Shape: []int{1}, V: flag}}, n)), vec.Boxes(slices.Repeat([]vec.Array{{Shape: []int{0}, V: vec.None(api.Number)}}, n)),
	}
}

// unlike lists vectors of n elements that are no numbers.
func unlike(n int) []vec.Vec { return slices.Concat(texts(n), boxes(n)) }

// numbers lists vectors of n numbers in all kinds that hold them.
func numbers(t *testing.T, n int) []vec.Vec {
	var l []vec.Vec
	for _, x := range []float64{0, 1, -1, 2, 300, 0.5} {
		for kind := least([]float64{x}); kind <= api.Float; kind++ {
			l = append(l, made(t, slices.Repeat([]float64{x}, n), kind))
		}
	}
	return l
}

// all lists vectors of n elements, of all classes.
func all(t *testing.T, n int) []vec.Vec { return slices.Concat(unlike(n), numbers(t, n)) }

// alongside lists the lengths that go together with one.
func alongside(n int) []int {
	if n == 1 {
		return []int{0, 1, 2, 3}
	}
	return []int{1, n}
}

// The functions have the numbers of the chapter.
func TestNumbersOfTheFunctions(t *testing.T) {
	for i, f := range functions {
		if f != i+21 {
			t.Errorf("function %d has the number %d, not %d", i, f, i+21)
		}
	}
}

// P12.1

// one holds what One tells against what is wanted.
func one(t *testing.T, f int, a, b bool, want bool, wantedErr api.Errno) {
	t.Helper()
	if got, err := logic.One(f, a, b); got != want || err != wantedErr {
		t.Errorf("One(%d, %v, %v) is %v, %d, not %v, %d", f, a, b, got, err, want, wantedErr)
	}
}

func TestOne(t *testing.T) {
	cases := []struct {
		a, b bool
		// want tells of And, Or, Nand, Nor.
		want string
	}{{false, false, "0011"}, {false, true, "0110"}, {true, false, "0110"}, {true, true, "1100"}}
	for _, c := range cases {
		for i, f := range functions {
			one(t, f, c.a, c.b, digits(c.want)[i], api.OK)
			one(t, f, c.a, c.b, model(f, c.a, c.b), api.OK)
		}
	}
}

func TestOneOfNoFunction(t *testing.T) {
	for _, f := range strange {
		for _, a := range both {
			for _, b := range both {
				one(t, f, a, b, false, api.ErrArg)
			}
		}
	}
	for f := range 300 {
		if !slices.Contains(functions, f) {
			one(t, f, true, true, false, api.ErrArg)
			one(t, -f, false, false, false, api.ErrArg)
		}
	}
}

// counted holds what All and Any tell against what is wanted.
func counted(t *testing.T, p bitvec.Bits, every, some bool) {
	t.Helper()
	if logic.All(p) != every || logic.Any(p) != some {
		t.Errorf("All and Any of %d booleans, %d of them true, are %v and %v, not %v and %v", p.Len(), p.Count(), logic.All(p), logic.Any(p), every, some)
	}
}

func TestAllAndAny(t *testing.T) {
	for _, n := range append(longLengths(), most-1, most) {
		counted(t, bitvec.Make(n, true), true, n > 0)
		counted(t, bitvec.Make(n, false), n == 0, false)
		counted(t, bitvec.Pack(same(n, true)), true, n > 0)
		counted(t, bitvec.Pack(same(n, false)), n == 0, false)
	}
}

// Of no booleans, all are true and none is.
func TestAllAndAnyOfNone(t *testing.T) {
	for _, p := range []bitvec.Bits{{}, bitvec.Make(0, true), bitvec.Make(-3, true), bitvec.Pack(nil), bitvec.Make(70, false).Cut(64, 64), bitvec.Bits{}.Not()} {
		counted(t, p, true, false)
	}
}

// Each boolean counts, wherever it is.
func TestAllAndAnyButOne(t *testing.T) {
	for n := range 200 {
		for at := range n {
			counted(t, bitvec.Pack(but(same(n, true), at)), false, n > 1)
			counted(t, bitvec.Pack(but(same(n, false), at)), n == 1, true)
		}
	}
	for _, n := range []int{1024, 4097, most - 1, most} {
		for _, at := range []int{0, 1, 62, 63, 64, 65, n / 2, n - 65, n - 64, n - 2, n - 1} {
			counted(t, bitvec.Pack(but(same(n, true), at)), false, true)
			counted(t, bitvec.Pack(but(same(n, false), at)), false, true)
		}
	}
}

// However booleans were made, only they count, and not what is behind the last one.
func TestAllAndAnyOfResults(t *testing.T) {
	for n := range 200 {
		for _, l := range [][]bool{flags(n, n), flags(n, n+1), append(same(n, true), false), append(same(n, false), true)} {
			b := bitvec.Pack(l)
			every, some := !slices.Contains(l, false), slices.Contains(l, true)
			counted(t, b, every, some)
			counted(t, b.Not(), !some, !every)
			counted(t, b.Cut(0, n/2), !slices.Contains(l[:n/2], false), slices.Contains(l[:n/2], true))
			counted(t, b.Cut(n/2, n), !slices.Contains(l[n/2:n], false), slices.Contains(l[n/2:n], true))
		}
	}
}

// P12.2

// truths checks that Truths tells booleans, and leaves the vector.
func truths(t *testing.T, v vec.Vec, want []bool) {
	t.Helper()
	before, kind := v.Nums(), v.Kind()
	p, ok := logic.Truths(v)
	if !ok || !p.Tidy() || p.Len() != len(want) || !slices.Equal(p.Unpack(), want) {
		t.Errorf("the truths of %s are %d booleans, %v, or not the right ones", told(v), p.Len(), ok)
	}
	clear(p.Words())
	clear(p.Unpack())
	if v.Kind() != kind || !slices.Equal(v.Nums(), before) || !slices.Equal(p.Unpack(), want) {
		t.Errorf("%d elements of kind %d became %s", len(before), kind, told(v))
	}
}

// untrue checks that Truths tells that there are none, and nothing beside it.
func untrue(t *testing.T, v vec.Vec) {
	t.Helper()
	if p, ok := logic.Truths(v); ok || p.Len() != 0 || len(p.Words()) != 0 {
		t.Errorf("the truths of %s are %d booleans, %v", told(v), p.Len(), ok)
	}
}

func TestTruths(t *testing.T) {
	for _, n := range append(longLengths(), most-1, most) {
		for _, l := range [][]bool{flags(n, n), same(n, true), same(n, false)} {
			for _, kind := range kinds {
				truths(t, flagged(t, l, kind), l)
			}
		}
	}
}

// The numbers are what they are, however they were given.
func TestTruthsOfZerosWithASign(t *testing.T) {
	v, ok := vec.Floats([]float64{1, math.Copysign(0, -1), 0, 1})
	if !ok {
		t.Fatal("the test can't make a vector")
	}
	truths(t, v, digits("1001"))
}

// Each place counts, and each number that is neither 0 nor 1.
func TestTruthsOfOtherNumbers(t *testing.T) {
	for _, n := range []int{1, 2, 3, 63, 64, 65, 127, 128, 129} {
		for at := range n {
			for _, x := range []float64{-1, 2, 256, -256, 257, 0.5, 1 << 32, 1<<32 + 1} {
				l := with(flags(n, n), at, x)
				for kind := least(l); kind <= api.Float; kind++ {
					untrue(t, made(t, l, kind))
				}
			}
		}
	}
	for _, x := range allOthers() {
		for _, l := range [][]float64{{x}, {x, 0}, {0, x}, {1, x}, {x, 1}, {1, 0, 0, x}, {x, x}} {
			for kind := least(l); kind <= api.Float; kind++ {
				untrue(t, made(t, l, kind))
			}
		}
	}
}

func TestTruthsOfWhatIsNoNumber(t *testing.T) {
	for _, n := range []int{0, 1, 2, 3, 64, 65} {
		for _, v := range unlike(n) {
			untrue(t, v)
		}
	}
	untrue(t, vec.None(api.Letter))
	untrue(t, vec.None(api.Nested))
	untrue(t, vec.Vec{})
	truths(t, vec.None(api.Number), nil)
}

// A bit vector holds no more than 2^20 booleans: those of the first elements. Those
// behind them must be 0 or 1, too.
func TestTruthsOfMoreThanMost(t *testing.T) {
	n := most + 70
	l := flags(n, 12)
	for _, kind := range kinds[1:] {
		truths(t, flagged(t, l, kind), l[:most])
		for _, at := range []int{0, most - 1, most, n - 1} {
			untrue(t, made(t, with(l, at, 2), kind))
		}
	}
}

// P12.3

// All functions of all lists of up to four booleans, in each pair of kinds.
func TestApply(t *testing.T) {
	for n := range 5 {
		for k := range 1 << (2 * n) {
			bit := func(i int) bool { return k>>i&1 == 1 }
			modelled(t, list(n, bit), list(n, func(i int) bool { return bit(i + n) }))
		}
	}
}

// One element goes with each of the others, on both sides.
func TestApplyOfOneAndMany(t *testing.T) {
	for _, n := range []int{1, 2, 3, 5, 63, 64, 65, 128, 130} {
		for _, l := range [][]bool{flags(n, n), flags(n, n+1), same(n, false), same(n, true)} {
			for _, x := range both {
				modelled(t, []bool{x}, l)
				modelled(t, l, []bool{x})
			}
		}
	}
}

func TestApplyOfLongNumbers(t *testing.T) {
	for _, n := range []int{62, 63, 64, 65, 127, 128, 129, 191, 192, 193, 1000} {
		modelled(t, flags(n, n), flags(n, n+5))
		modelled(t, flags(n, n), same(n, true))
		modelled(t, same(n, false), flags(n, n))
	}
}

func TestApplyOfLongBooleans(t *testing.T) {
	for _, n := range longLengths() {
		mixed := [][]bool{flags(n, n), flags(n, n+1), same(n, false), same(n, true)}
		for _, a := range mixed {
			for _, b := range mixed {
				packed(t, a, b)
			}
			for _, x := range both {
				packed(t, []bool{x}, a)
				packed(t, a, []bool{x})
			}
		}
	}
}

// Each place of two long lists counts, wherever it is.
func TestApplyOfLongBooleansUnlikeInOnePlace(t *testing.T) {
	for _, n := range []int{2, 63, 64, 65, 127, 128, 129, 200} {
		for at := range n {
			for _, x := range both {
				for _, y := range both {
					packed(t, same(n, x), but(same(n, y), at))
					packed(t, but(same(n, y), at), same(n, x))
				}
			}
		}
	}
}

func TestApplyOfMany(t *testing.T) {
	for _, n := range []int{most - 1, most} {
		a, b := flags(n, 3), flags(n, 4)
		packed(t, a, b)
		packed(t, a, []bool{true})
		packed(t, []bool{false}, b)
		x, y := flagged(t, a, api.Float), flagged(t, b, api.Int)
		z := flagged(t, a, api.Small)
		for _, f := range functions {
			held(t, f, x, y, models(f, a, b))
			held(t, f, z, x, models(f, a, a))
			refused(t, f, x, made(t, with(b, n-1, 2), api.Small), api.ErrDomain)
		}
	}
}

// A bit vector holds no more than 2^20 booleans: those of the first elements.
func TestApplyOfMoreThanMost(t *testing.T) {
	n := most + 70
	l, m := flags(n, 5), flags(n, 6)
	a, b := flagged(t, l, api.Small), flagged(t, m, api.Int)
	for _, f := range functions {
		held(t, f, a, b, models(f, l[:most], m[:most]))
		for _, x := range both {
			single := vec.Bits(bitvec.Make(1, x))
			held(t, f, a, single, models(f, l[:most], []bool{x}))
			held(t, f, single, b, models(f, []bool{x}, m[:most]))
		}
		refused(t, f, a, flagged(t, l[:most], api.Bit), api.ErrLength)
		refused(t, f, made(t, with(l, n-1, 5), api.Small), b, api.ErrDomain)
	}
}

// No elements go with none and with one, whatever number it is.
func TestApplyOfNoElements(t *testing.T) {
	for _, f := range functions {
		for _, kind := range kinds {
			none := made(t, nil, kind)
			for _, v := range slices.Concat(numbers(t, 0), numbers(t, 1)) {
				held(t, f, none, v, nil)
				held(t, f, v, none, nil)
			}
			for _, x := range allOthers() {
				single := made(t, []float64{x}, least([]float64{x}))
				held(t, f, none, single, nil)
				held(t, f, single, none, nil)
			}
		}
	}
}

// Where there are no elements, they must be numbers all the same.
func TestApplyOfNoElementsThatAreNoNumbers(t *testing.T) {
	for _, f := range functions {
		for _, a := range unlike(0) {
			for _, b := range slices.Concat(all(t, 0), all(t, 1)) {
				refused(t, f, a, b, api.ErrDomain)
				refused(t, f, b, a, api.ErrDomain)
			}
		}
		for _, a := range unlike(1) {
			for _, b := range all(t, 0) {
				refused(t, f, a, b, api.ErrDomain)
				refused(t, f, b, a, api.ErrDomain)
			}
		}
	}
}

// The chapter speaks of vectors that have a kind; a call ends all the same, with
// what it tells of no numbers.
func TestApplyOfTheZeroValue(t *testing.T) {
	var none vec.Vec
	for _, f := range functions {
		held(t, f, none, none, nil)
		for _, v := range slices.Concat(numbers(t, 0), numbers(t, 1)) {
			held(t, f, none, v, nil)
			held(t, f, v, none, nil)
		}
		for _, v := range slices.Concat(unlike(0), unlike(1)) {
			refused(t, f, none, v, api.ErrDomain)
			refused(t, f, v, none, api.ErrDomain)
		}
		for _, v := range slices.Concat(all(t, 2), all(t, 64)) {
			refused(t, f, none, v, api.ErrLength)
			refused(t, f, v, none, api.ErrLength)
		}
	}
}

// domain checks that each function refuses two lists of numbers, in all kinds that
// hold them and on either side.
func domain(t *testing.T, l, m []float64) {
	t.Helper()
	for first := least(l); first <= api.Float; first++ {
		for second := least(m); second <= api.Float; second++ {
			a, b := made(t, l, first), made(t, m, second)
			for _, f := range functions {
				refused(t, f, a, b, api.ErrDomain)
				refused(t, f, b, a, api.ErrDomain)
			}
		}
	}
}

// A number that is neither 0 nor 1 is refused, though the other element might settle
// what comes of both.
func TestApplyOfOtherNumbers(t *testing.T) {
	for _, x := range allOthers() {
		for _, y := range []float64{0, 1, x, -1, 0.5} {
			domain(t, []float64{x}, []float64{y})
			domain(t, []float64{x}, []float64{y, y, y})
			domain(t, []float64{0, x, 1}, []float64{y})
			domain(t, []float64{1, 0, x}, []float64{0, y, 1})
		}
	}
}

// Each place counts.
func TestApplyOfOtherNumbersInOnePlace(t *testing.T) {
	for _, n := range []int{2, 63, 64, 65, 129} {
		for at := range n {
			x := of([]float64{2, -1, 300, 0.5}, at)
			l, m := with(flags(n, n), at, x), numbersOf(flags(n, n+1))
			for _, f := range functions {
				refused(t, f, made(t, l, least(l)), made(t, m, api.Bit), api.ErrDomain)
				refused(t, f, made(t, m, api.Bit), made(t, l, api.Float), api.ErrDomain)
				refused(t, f, made(t, l, least(l)), made(t, m[:1], api.Bit), api.ErrDomain)
			}
		}
	}
}

func TestApplyOfWhatIsNoNumber(t *testing.T) {
	for _, f := range functions {
		for _, n := range []int{0, 1, 2, 3} {
			for _, m := range alongside(n) {
				for _, a := range unlike(n) {
					for _, b := range all(t, m) {
						refused(t, f, a, b, api.ErrDomain)
						refused(t, f, b, a, api.ErrDomain)
					}
				}
			}
		}
	}
}

// That the lengths don't go together is told ahead of what the elements are.
func TestApplyOfLengthsThatDontGoTogether(t *testing.T) {
	lengths := []int{0, 2, 3, 4, 6, 63, 64, 65, 128}
	for _, n := range lengths {
		for _, m := range lengths {
			if n == m {
				continue
			}
			for i, a := range all(t, n) {
				for j, b := range all(t, m) {
					if n < 4 && m < 4 || i == j {
						refused(t, functions[(i+j)%4], a, b, api.ErrLength)
					}
				}
			}
		}
	}
}

// That there is no such function is told ahead of all other errors.
func TestApplyOfNoFunction(t *testing.T) {
	for _, f := range strange {
		for _, n := range []int{0, 1, 2, 3} {
			for _, m := range []int{0, 1, 2, 3} {
				for i, a := range all(t, n) {
					refused(t, f, a, of(all(t, m), i), api.ErrArg)
					refused(t, f, a, of(all(t, m), i*7+3), api.ErrArg)
				}
			}
		}
		refused(t, f, vec.Vec{}, vec.Vec{}, api.ErrArg)
		refused(t, f, vec.Vec{}, vec.Chars([]rune("xy")), api.ErrArg)
	}
}

// Each error, beside all those that come after it.
func TestOrderOfErrors(t *testing.T) {
	two, three, flag := vec.Smalls([]int8{1, 5}), vec.Smalls([]int8{0, 7, 0}), vec.Bits(bitvec.Make(1, true))
	text, none, box := vec.Chars([]rune("xy")), vec.None(api.Nested), vec.Boxes([]vec.Array{{}})
	cases := []struct {
		f    int
		a, b vec.Vec
		want api.Errno
	}{
		{0, none, text, api.ErrArg}, {20, text, three, api.ErrArg}, {25, two, three, api.ErrArg}, {25, two, two, api.ErrArg}, {20, box, box, api.ErrArg}, {25, none, none, api.ErrArg}, {-21, flag, flag, api.ErrArg}, {1, flag, flag, api.ErrArg},
		{logic.And, none, text, api.ErrLength}, {logic.Or, text, none, api.ErrLength}, {logic.Nand, text, three, api.ErrLength}, {logic.Nor, three, text, api.ErrLength}, {logic.And, two, three, api.ErrLength},
		{logic.Or, three, two, api.ErrLength}, {logic.Nor, vec.None(api.Number), two, api.ErrLength}, {logic.Nand, two, vec.Chars(nil), api.ErrLength}, {logic.And, vec.Boxes(make([]vec.Array, 3)), vec.Boxes(make([]vec.Array, 2)), api.ErrLength},
		{logic.And, none, vec.None(api.Number), api.ErrDomain}, {logic.Or, vec.None(api.Number), vec.Chars(nil), api.ErrDomain}, {logic.Nand, none, flag, api.ErrDomain}, {logic.Nor, box, vec.None(api.Number), api.ErrDomain}, {logic.And, vec.Chars(nil), vec.Smalls([]int8{2}), api.ErrDomain},
		{logic.And, two, flag, api.ErrDomain}, {logic.Or, flag, two, api.ErrDomain}, {logic.Nand, three, three, api.ErrDomain}, {logic.Nor, text, two, api.ErrDomain}, {logic.And, box, flag, api.ErrDomain}, {logic.Or, text, text, api.ErrDomain},
	}
	for _, c := range cases {
		refused(t, c.f, c.a, c.b, c.want)
	}
}

// Apply goes by arith.Length, and tells what One tells of each pair.
func TestApplyIsOneOfEach(t *testing.T) {
	for _, n := range []int{0, 1, 2, 3, 64, 65} {
		for _, m := range []int{0, 1, 2, 3, 64, 65} {
			length, ok := arith.Length(n, m)
			for seed := range 8 {
				l, r := flags(n, seed), flags(m, seed+3)
				a, b := flagged(t, l, of(kinds, seed)), flagged(t, r, of(kinds, seed/2))
				for _, f := range functions {
					if !ok {
						refused(t, f, a, b, api.ErrLength)
						continue
					}
					held(t, f, a, b, list(length, func(i int) bool {
						z, _ := logic.One(f, of(l, i), of(r, i))
						return z
					}))
				}
			}
		}
	}
}

// samples lists vectors of 70 booleans and of one, of each kind.
func samples(t *testing.T) []vec.Vec {
	var z []vec.Vec
	for _, l := range [][]bool{flags(70, 1), flags(70, 2), same(70, true), {false}, {true}} {
		for _, kind := range kinds {
			z = append(z, flagged(t, l, kind))
		}
	}
	return z
}

// Neither the arguments nor an earlier result change with what is done later.
func TestArgumentsAndResultsAreLeft(t *testing.T) {
	for _, a := range samples(t) {
		for _, b := range samples(t) {
			x, y := a.Nums(), b.Nums()
			for _, f := range functions {
				z, err := logic.Apply(f, a, b)
				first, _ := z.Packed()
				want := first.Unpack()
				clear(z.Nums())
				clear(first.Words())
				for _, g := range functions {
					logic.Apply(g, a, b)
					logic.Apply(g, z, a)
					logic.Apply(g, b, z)
					logic.Apply(g, z, z)
				}
				wanted(t, f, a, b, z, err, want)
			}
			logic.Truths(a)
			if !slices.Equal(a.Nums(), x) || !slices.Equal(b.Nums(), y) {
				t.Errorf("arguments became %s and %s", told(a), told(b))
			}
		}
	}
}

// The lists that arguments were made of are their maker's, before and afterwards.
func TestListsOfArgumentsAreLeft(t *testing.T) {
	smalls, ints, floats, bools := []int8{1, 0, 1, 99}, []int64{1, 0, 1, 99}, []float64{1, 0, 1, 99}, []bool{true, false, true, true}
	a, d := vec.Smalls(smalls[:3]), vec.Bits(bitvec.Pack(bools[:3]))
	b, _ := vec.Ints(ints[:3])
	c, _ := vec.Floats(floats[:3])
	var results []vec.Vec
	var packs []bitvec.Bits
	for _, v := range []vec.Vec{a, b, c, d} {
		for _, w := range []vec.Vec{a, b, c, d} {
			z, err := logic.Apply(logic.And, v, w)
			wanted(t, logic.And, v, w, z, err, digits("101"))
			results = append(results, z)
		}
		p, _ := logic.Truths(v)
		packs = append(packs, p)
	}
	if !slices.Equal(smalls, []int8{1, 0, 1, 99}) || !slices.Equal(ints, []int64{1, 0, 1, 99}) || !slices.Equal(floats, []float64{1, 0, 1, 99}) || !slices.Equal(bools, digits("1011")) {
		t.Errorf("lists became %d, %d, %g, %v", smalls, ints, floats, bools)
	}
	clear(smalls)
	clear(ints)
	clear(floats)
	clear(bools)
	for _, z := range results {
		wanted(t, logic.And, a, b, z, api.OK, digits("101"))
	}
	for _, p := range packs {
		if !slices.Equal(p.Unpack(), digits("101")) {
			t.Errorf("truths became %v", p.Unpack())
		}
	}
}

// One vector may stand on both sides.
func TestApplyToItself(t *testing.T) {
	for _, v := range samples(t) {
		p, _ := logic.Truths(v)
		held(t, logic.And, v, v, p.Unpack())
		held(t, logic.Or, v, v, p.Unpack())
		held(t, logic.Nand, v, v, p.Not().Unpack())
		held(t, logic.Nor, v, v, p.Not().Unpack())
	}
}

// In whatever kinds the booleans are, the answer is the same.
func TestKindsHaveOneAnswer(t *testing.T) {
	for seed := range 20 {
		n := of([]int{1, 3, 64, 70}, seed)
		l, m := flags(n, seed), flags(of([]int{n, 1}, seed/2), seed+50)
		for _, f := range functions {
			want, err := logic.Apply(f, flagged(t, l, api.Bit), flagged(t, m, api.Bit))
			p, _ := want.Packed()
			for _, first := range kinds {
				for _, second := range kinds {
					a, b := flagged(t, l, first), flagged(t, m, second)
					held(t, f, a, b, p.Unpack())
					if err != api.OK || want.Kind() != api.Bit {
						t.Errorf("%s is error %d as bits", name(f, a, b), err)
					}
				}
			}
		}
	}
}

// P12.4

// bitsOf is the booleans of what Apply tells.
func bitsOf(t *testing.T, f int, a, b vec.Vec) bitvec.Bits {
	t.Helper()
	v, err := logic.Apply(f, a, b)
	p, ok := v.Packed()
	if err != api.OK || !ok {
		t.Errorf("%s is error %d of kind %d", name(f, a, b), err, v.Kind())
	}
	return p
}

// equal checks that two vectors of booleans are the same.
func equal(t *testing.T, what string, x, y bitvec.Bits) {
	t.Helper()
	if !bitvec.Equal(x, y) {
		t.Errorf("%s: %d booleans, %d of them true, are not %d, %d of them true", what, x.Len(), x.Count(), y.Len(), y.Count())
	}
}

func TestNegationsOfOne(t *testing.T) {
	tells := func(f int, a, b bool) bool {
		z, _ := logic.One(f, a, b)
		return z
	}
	for _, a := range both {
		for _, b := range both {
			if tells(logic.Nand, a, b) == tells(logic.And, a, b) || tells(logic.Nor, a, b) == tells(logic.Or, a, b) {
				t.Errorf("Nand or Nor of %v and %v is no negation", a, b)
			}
			if !tells(logic.And, a, b) != tells(logic.Or, !a, !b) || !tells(logic.Or, a, b) != tells(logic.And, !a, !b) {
				t.Errorf("the negation of And or Or of %v and %v is not what comes of their negations", a, b)
			}
		}
	}
}

func TestNegations(t *testing.T) {
	for _, n := range []int{0, 1, 2, 3, 63, 64, 65, 128, 129, 1000} {
		for _, m := range []int{1, n} {
			for seed := range 4 {
				negated(t, flags(n, seed), flags(m, seed+9))
				negated(t, flags(m, seed), flags(n, seed+9))
			}
		}
	}
}

// negated checks the properties of two lists of booleans, in each pair of kinds.
func negated(t *testing.T, l, m []bool) {
	t.Helper()
	for _, first := range kinds {
		for _, second := range kinds {
			a, b := flagged(t, l, first), flagged(t, m, second)
			x := flagged(t, list(len(l), func(i int) bool { return !l[i] }), first)
			y := flagged(t, list(len(m), func(i int) bool { return !m[i] }), second)
			and, or := bitsOf(t, logic.And, a, b), bitsOf(t, logic.Or, a, b)
			equal(t, "Nand", bitsOf(t, logic.Nand, a, b), and.Not())
			equal(t, "Nor", bitsOf(t, logic.Nor, a, b), or.Not())
			equal(t, "the negation of And", and.Not(), bitsOf(t, logic.Or, x, y))
			equal(t, "the negation of Or", or.Not(), bitsOf(t, logic.And, x, y))
		}
	}
}

// The chapter's examples.

func TestExamples(t *testing.T) {
	a, b := vec.Bits(bitvec.Pack(digits("0011"))), vec.Bits(bitvec.Pack(digits("0101")))
	for i, want := range []string{"0001", "0111", "1110", "1000"} {
		held(t, functions[i], a, b, digits(want))
	}
	modelled(t, digits("0011"), digits("0101"))
	two := vec.Smalls([]int8{2})
	refused(t, logic.And, a, two, api.ErrDomain)
	refused(t, logic.And, two, a, api.ErrDomain)
	refused(t, logic.And, vec.Chars(nil), a, api.ErrLength)
	refused(t, logic.And, vec.Chars(nil), vec.Chars(nil), api.ErrDomain)
	held(t, logic.Or, vec.None(api.Number), two, nil)
	counted(t, bitvec.Bits{}, true, false)
}
