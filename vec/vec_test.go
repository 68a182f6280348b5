package vec_test

import (
	"math"
	"slices"
	"testing"

	"rebus/api"
	"rebus/bitvec"
	"rebus/vec"
)

// top is the greatest absolute value of an integer.
const top = 1 << 53

// sample is a vector, and all that it must tell.
type sample struct {
	name   string
	v      vec.Vec
	kind   int
	class  int
	length int
	// What the elements are, in each way in which they can be told.
	packed []bool
	nums   []float64
	wholes []int64
	text   []rune
	arrays []vec.Array
}

// ofBits, ofSmalls and so on make a vector of a kind, and what it must tell.

func ofBits(l ...bool) sample {
	s := sample{name: "Bits", v: vec.Bits(bitvec.Pack(l)), kind: api.Bit, class: api.Number, length: len(l), packed: l}
	for _, b := range l {
		var n int64
		if b {
			n = 1
		}
		s.nums, s.wholes = append(s.nums, float64(n)), append(s.wholes, n)
	}
	return s
}

func ofSmalls(l ...int8) sample {
	s := sample{name: "Smalls", v: vec.Smalls(l), kind: api.Small, class: api.Number, length: len(l)}
	for _, n := range l {
		s.nums, s.wholes = append(s.nums, float64(n)), append(s.wholes, int64(n))
	}
	return s
}

func ofInts(t *testing.T, l ...int64) sample {
	t.Helper()
	v, ok := vec.Ints(l)
	if !ok {
		t.Errorf("Ints(%d) is false", l)
	}
	s := sample{name: "Ints", v: v, kind: api.Int, class: api.Number, length: len(l), wholes: l}
	for _, n := range l {
		s.nums = append(s.nums, float64(n))
	}
	return s
}

func ofFloats(t *testing.T, l ...float64) sample {
	t.Helper()
	v, ok := vec.Floats(l)
	if !ok {
		t.Errorf("Floats(%g) is false", l)
	}
	s := sample{name: "Floats", v: v, kind: api.Float, class: api.Number, length: len(l)}
	for _, x := range l {
		if x == 0 {
			x = 0
		}
		s.nums = append(s.nums, x)
	}
	return s
}

func ofChars(l ...rune) sample {
	return sample{name: "Chars", v: vec.Chars(l), kind: api.Char, class: api.Letter, length: len(l), text: l}
}

func ofBoxes(l ...vec.Array) sample {
	return sample{name: "Boxes", v: vec.Boxes(l), kind: api.Box, class: api.Nested, length: len(l), arrays: l}
}

// arrays lists arrays of all kinds, without elements and without a kind too,
// and some that are not as their shape says.
func arrays() []vec.Array {
	inner := vec.Boxes([]vec.Array{
		{Shape: []int{2}, V: vec.Chars([]rune("xy"))},
		{V: vec.Boxes([]vec.Array{{Shape: []int{1, 1}, V: vec.Smalls([]int8{-7})}})},
	})
	floats, _ := vec.Floats([]float64{0.5})
	ints, _ := vec.Ints([]int64{top, -top, 0})
	return []vec.Array{
		{},
		{Shape: []int{0}, V: vec.None(api.Number)},
		{Shape: []int{3, 0}, V: vec.None(api.Letter)},
		{Shape: []int{2}, V: inner},
		{V: floats},
		{Shape: []int{1, 3, 1}, V: ints},
		{Shape: []int{-4}, V: vec.Bits(bitvec.Make(5, true))},
		{Shape: []int{9, 9, 9, 9, 9, 9, 9, 9, 9}},
	}
}

// samples lists vectors of each kind, with no element, with one, and with many.
func samples(t *testing.T) []sample {
	t.Helper()
	long := make([]bool, 130)
	for _, i := range []int{0, 3, 63, 64, 65, 129} {
		long[i] = true
	}
	all := make([]int8, 256)
	for i := range all {
		all[i] = int8(i)
	}
	return []sample{
		{name: "the zero value"},
		ofBits(), ofBits(true), ofBits(false), ofBits(true, false, true), ofBits(long[:64]...), ofBits(long...),
		ofSmalls(), ofSmalls(3, -4), ofSmalls(0), ofSmalls(1, 0, 1), ofSmalls(all...),
		ofInts(t), ofInts(t, 0), ofInts(t, 1, 0), ofInts(t, -128, 127), ofInts(t, 128, -129),
		ofInts(t, 1<<31, 1<<32+1, -1<<32), ofInts(t, top, -5, top-1, 1-top, -top),
		ofFloats(t), ofFloats(t, 0), ofFloats(t, 1, 0), ofFloats(t, 2.5, -0.1, math.Pi),
		ofFloats(t, top, top+2, -top-2, 1e300, math.MaxFloat64, -math.MaxFloat64),
		ofFloats(t, math.SmallestNonzeroFloat64, -math.SmallestNonzeroFloat64, 0x1p-1022, 0x1p-1030),
		ofFloats(t, 0, math.Copysign(0, -1), 2.5, math.Copysign(0, -1)),
		ofChars(), ofChars('x', 'y'), ofChars(0), ofChars(0x20, 0x2374, 0x1f600),
		ofChars(-1, math.MinInt32, math.MaxInt32, 0x10ffff, 0x110000, 0xd800, 0xfffd),
		ofBoxes(), ofBoxes(vec.Array{}), ofBoxes(arrays()...),
	}
}

// places lists places about those of n elements.
func places(n int) []int {
	return []int{math.MinInt, math.MinInt32, -n - 1, -n, -64, -2, -1, n, n + 1, n + 2, n + 63, n + 64, 2*n + 1, math.MaxInt32, 1 << 32, math.MaxInt}
}

// unlike tells whether two float64s differ, in the sign of a zero too.
func unlike(x, y float64) bool { return math.Float64bits(x) != math.Float64bits(y) }

// same tells whether two arrays tell the same.
func same(a, b vec.Array) bool {
	if !slices.Equal(a.Shape, b.Shape) || a.V.Kind() != b.V.Kind() {
		return false
	}
	x, xs := a.V.Wholes()
	y, ys := b.V.Wholes()
	return xs == ys && slices.Equal(x, y) &&
		slices.Equal(a.V.Nums(), b.V.Nums()) &&
		slices.Equal(a.V.Text(), b.V.Text()) &&
		slices.EqualFunc(a.V.Arrays(), b.V.Arrays(), same)
}

// blank tells whether an array is a zero value.
func blank(a vec.Array) bool { return len(a.Shape) == 0 && a.V.Kind() == 0 && a.V.Len() == 0 }

// whole tells whether the vector is of a kind of integers.
func (s sample) whole() bool { return s.kind == api.Bit || s.kind == api.Small || s.kind == api.Int }

// check holds all that a vector tells against what it must tell.
func (s sample) check(t *testing.T) {
	t.Helper()
	if s.v.Kind() != s.kind || s.v.Class() != s.class || s.v.Len() != s.length {
		t.Errorf("%s: %d elements of kind %d and class %d, not %d of %d and %d",
			s.name, s.v.Len(), s.v.Kind(), s.v.Class(), s.length, s.kind, s.class)
	}
	s.checkLists(t)
	for i := range s.length {
		s.checkElement(t, i)
	}
	for _, i := range places(s.length) {
		s.checkPlaceOfNone(t, i)
	}
}

// checkLists holds the lists of all elements against what they must be.
func (s sample) checkLists(t *testing.T) {
	t.Helper()
	if b, ok := s.v.Packed(); ok != (s.kind == api.Bit) || !slices.Equal(b.Unpack(), s.packed) || !b.Tidy() {
		t.Errorf("%s: Packed is %v, %v, not %v", s.name, b.Unpack(), ok, s.packed)
	}
	if l := s.v.Nums(); !slices.EqualFunc(l, s.nums, func(x, y float64) bool { return !unlike(x, y) }) {
		t.Errorf("%s: Nums is %g, not %g", s.name, l, s.nums)
	}
	if l, ok := s.v.Wholes(); ok != s.whole() || !slices.Equal(l, s.wholes) {
		t.Errorf("%s: Wholes is %d, %v, not %d", s.name, l, ok, s.wholes)
	}
	if l := s.v.Text(); !slices.Equal(l, s.text) {
		t.Errorf("%s: Text is %d, not %d", s.name, l, s.text)
	}
	if l := s.v.Arrays(); !slices.EqualFunc(l, s.arrays, same) {
		t.Errorf("%s: Arrays is %v, not %v", s.name, l, s.arrays)
	}
}

// checkElement holds an element against what it must be, and against nothing in
// the ways that are for other kinds.
func (s sample) checkElement(t *testing.T, i int) {
	t.Helper()
	var x float64
	var n int64
	var c rune
	var a vec.Array
	if s.class == api.Number {
		x = s.nums[i]
	}
	if s.whole() {
		n = s.wholes[i]
	}
	if s.kind == api.Char {
		c = s.text[i]
	}
	if s.kind == api.Box {
		a = s.arrays[i]
	}
	if got := s.v.Num(i); unlike(got, x) {
		t.Errorf("%s: Num(%d) is %g, not %g", s.name, i, got, x)
	}
	if got, ok := s.v.Whole(i); got != n || ok != s.whole() {
		t.Errorf("%s: Whole(%d) is %d, %v, not %d, %v", s.name, i, got, ok, n, s.whole())
	}
	if got := s.v.Char(i); got != c {
		t.Errorf("%s: Char(%d) is %d, not %d", s.name, i, got, c)
	}
	if got := s.v.Box(i); !same(got, a) {
		t.Errorf("%s: Box(%d) is %v, not %v", s.name, i, got, a)
	}
}

// checkPlaceOfNone sees that nothing is told of a place where there is no element.
func (s sample) checkPlaceOfNone(t *testing.T, i int) {
	t.Helper()
	if i >= 0 && i < s.length {
		return
	}
	if x := s.v.Num(i); unlike(x, 0) {
		t.Errorf("%s: Num(%d) of %d is %g", s.name, i, s.length, x)
	}
	if n, ok := s.v.Whole(i); n != 0 || ok {
		t.Errorf("%s: Whole(%d) of %d is %d, %v", s.name, i, s.length, n, ok)
	}
	if c := s.v.Char(i); c != 0 {
		t.Errorf("%s: Char(%d) of %d is %d", s.name, i, s.length, c)
	}
	if a := s.v.Box(i); !blank(a) {
		t.Errorf("%s: Box(%d) of %d is %v", s.name, i, s.length, a)
	}
}

// P4.1 to P4.4: each kind, asked for all that any kind holds.

func TestSamples(t *testing.T) {
	for _, s := range samples(t) {
		s.check(t)
	}
}

// P4.1

func TestEmptyListsHaveTheirKind(t *testing.T) {
	ints, intsOK := vec.Ints(nil)
	noInts, noIntsOK := vec.Ints([]int64{})
	floats, floatsOK := vec.Floats(nil)
	noFloats, noFloatsOK := vec.Floats([]float64{})
	if !intsOK || !noIntsOK || !floatsOK || !noFloatsOK {
		t.Error("no elements are refused")
	}
	cases := []sample{
		{name: "Bits of the zero value", v: vec.Bits(bitvec.Bits{}), kind: api.Bit},
		{name: "Bits of nothing", v: vec.Bits(bitvec.Make(0, true)), kind: api.Bit},
		{name: "Smalls(nil)", v: vec.Smalls(nil), kind: api.Small},
		{name: "Smalls of nothing", v: vec.Smalls([]int8{}), kind: api.Small},
		{name: "Ints(nil)", v: ints, kind: api.Int},
		{name: "Ints of nothing", v: noInts, kind: api.Int},
		{name: "Floats(nil)", v: floats, kind: api.Float},
		{name: "Floats of nothing", v: noFloats, kind: api.Float},
		{name: "Chars(nil)", v: vec.Chars(nil), kind: api.Char, class: api.Letter},
		{name: "Chars of nothing", v: vec.Chars([]rune{}), kind: api.Char, class: api.Letter},
		{name: "Boxes(nil)", v: vec.Boxes(nil), kind: api.Box, class: api.Nested},
		{name: "Boxes of nothing", v: vec.Boxes([]vec.Array{}), kind: api.Box, class: api.Nested},
	}
	for _, s := range cases {
		s.check(t)
	}
}

func TestIntsAtTheEdge(t *testing.T) {
	for _, n := range []int64{top - 1, top, 1 - top, -top, 0} {
		ofInts(t, n).check(t)
		ofInts(t, 7, n).check(t)
		ofInts(t, n, 7).check(t)
	}
}

func TestIntsTooGreat(t *testing.T) {
	for _, n := range []int64{
		top + 1, -top - 1, top + 2, -top - 2, 2 * top, -2 * top, 1 << 62, -1 << 62,
		math.MaxInt64, math.MinInt64, math.MaxInt64 - 1, math.MinInt64 + 1,
	} {
		for _, l := range [][]int64{{n}, {n, 1}, {1, n}, {1, 2, n, 3}, {top, -top, n}} {
			v, ok := vec.Ints(l)
			if ok {
				t.Errorf("Ints(%d) is true", l)
			}
			sample{name: "Ints of what is too great", v: v}.check(t)
		}
	}
}

func TestFloatsOfNoNumber(t *testing.T) {
	for _, x := range []float64{
		math.Inf(1), math.Inf(-1), math.NaN(), math.Copysign(math.NaN(), -1),
		math.Float64frombits(0x7ff0000000000001), math.Float64frombits(0xffffffffffffffff),
	} {
		for _, l := range [][]float64{{x}, {x, 1}, {1, x}, {1, 2, x, 3}, {math.Copysign(0, -1), x}} {
			v, ok := vec.Floats(l)
			if ok {
				t.Errorf("Floats(%g) is true", l)
			}
			sample{name: "Floats of no number", v: v}.check(t)
		}
	}
}

func TestZerosHaveNoSign(t *testing.T) {
	signed := math.Copysign(0, -1)
	for _, l := range [][]float64{{0}, {signed}, {signed, 2.5}, {2.5, signed}, {-1, 0, signed, signed, 1}} {
		v, ok := vec.Floats(l)
		if !ok || v.Kind() != api.Float || v.Len() != len(l) {
			t.Errorf("Floats(%g) is %g, %v", l, v.Nums(), ok)
		}
		for i, x := range v.Nums() {
			if math.Signbit(x) && l[i] == 0 || math.Signbit(v.Num(i)) && l[i] == 0 {
				t.Errorf("Floats(%g): the zero at %d has a sign", l, i)
			}
		}
	}
}

func TestNone(t *testing.T) {
	kinds := []struct{ class, kind, of int }{
		{api.Number, api.Bit, api.Number},
		{api.Letter, api.Char, api.Letter},
		{api.Nested, api.Box, api.Nested},
		{3, api.Bit, api.Number},
		{4, api.Bit, api.Number},
		{5, api.Bit, api.Number},
		{6, api.Bit, api.Number},
		{9, api.Bit, api.Number},
		{-1, api.Bit, api.Number},
		{-2, api.Bit, api.Number},
		{256, api.Bit, api.Number},
		{257, api.Bit, api.Number},
		{1<<32 + 1, api.Bit, api.Number},
		{1<<32 + 2, api.Bit, api.Number},
		{math.MaxInt, api.Bit, api.Number},
		{math.MinInt, api.Bit, api.Number},
	}
	for _, k := range kinds {
		sample{name: "None", v: vec.None(k.class), kind: k.kind, class: k.of}.check(t)
	}
}

// P4.2

func TestKindIsTheOneAskedFor(t *testing.T) {
	// The same numbers, in each kind: a vector doesn't go to a lesser one.
	for _, s := range []sample{
		ofBits(true, false), ofSmalls(1, 0), ofInts(t, 1, 0), ofFloats(t, 1, 0),
	} {
		s.check(t)
		if !slices.Equal(s.v.Nums(), []float64{1, 0}) {
			t.Errorf("%s(1 0) has %g", s.name, s.v.Nums())
		}
	}
}

func TestMany(t *testing.T) {
	for _, n := range []int{api.MaxCells, api.MaxCells + 1} {
		smalls, chars, boxes := make([]int8, n), make([]rune, n), make([]vec.Array, n)
		ints, floats := make([]int64, n), make([]float64, n)
		smalls[n-1], ints[n-1], floats[n-1], chars[n-1] = -3, -3, -3, -3
		boxes[n-1].Shape = []int{-3}
		i, intsOK := vec.Ints(ints)
		f, floatsOK := vec.Floats(floats)
		if !intsOK || !floatsOK {
			t.Errorf("%d numbers are refused", n)
		}
		for _, v := range []vec.Vec{vec.Smalls(smalls), i, f} {
			if v.Len() != n || v.Num(n-1) != -3 || len(v.Nums()) != n {
				t.Errorf("%d numbers of kind %d: Len is %d, the last %g", n, v.Kind(), v.Len(), v.Num(n-1))
			}
		}
		if v := vec.Chars(chars); v.Len() != n || v.Char(n-1) != -3 || len(v.Text()) != n {
			t.Errorf("%d characters: Len is %d, the last %d", n, v.Len(), v.Char(n-1))
		}
		if v := vec.Boxes(boxes); v.Len() != n || !same(v.Box(n-1), boxes[n-1]) || len(v.Arrays()) != n {
			t.Errorf("%d boxes: Len is %d, the last %v", n, v.Len(), v.Box(n-1))
		}
	}
	b := vec.Bits(bitvec.Make(api.MaxCells, true))
	if l, ok := b.Wholes(); b.Len() != api.MaxCells || b.Num(api.MaxCells-1) != 1 || !ok || len(l) != api.MaxCells || slices.Min(l) != 1 {
		t.Errorf("%d booleans: Len is %d", api.MaxCells, b.Len())
	}
}

// P4.3

func TestIntegersOfOtherKinds(t *testing.T) {
	// Numbers that are whole, but not of a kind of integers.
	v, _ := vec.Floats([]float64{0, 1, 2, -128, top})
	for i := range v.Len() {
		if n, ok := v.Whole(i); n != 0 || ok {
			t.Errorf("Whole(%d) of Floats is %d, %v", i, n, ok)
		}
	}
	// Characters are no numbers, whatever they look like.
	c := vec.Chars([]rune{'1', 1})
	for i := range c.Len() {
		n, ok := c.Whole(i)
		if c.Num(i) != 0 || n != 0 || ok {
			t.Errorf("character %d is the number %g, %d, %v", i, c.Num(i), n, ok)
		}
	}
}

func TestBox(t *testing.T) {
	l := arrays()
	v := vec.Boxes(l)
	for i, a := range l {
		if !same(v.Box(i), a) {
			t.Errorf("Box(%d) is %v, not %v", i, v.Box(i), a)
		}
	}
	deep := v.Box(3).V.Box(1).V.Box(0)
	if !slices.Equal(deep.Shape, []int{1, 1}) || deep.V.Num(0) != -7 {
		t.Errorf("the box in a box in a box is %v", deep)
	}
}

// P4.5

func TestArgumentsAreLeft(t *testing.T) {
	smalls, ints, floats := []int8{3, -4}, []int64{top, 5}, []float64{math.Copysign(0, -1), 2.5}
	chars, boxes := []rune("xy"), arrays()
	vec.Smalls(smalls)
	vec.Ints(ints)
	vec.Ints(append(ints, top+1))
	vec.Floats(floats)
	vec.Floats(append(floats, math.NaN()))
	vec.Chars(chars)
	vec.Boxes(boxes)
	if !slices.Equal(smalls, []int8{3, -4}) || !slices.Equal(ints, []int64{top, 5}) || !slices.Equal(chars, []rune("xy")) {
		t.Errorf("arguments are now %d, %d and %d", smalls, ints, chars)
	}
	if !math.Signbit(floats[0]) || floats[1] != 2.5 {
		t.Errorf("an argument is now %g", floats)
	}
	if !slices.EqualFunc(boxes, arrays(), same) {
		t.Errorf("an argument is now %v", boxes)
	}
}

func TestWhatWasHandedInChanges(t *testing.T) {
	smalls, ints, floats := []int8{3, -4}, []int64{top, 5}, []float64{0.5, 2.5}
	chars, boxes, bools := []rune("xy"), arrays(), []bool{true, false}
	list := []sample{ofSmalls(smalls...), ofInts(t, ints...), ofFloats(t, floats...), ofChars(chars...), ofBoxes(boxes...), ofBits(bools...)}
	list[1].wholes, list[3].text, list[5].packed = []int64{top, 5}, []rune("xy"), []bool{true, false}
	list[4].arrays = arrays()
	clear(smalls)
	clear(ints)
	clear(floats)
	clear(chars)
	clear(bools)
	boxes[5].Shape[0] = 77
	boxes[1] = vec.Array{Shape: []int{1}, V: vec.Chars([]rune("z"))}
	clear(boxes[6:])
	for _, s := range list {
		s.check(t)
	}
}

func TestSpareRoomIsLeft(t *testing.T) {
	smalls := append(make([]int8, 0, 9), 3, -4)
	ints := append(make([]int64, 0, 9), top, 5)
	floats := append(make([]float64, 0, 9), 0.5, 2.5)
	chars := append(make([]rune, 0, 9), 'x', 'y')
	boxes := append(make([]vec.Array, 0, 99), arrays()...)
	list := []sample{ofSmalls(smalls...), ofInts(t, ints...), ofFloats(t, floats...), ofChars(chars...), ofBoxes(boxes...)}
	if slices.Max(smalls[2:9]) != 0 || slices.Max(ints[2:9]) != 0 || slices.Max(floats[2:9]) != 0 || slices.Max(chars[2:9]) != 0 {
		t.Error("spare room is written to")
	}
	for _, a := range boxes[len(boxes):99] {
		if !blank(a) {
			t.Errorf("spare room holds %v", a)
		}
	}
	list[1].wholes, list[3].text, list[4].arrays = []int64{top, 5}, []rune("xy"), arrays()
	clear(smalls[:9])
	clear(ints[:9])
	clear(floats[:9])
	clear(chars[:9])
	clear(boxes[:99])
	for _, s := range list {
		s.check(t)
	}
}

func TestWhatWasToldChanges(t *testing.T) {
	for _, s := range samples(t) {
		spoil(s.v)
		s.check(t)
	}
}

// spoil changes all that a vector tells.
func spoil(v vec.Vec) {
	if b, ok := v.Packed(); ok {
		clear(b.Words())
		clear(b.Unpack())
	}
	clear(v.Nums())
	whole, _ := v.Wholes()
	clear(whole)
	clear(v.Text())
	for i, a := range v.Arrays() {
		clear(a.Shape)
		clear(v.Box(i).Shape)
	}
	clear(v.Arrays())
}

func TestListsOfOneVectorAreApart(t *testing.T) {
	for _, s := range samples(t) {
		nums, text, boxes := s.v.Nums(), s.v.Text(), s.v.Arrays()
		whole, _ := s.v.Wholes()
		spoil(s.v)
		if !slices.Equal(nums, s.nums) || !slices.Equal(whole, s.wholes) || !slices.Equal(text, s.text) {
			t.Errorf("%s: what was told before is now %g, %d, %d", s.name, nums, whole, text)
		}
		if !slices.EqualFunc(boxes, s.arrays, same) {
			t.Errorf("%s: what was told before is now %v", s.name, boxes)
		}
	}
}

// The chapter's examples.

func TestExamples(t *testing.T) {
	s := vec.Smalls([]int8{3, -4})
	if s.Kind() != 2 || s.Class() != 0 || s.Num(1) != -4 {
		t.Errorf("Smalls(3 -4): kind %d, class %d, Num(1) %g", s.Kind(), s.Class(), s.Num(1))
	}
	b := vec.Bits(bitvec.Pack([]bool{true, false, true}))
	if b.Num(2) != 1 || b.Num(3) != 0 {
		t.Errorf("Bits(1 0 1): Num(2) %g, Num(3) %g", b.Num(2), b.Num(3))
	}
	i, ok := vec.Ints([]int64{top, -5})
	if n, whole := i.Whole(0); !ok || n != top || !whole {
		t.Errorf("Ints(2^53, -5): %v, Whole(0) is %d, %v", ok, n, whole)
	}
	if _, ok := vec.Ints([]int64{top + 1}); ok {
		t.Error("Ints(2^53 + 1) is true")
	}
	f, ok := vec.Floats([]float64{math.Copysign(0, -1), 2.5})
	if _, whole := f.Whole(0); !ok || unlike(f.Num(0), 0) || whole {
		t.Errorf("Floats of a negative zero and 2.5: %v, Num(0) is %g, Whole(0) is %v", ok, f.Num(0), whole)
	}
	if _, ok := vec.Floats([]float64{math.Inf(1)}); ok {
		t.Error("Floats of an infinity is true")
	}
	c := vec.Chars([]rune("xy"))
	if c.Char(1) != 'y' || c.Char(2) != 0 || c.Num(0) != 0 {
		t.Errorf("Chars(xy): Char(1) %d, Char(2) %d, Num(0) %g", c.Char(1), c.Char(2), c.Num(0))
	}
	if vec.None(api.Nested).Kind() != api.Box || vec.None(9).Kind() != api.Bit {
		t.Errorf("None: kinds %d and %d", vec.None(api.Nested).Kind(), vec.None(9).Kind())
	}
}
