package squeeze_test

import (
	"math"
	"slices"
	"testing"

	"rebus/api"
	"rebus/bitvec"
	"rebus/squeeze"
	"rebus/vec"
)

// top is the greatest absolute value of an integer.
const top = 1 << 53

// numeric lists the kinds of numbers, the least one first.
var numeric = []int{api.Bit, api.Small, api.Int, api.Float}

// strange lists numbers that are no kinds.
var strange = []int{0, -1, -2, -3, -4, 7, 8, 9, 127, 255, 256, 257, 260, 1<<32 + 1, 1<<32 + 4, math.MaxInt, math.MinInt, math.MinInt + 1}

// sample is numbers, and the least kind that they fit.
type sample struct {
	l     []float64
	least int
}

// edges lists, for each kind, numbers that fit it, but none that is less.
func edges() map[int][]float64 {
	return map[int][]float64{
		api.Bit:   {0, 1},
		api.Small: {-1, 2, 3, 7, 126, 127, -2, -127, -128},
		api.Int: {
			128, 129, -129, -130, 254, 255, 256, 257, -255, -256, -257, 65536, 65537, 1 << 31, 1<<31 - 1, -1 << 31,
			1 << 32, 1<<32 + 1, -1<<32 - 1, top, top - 1, -top, 1 - top,
		},
		api.Float: {
			top + 2, -top - 2, 1 << 54, 1<<62 + 1024, 1 << 63, -1 << 63, 1 << 64, 1e300, math.MaxFloat64, -math.MaxFloat64,
			0.25, -0.25, 0.5, -0.5, 1.5, 127.5, -128.5, 128.5, -0.1, 1e-300, 0x1p51 + 0.5, math.Pi,
			math.SmallestNonzeroFloat64, -math.SmallestNonzeroFloat64, math.Nextafter(1, 0), math.Nextafter(1, 2),
			math.Nextafter(127, 128), math.Nextafter(-128, -129),
		},
	}
}

// samples lists numbers of each least kind: alone, and first, last and in the
// middle of others that fit a lesser kind.
func samples() []sample {
	all := make([]float64, 256)
	for i := range all {
		all[i] = float64(int8(i))
	}
	bits := make([]float64, 130)
	for _, i := range []int{0, 3, 63, 64, 65, 129} {
		bits[i] = 1
	}
	list := []sample{
		{nil, api.Bit}, {[]float64{}, api.Bit}, {[]float64{1, 0, 1}, api.Bit}, {[]float64{0, 0}, api.Bit},
		{bits[:63], api.Bit}, {bits[:64], api.Bit}, {bits[:65], api.Bit}, {bits, api.Bit},
		{[]float64{1, 127, -128}, api.Small}, {all, api.Small},
		{[]float64{128, 0.5}, api.Float}, {[]float64{top, top + 2}, api.Float},
	}
	lesser := map[int][]float64{api.Bit: {0, 1}, api.Small: {1, 0}, api.Int: {-128, 1, 127}, api.Float: {top, 0, -5, 1}}
	for _, kind := range numeric {
		for _, x := range edges()[kind] {
			others := lesser[kind]
			list = append(list,
				sample{[]float64{x}, kind},
				sample{append([]float64{x}, others...), kind},
				sample{append(slices.Clone(others), x), kind},
				sample{slices.Concat(others, []float64{x}, others), kind})
		}
		// Among so many as several words of bits hold, one is enough to decide.
		list = append(list, sample{slices.Concat(bits, edges()[kind][1:2], bits), kind})
	}
	return list
}

// made makes a vector of a kind, without the functions that are tested.
func made(t *testing.T, l []float64, kind int) vec.Vec {
	t.Helper()
	ok := true
	var v vec.Vec
	switch kind {
	case api.Bit:
		bools := make([]bool, len(l))
		for i, x := range l {
			bools[i] = x == 1
		}
		v = vec.Bits(bitvec.Pack(bools))
	case api.Small:
		smalls := make([]int8, len(l))
		for i, x := range l {
			smalls[i] = int8(x)
		}
		v = vec.Smalls(smalls)
	case api.Int:
		ints := make([]int64, len(l))
		for i, x := range l {
			ints[i] = int64(x)
		}
		v, ok = vec.Ints(ints)
	default:
		v, ok = vec.Floats(l)
	}
	if !ok || v.Kind() != kind || !slices.EqualFunc(v.Nums(), l, alike) {
		t.Fatalf("the test can't make kind %d of %g", kind, l)
	}
	return v
}

// others lists vectors that hold no numbers.
func others() []vec.Vec {
	return []vec.Vec{
		vec.Chars(nil), vec.Chars([]rune{0, 1}), vec.Chars([]rune("xy")), vec.Chars([]rune{'1'}), vec.None(api.Letter),
		vec.Boxes(nil), vec.Boxes([]vec.Array{{}}), vec.None(api.Nested),
		vec.Boxes([]vec.Array{{Shape: []int{2}, V: vec.Smalls([]int8{1, 0})}, {V: vec.Chars([]rune("z"))}}),
	}
}

// alike tells whether two float64s are the same, in the sign of a zero too.
func alike(x, y float64) bool { return math.Float64bits(x) == math.Float64bits(y) }

// same tells whether two vectors are of one kind and tell the same.
func same(a, b vec.Vec) bool {
	return a.Kind() == b.Kind() && a.Len() == b.Len() &&
		slices.EqualFunc(a.Nums(), b.Nums(), alike) &&
		slices.Equal(a.Text(), b.Text()) &&
		slices.EqualFunc(a.Arrays(), b.Arrays(), func(x, y vec.Array) bool {
			return slices.Equal(x.Shape, y.Shape) && same(x.V, y.V)
		})
}

// is tells whether a vector is of a kind and has these numbers.
func is(v vec.Vec, kind int, l []float64) bool {
	if b, ok := v.Packed(); ok && !b.Tidy() {
		return false
	}
	return v.Kind() == kind && v.Class() == api.Number && v.Len() == len(l) && slices.EqualFunc(v.Nums(), l, alike)
}

// P5.1

func TestEachKindThatHoldsThem(t *testing.T) {
	for _, s := range samples() {
		for kind := s.least; kind <= api.Float; kind++ {
			v := made(t, s.l, kind)
			if least := squeeze.Least(v); least != s.least {
				t.Errorf("Least of %g in kind %d is %d, not %d", s.l, kind, least, s.least)
			}
			if tight := squeeze.Tight(v); tight != (kind == s.least) {
				t.Errorf("Tight of %g in kind %d is %v", s.l, kind, tight)
			}
			if z := squeeze.Squeeze(v); !is(z, s.least, s.l) {
				t.Errorf("Squeeze of %g in kind %d is %g in kind %d, not %d", s.l, kind, z.Nums(), z.Kind(), s.least)
			}
			if !is(v, kind, s.l) {
				t.Errorf("%g in kind %d became %g in kind %d", s.l, kind, v.Nums(), v.Kind())
			}
		}
	}
}

func TestEmptyOfEachKind(t *testing.T) {
	ints, _ := vec.Ints(nil)
	floats, _ := vec.Floats(nil)
	for _, v := range []vec.Vec{{}, vec.None(api.Number), vec.Bits(bitvec.Bits{}), vec.Smalls(nil), ints, floats} {
		if squeeze.Least(v) != api.Bit || squeeze.Tight(v) != (v.Kind() == api.Bit) || !is(squeeze.Squeeze(v), api.Bit, nil) {
			t.Errorf("no elements of kind %d: Least is %d, Tight %v", v.Kind(), squeeze.Least(v), squeeze.Tight(v))
		}
	}
}

func TestOtherClassesAreTight(t *testing.T) {
	for _, v := range others() {
		if squeeze.Least(v) != v.Kind() || !squeeze.Tight(v) || !same(squeeze.Squeeze(v), v) {
			t.Errorf("%v of kind %d: Least is %d, Tight %v", v, v.Kind(), squeeze.Least(v), squeeze.Tight(v))
		}
	}
}

func TestMany(t *testing.T) {
	for _, x := range []float64{0, 1, 127, -128, 128, -129, top, top + 2, 0.5} {
		least := squeeze.Least(made(t, []float64{x}, api.Float))
		for _, at := range []int{0, api.MaxCells / 2, api.MaxCells - 1} {
			l := make([]float64, api.MaxCells)
			l[at] = x
			for kind := least; kind <= api.Float; kind++ {
				if z := squeeze.Squeeze(made(t, l, kind)); !is(z, least, l) || !squeeze.Tight(z) {
					t.Errorf("%g at %d of %d in kind %d: Squeeze is of kind %d, Len %d", x, at, len(l), kind, z.Kind(), z.Len())
				}
			}
		}
	}
}

// Bits hold no more than api.MaxCells booleans; no element may be lost.
func TestMoreThanBitsHold(t *testing.T) {
	l := make([]float64, api.MaxCells+1)
	l[api.MaxCells] = 1
	for _, kind := range []int{api.Small, api.Int, api.Float} {
		v := made(t, l, kind)
		z := squeeze.Squeeze(v)
		if !is(z, api.Small, l) || !squeeze.Tight(z) || squeeze.Tight(v) != (kind == api.Small) {
			t.Errorf("%d of 0 and 1 in kind %d: Squeeze is of kind %d, Len %d", len(l), kind, z.Kind(), z.Len())
		}
		if w, ok := squeeze.Into(v, api.Bit); ok || !same(w, vec.Vec{}) {
			t.Errorf("%d of 0 and 1 in kind %d went into bits", len(l), kind)
		}
	}
	if v, ok := squeeze.Numbers(l); !ok || !is(v, api.Small, l) {
		t.Errorf("Numbers of %d: kind %d, Len %d", len(l), v.Kind(), v.Len())
	}
	l[0] = 128
	if v, ok := squeeze.Numbers(l); !ok || !is(v, api.Int, l) {
		t.Errorf("Numbers of 128 and %d more: kind %d, Len %d", len(l)-1, v.Kind(), v.Len())
	}
}

// P5.2: Into

func TestIntoEachKind(t *testing.T) {
	for _, s := range samples() {
		for from := s.least; from <= api.Float; from++ {
			v := made(t, s.l, from)
			for _, kind := range numeric {
				z, ok := squeeze.Into(v, kind)
				if fit := kind >= s.least; ok != fit || fit && !is(z, kind, s.l) || !fit && !same(z, vec.Vec{}) {
					t.Errorf("Into of %g in kind %d and %d is %g in kind %d, %v", s.l, from, kind, z.Nums(), z.Kind(), ok)
				}
			}
			if !is(v, from, s.l) {
				t.Errorf("%g in kind %d became %g in kind %d", s.l, from, v.Nums(), v.Kind())
			}
		}
	}
}

func TestIntoKindsThatAreNotOfNumbers(t *testing.T) {
	for _, s := range samples() {
		for from := s.least; from <= api.Float; from++ {
			v := made(t, s.l, from)
			for _, kind := range append([]int{api.Char, api.Box}, strange...) {
				if z, ok := squeeze.Into(v, kind); ok || !same(z, vec.Vec{}) {
					t.Errorf("Into of %g and %d is %g in kind %d, %v", s.l, kind, z.Nums(), z.Kind(), ok)
				}
			}
		}
	}
}

func TestIntoOfOtherClasses(t *testing.T) {
	for _, v := range others() {
		for _, kind := range slices.Concat(numeric, []int{api.Char, api.Box}, strange) {
			z, ok := squeeze.Into(v, kind)
			if own := kind == v.Kind(); ok != own || own && !same(z, v) || !own && !same(z, vec.Vec{}) {
				t.Errorf("Into of %v and %d is %v, %v", v, kind, z, ok)
			}
		}
	}
}

func TestIntoOfTheZeroValue(t *testing.T) {
	for _, kind := range numeric {
		if z, ok := squeeze.Into(vec.Vec{}, kind); !ok || !is(z, kind, nil) {
			t.Errorf("Into of the zero value and %d is of kind %d, %v", kind, z.Kind(), ok)
		}
	}
	for _, kind := range append([]int{api.Char, api.Box}, strange...) {
		if z, ok := squeeze.Into(vec.Vec{}, kind); ok != (kind == 0) || !same(z, vec.Vec{}) {
			t.Errorf("Into of the zero value and %d is of kind %d, %v", kind, z.Kind(), ok)
		}
	}
}

func TestIntoMany(t *testing.T) {
	l := make([]float64, api.MaxCells)
	l[api.MaxCells-1] = 1
	for _, from := range numeric {
		v := made(t, l, from)
		for _, kind := range numeric {
			if z, ok := squeeze.Into(v, kind); !ok || !is(z, kind, l) {
				t.Errorf("Into of %d in kind %d and %d is of kind %d, Len %d, %v", len(l), from, kind, z.Kind(), z.Len(), ok)
			}
		}
	}
}

// P5.2: Numbers

func TestNumbers(t *testing.T) {
	for _, s := range samples() {
		given := slices.Clone(s.l)
		v, ok := squeeze.Numbers(given)
		if !ok || !is(v, s.least, s.l) {
			t.Errorf("Numbers(%g) is %g in kind %d, %v, not in kind %d", s.l, v.Nums(), v.Kind(), ok, s.least)
		}
		if !slices.EqualFunc(given, s.l, alike) {
			t.Errorf("Numbers(%g) left %g", s.l, given)
		}
	}
}

func TestNumbersOfSignedZeros(t *testing.T) {
	signed := math.Copysign(0, -1)
	for _, s := range []struct {
		given, want []float64
		kind        int
	}{
		{[]float64{signed}, []float64{0}, api.Bit},
		{[]float64{1, signed}, []float64{1, 0}, api.Bit},
		{[]float64{signed, -128}, []float64{0, -128}, api.Small},
		{[]float64{top, signed, signed}, []float64{top, 0, 0}, api.Int},
		{[]float64{signed, 0.5, signed}, []float64{0, 0.5, 0}, api.Float},
	} {
		before := slices.Clone(s.given)
		if v, ok := squeeze.Numbers(s.given); !ok || !is(v, s.kind, s.want) {
			t.Errorf("Numbers(%g) is %g in kind %d, %v", before, v.Nums(), v.Kind(), ok)
		}
		if !slices.EqualFunc(s.given, before, alike) {
			t.Errorf("Numbers(%g) left %g", before, s.given)
		}
	}
}

func TestNumbersOfWhatIsNone(t *testing.T) {
	for _, x := range []float64{math.Inf(1), math.Inf(-1), math.NaN(), math.Float64frombits(0xfff0000000000001)} {
		for _, l := range [][]float64{{x}, {x, 1}, {1, x}, {1, 0.5, x, 300}, {x, x}, append(make([]float64, 200), x)} {
			if v, ok := squeeze.Numbers(l); ok || !same(v, vec.Vec{}) {
				t.Errorf("Numbers(%g) is %g in kind %d, %v", l, v.Nums(), v.Kind(), ok)
			}
		}
	}
}

func TestNumbersKeepsNoneOfWhatItWasGiven(t *testing.T) {
	for _, s := range samples() {
		room := append(make([]float64, 0, len(s.l)+9), s.l...)
		v, _ := squeeze.Numbers(room)
		for _, x := range room[len(s.l):cap(room)] {
			if x != 0 {
				t.Errorf("Numbers(%g) wrote %g behind it", s.l, x)
			}
		}
		for i := range room[:cap(room)] {
			room[:cap(room)][i] = 99.5
		}
		if !is(v, s.least, s.l) {
			t.Errorf("Numbers(%g) became %g with its argument", s.l, v.Nums())
		}
	}
}

// P5.2: Common

func TestCommon(t *testing.T) {
	kinds := slices.Concat(numeric, []int{api.Char, api.Box}, strange)
	for _, a := range kinds {
		for _, b := range kinds {
			want := 0
			switch {
			case a == b:
				want = a
			case slices.Contains(numeric, a) && slices.Contains(numeric, b):
				want = max(a, b)
			}
			if got := squeeze.Common(a, b); got != want {
				t.Errorf("Common(%d, %d) is %d, not %d", a, b, got, want)
			}
		}
	}
}

// P5.3

func TestWidenAndSqueeze(t *testing.T) {
	for _, s := range samples() {
		v := made(t, s.l, s.least)
		for kind := s.least; kind <= api.Float; kind++ {
			wide, ok := squeeze.Into(v, kind)
			if z := squeeze.Squeeze(wide); !ok || !same(z, v) || !squeeze.Tight(z) {
				t.Errorf("%g widened to kind %d and squeezed is %g in kind %d", s.l, kind, z.Nums(), z.Kind())
			}
		}
	}
}

func TestSqueezeTwice(t *testing.T) {
	ints, _ := vec.Ints([]int64{5, 0})
	list := append(others(), vec.Vec{}, vec.Smalls([]int8{1, 1}), ints)
	for _, v := range list {
		once := squeeze.Squeeze(v)
		if twice := squeeze.Squeeze(once); !same(once, twice) || !squeeze.Tight(once) {
			t.Errorf("%v squeezed is %v of kind %d, and squeezed again %v of kind %d", v, once, once.Kind(), twice, twice.Kind())
		}
	}
}

// Boxes are not looked into: what is in them stays in its kind.
func TestWhatIsInBoxesIsLeft(t *testing.T) {
	v := squeeze.Squeeze(vec.Boxes([]vec.Array{{Shape: []int{1}, V: vec.Smalls([]int8{1})}}))
	if inner := v.Box(0); v.Kind() != api.Box || v.Len() != 1 || !is(inner.V, api.Small, []float64{1}) || !slices.Equal(inner.Shape, []int{1}) {
		t.Errorf("the array in a box became %v", inner)
	}
}

// The chapter's examples.

func TestExamples(t *testing.T) {
	for _, s := range []sample{
		{nil, 1}, {[]float64{1, 0, 1}, 1}, {[]float64{1, 127, -128}, 2}, {[]float64{128}, 3}, {[]float64{1, 128}, 3},
		{[]float64{top}, 3}, {[]float64{top + 2}, 4}, {[]float64{1, 0.25}, 4},
	} {
		if v, ok := squeeze.Numbers(s.l); !ok || v.Kind() != s.least {
			t.Errorf("Numbers(%g) has the kind %d, %v", s.l, v.Kind(), ok)
		}
	}
	wide, ok := squeeze.Into(vec.Bits(bitvec.Pack([]bool{true, false})), api.Float)
	if !ok || wide.Kind() != api.Float || squeeze.Tight(wide) || squeeze.Squeeze(wide).Kind() != api.Bit {
		t.Errorf("Into of 1 0 and Float: kind %d, %v", wide.Kind(), ok)
	}
	if _, ok := squeeze.Into(vec.Smalls([]int8{2}), api.Bit); ok {
		t.Error("Into of 2 and Bit is true")
	}
	if _, ok := squeeze.Into(vec.Chars([]rune("xy")), api.Bit); ok {
		t.Error("Into of characters and Bit is true")
	}
	if squeeze.Common(api.Bit, api.Int) != api.Int || squeeze.Common(api.Char, api.Int) != 0 || squeeze.Common(api.Box, api.Box) != api.Box {
		t.Error("Common is not as the chapter's examples have it")
	}
}
