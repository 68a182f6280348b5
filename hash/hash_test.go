package hash_test

import (
	"fmt"
	"math"
	"slices"
	"strconv"
	"testing"

	"rebus/api"
	"rebus/bitvec"
	"rebus/flat"
	"rebus/hash"
	"rebus/squeeze"
	"rebus/value"
	"rebus/vec"
)

// most is the greatest number of elements, and top the greatest whole number.
const (
	most = 1 << 20
	top  = 1 << 53
)

// numeric lists the kinds of numbers, the least one first.
var numeric = []int{api.Bit, api.Small, api.Int, api.Float}

// below and above list numbers that are none of elements: less than 0, and more than there
// can be.
var below = []int{math.MinInt, math.MinInt + 1, -1 << 62, -1 << 32, math.MinInt32, -most - 1, -most, -257, -256, -65, -64, -3, -2, -1}

var above = []int{most + 1, most + 2, 2 * most, math.MaxInt32, math.MaxUint32, 1 << 32, 1<<32 + 1, 1 << 60, 1 << 62, 1<<62 + 1, math.MaxInt - 1, math.MaxInt}

// How vectors of each kind are made.

func flags(l ...int) vec.Vec {
	return vec.Bits(bitvec.Pack(list(len(l), func(i int) bool { return l[i] == 1 })))
}

func smalls(l ...int8) vec.Vec { return vec.Smalls(l) }

func ints(l ...int64) vec.Vec {
	v, ok := vec.Ints(l)
	if !ok {
		panic("no integers of at most 2^53")
	}
	return v
}

func floats(l ...float64) vec.Vec {
	v, ok := vec.Floats(l)
	if !ok {
		panic("no numbers")
	}
	return v
}

func text(s string) vec.Vec { return vec.Chars([]rune(s)) }

func boxes(l ...vec.Array) vec.Vec { return vec.Boxes(l) }

func array(v vec.Vec, s ...int) vec.Array { return vec.Array{Shape: s, V: v} }

// made makes a vector of a kind that numbers fit.
func made(l []float64, kind int) vec.Vec {
	switch kind {
	case api.Bit:
		return vec.Bits(bitvec.Pack(list(len(l), func(i int) bool { return l[i] == 1 })))
	case api.Small:
		return vec.Smalls(list(len(l), func(i int) int8 { return int8(l[i]) }))
	case api.Int:
		return ints(list(len(l), func(i int) int64 { return int64(l[i]) })...)
	}
	return floats(l...)
}

// least tells the least kind that numbers fit.
func least(l []float64) int {
	kind := api.Bit
	for _, x := range l {
		switch {
		case x != math.Trunc(x) || math.Abs(x) > top:
			return api.Float
		case x < -128 || x > 127:
			kind = max(kind, api.Int)
		case x != 0 && x != 1 || len(l) > most:
			kind = max(kind, api.Small)
		}
	}
	return kind
}

// kindsOf makes vectors of numbers in all kinds that they fit.
func kindsOf(l []float64) []vec.Vec {
	var z []vec.Vec
	for _, kind := range numeric {
		if kind >= least(l) {
			z = append(z, made(l, kind))
		}
	}
	return z
}

// list makes n elements by a rule.
func list[T any](n int, rule func(i int) T) []T {
	l := make([]T, n)
	for i := range l {
		l[i] = rule(i)
	}
	return l
}

// steps lists n of the elements of a list, the same ones each time.
func steps[T any](l []T, n, seed int) []T {
	x := uint32(seed)
	return list(n, func(int) T {
		x = x*1664525 + 1013904223
		return l[int(x>>8)%len(l)]
	})
}

// ascending lists the places from 0 to below n, and descending the other way round.
func ascending(n int) []int { return list(n, func(i int) int { return i }) }

func descending(n int) []int { return list(n, func(i int) int { return n - 1 - i }) }

// few is the beginning of a list, as much of it as one can read.
func few[T any](l []T) []T { return l[:min(len(l), 40)] }

// ladder lists numbers that ascend, each of them greater than the one before it, many of
// them by the least step that there is.
func ladder() []float64 {
	inf := math.Inf(1)
	return []float64{
		-math.MaxFloat64, math.Nextafter(-math.MaxFloat64, 0), -1e300, -1 << 63, -top - 2, -top, -top + 1, -1<<32 - 1, -1 << 32, -1 << 31, -300,
		math.Nextafter(-129, -inf), -129, -128.5, math.Nextafter(-128, -inf), -128, -127, -100, -2, math.Nextafter(-1, -inf), -1, math.Nextafter(-1, 0), -0.5,
		-0x1p-1022, -2 * math.SmallestNonzeroFloat64, -math.SmallestNonzeroFloat64, 0, math.SmallestNonzeroFloat64, 2 * math.SmallestNonzeroFloat64, 0x1p-1022,
		0.1, 0.5, math.Nextafter(1, 0), 1, math.Nextafter(1, inf), 1.5, 2, 100, 126, 127, math.Nextafter(127, inf), 127.5, 128, 255, 256, 257, 2047, 2048,
		1 << 31, 1<<32 - 1, 1 << 32, 1<<32 + 1, top/2 - 0.5, top / 2, top - 1, top, top + 2, 1 << 63, 1e300, math.Nextafter(math.MaxFloat64, 0), math.MaxFloat64,
	}
}

// rungs lists the numbers of the ladder that fit a kind.
func rungs(kind int) []float64 {
	return slices.DeleteFunc(ladder(), func(x float64) bool { return least([]float64{x}) > kind })
}

// alphabet lists runes that ascend: of one to four bytes, and such as are none of
// Unicode's.
func alphabet() []rune {
	return []rune{
		math.MinInt32, math.MinInt32 + 1, -65536, -256, -2, -1, 0, 1, '\t', ' ', '0', '9', 'A', 'Z', 'a', 'b', 'z', 0x7f, 0x80, 0xe9, 0xff, 0x100, 0x17f, 0x7ff, 0x800,
		0x2190, 0x2374, 0xd7ff, 0xd800, 0xdfff, 0xe000, 0xfffd, 0xffff, 0x10000, 0x1f600, 0x10ffff, 0x110000, math.MaxInt32 - 1, math.MaxInt32,
	}
}

// family lists arrays that are all alike to each other: one list of numbers, in all kinds
// that it fits.
func family(l []float64, s ...int) []vec.Array {
	var z []vec.Array
	for _, v := range kindsOf(l) {
		z = append(z, array(v, s...))
	}
	return z
}

// nobodies lists arrays without elements that are alike: of each kind of numbers, and of
// none.
func nobodies(s ...int) []vec.Array {
	return append(family(nil, s...), array(vec.Vec{}, s...), array(vec.None(api.Number), s...))
}

// families lists lists of arrays: those of one list are alike, and those of two lists are
// not, as they differ in shape, class, or an element.
func families() [][]vec.Array {
	letters := func(s string, shape ...int) []vec.Array {
		return []vec.Array{array(text(s), shape...), array(text(s), slices.Clone(shape)...)}
	}
	inBoxes := func(inner []vec.Array, shape ...int) []vec.Array {
		return list(len(inner), func(i int) vec.Array { return array(boxes(inner[i]), shape...) })
	}
	one, two := family([]float64{1}), family([]float64{1, 0}, 2)
	z := [][]vec.Array{
		family([]float64{0}), one, family([]float64{97}), family([]float64{300}), family([]float64{0.5}), family([]float64{top}), family([]float64{-top}),
		family([]float64{math.MaxFloat64}), family([]float64{-math.MaxFloat64}), family([]float64{math.SmallestNonzeroFloat64}),
		family([]float64{1}, 1), family([]float64{1}, 1, 1), family([]float64{1}, 1, 1, 1, 1, 1, 1, 1, 1), two, family([]float64{0, 1}, 2), family([]float64{1, 0}, 1, 2),
		family([]float64{1, 0}, 2, 1), family([]float64{1, 0, 1}, 3), family([]float64{1, 0, 0}, 3), family([]float64{0, 0}, 2), family([]float64{0, 0, 0}, 3),
		family([]float64{1, 2, 3, 4, 5, 6}, 2, 3), family([]float64{1, 2, 3, 4, 5, 6}, 3, 2), family([]float64{1, 2, 3, 4, 5, 6}, 6), family([]float64{1, 2, 3, 4, 5, 7}, 6),
		nobodies(0), nobodies(0, 2), nobodies(2, 0), nobodies(0, 0),
		letters("a"), letters("b"), letters("\x00"), letters("\x01"), letters("a", 1), letters("hi", 2), letters("hi", 1, 2), letters("ih", 2), letters("", 0), letters("", 0, 2),
		{array(boxes(), 0), array(vec.None(api.Nested), 0)}, {array(boxes(), 3, 0), array(vec.None(api.Nested), 3, 0)},
		inBoxes(one), inBoxes(one, 1), inBoxes(two), inBoxes(nobodies(0)), inBoxes(letters("hi", 2)), inBoxes(letters("hi", 1, 2)), inBoxes(inBoxes(one)), inBoxes(inBoxes(inBoxes(one), 1)),
	}
	return append(z, []vec.Array{
		array(boxes(one[0], two[3], array(text("x"))), 3), array(boxes(one[3], two[0], array(text("x"))), 3), array(boxes(one[2], two[1], array(text("x"))), 3),
	}, []vec.Array{
		array(boxes(two[3], one[0], array(text("x"))), 3), array(boxes(two[0], one[3], array(text("x"))), 3),
	})
}

// boxed lists boxes of all families, those that are alike not side by side.
func boxed() vec.Vec {
	var l []vec.Array
	for i := range 7 {
		for _, alike := range families() {
			if i < len(alike) {
				l = append(l, alike[i])
			}
		}
	}
	return boxes(l...)
}

// inside is a box that contains a box that contains another one, and so on, so many of
// them, and a number in the innermost one.
func inside(depth int, x vec.Vec) vec.Array {
	a := array(x)
	for range depth {
		a = array(boxes(a))
	}
	return a
}

// A calling is what there is to tell of an element: alike ones have one, and others have
// none of it.
type calling struct {
	class int
	bits  uint64
	inner string
}

// called tells the calling of an element.
func called(v vec.Vec, i int) calling {
	switch v.Class() {
	case api.Letter:
		return calling{class: api.Letter, bits: uint64(v.Char(i))}
	case api.Nested:
		a := v.Box(i)
		return calling{class: api.Nested, inner: fmt.Sprint(a.Shape, a.V.Class(), callings(a.V))}
	}
	return calling{class: api.Number, bits: math.Float64bits(v.Num(i))}
}

// callings tells the callings of all elements.
func callings(v vec.Vec) []calling {
	return list(v.Len(), func(i int) calling { return called(v, i) })
}

// vectors lists vectors of each kind: of no elements, of one, of some that are alike, of
// some that are all alike, or all different.
func vectors() map[string]vec.Vec {
	z := map[string]vec.Vec{
		"no kind": {}, "no bits": flags(), "no smalls": smalls(), "no ints": ints(), "no floats": floats(), "no text": text(""), "no boxes": boxes(),
		"a bit": flags(1), "a small": smalls(5), "an int": ints(300), "a float": floats(0.5), "a character": text("x"), "a box": boxes(array(text("x"))),
		"bits": flags(1, 0, 0, 1, 0), "zeros": flags(0, 0, 0), "smalls": smalls(5, 6, 5, -128, 127, 5, 0), "sevens": smalls(7, 7, 7, 7), "small bits": smalls(0, 1, 1, 0),
		"ints": ints(300, 5, -top, top, 300, 0, top, 1), "int bits": ints(1, 1, 0), "int smalls": ints(5, 7, 97, -1, 5), "ints that fit nothing less": ints(300, 300, top-1, 300, 0, 1, 300),
		"floats": floats(0.5, -1, 0.5, 1e300, -1e300, 0, 300), "float bits": floats(0, 1, 0, 0), "float smalls": floats(5, 6, 7, 5, 127), "float ints": floats(300, top, -top, 300), "halves": floats(0.5, 0.5),
		"zeros of both signs": floats(math.Copysign(0, -1), 0, math.Copysign(0, -1), 1),
		"text":                text("abracadabra"), "characters that are alike": text("aaaa"), "characters that are not": text("xyzab\x05\x00\x01"), "runes": vec.Chars(alphabet()), "runes again": vec.Chars(steps(alphabet(), 60, 3)),
		"families": boxed(), "some boxes": boxes(slices.Concat(families()[3], families()[0], families()[14], families()[3])...),
		"boxes that are alike": boxes(slices.Concat(families()[1], families()[1])...), "boxes that are not": boxes(list(len(families()), func(i int) vec.Array { return families()[i][0] })...),
		"deep boxes": boxes(inside(38, flags(1)), inside(37, flags(1)), inside(38, floats(1)), inside(38, flags(0)), inside(37, ints(1))),
		"twins":      boxes(slices.Concat(twins(5), twins(3))...),
	}
	for _, kind := range numeric {
		for i, v := range kindsOf(rungs(kind)) {
			z[fmt.Sprintf("rungs of kind %d, %d", kind, i)] = v
		}
		for i, v := range kindsOf(steps(rungs(kind), 100, kind)) {
			z[fmt.Sprintf("steps of kind %d, %d", kind, i)] = v
		}
	}
	return z
}

// unmixed tells which number it is that the package makes this key of.
func unmixed(key uint64) uint64 {
	x := unshifted(key, 31)
	x = unshifted(x*inverse(0x94d049bb133111eb), 27)
	x = unshifted(x*inverse(0xbf58476d1ce4e5b9), 30)
	return x - 0x9e3779b97f4a7c15
}

// unshifted tells the x of which x ^ x>>n is z.
func unshifted(z uint64, n int) uint64 {
	x := z
	for range 3 {
		x = z ^ x>>n
	}
	return x
}

// inverse tells the number whose product with an odd one is 1.
func inverse(odd uint64) uint64 {
	x := odd
	for range 6 {
		x *= 2 - odd*x
	}
	return x
}

// twins lists n arrays that are not alike, but whose boxes have one key: each has a number
// that makes up for what the number ahead of it has changed. They lean on how the package
// makes keys, for which a test asks.
func twins(n int) []vec.Array {
	plain := func(x uint64) uint64 {
		x += 0x9e3779b97f4a7c15
		x = (x ^ x>>30) * 0xbf58476d1ce4e5b9
		x = (x ^ x>>27) * 0x94d049bb133111eb
		return x ^ x>>31
	}
	shaped := plain(31*plain(api.Number) + 2)
	var z []vec.Array
	for x := 1.0; len(z) < n; x++ {
		ahead := plain(31*shaped + plain(math.Float64bits(x)))
		y := math.Float64frombits(unmixed(unmixed(12345) - 31*ahead))
		if !math.IsNaN(y) && !math.IsInf(y, 0) && y != 0 {
			z = append(z, array(floats(x, y), 2))
		}
	}
	return z
}

// P19.1: Key

// oneKey checks that elements have one key, wherever they stand in vectors.
func oneKey(t *testing.T, what string, l ...vec.Vec) {
	t.Helper()
	want := hash.Key(l[0], 0)
	for j, v := range l {
		for i := range v.Len() {
			if key := hash.Key(v, i); key != want {
				t.Errorf("%s: vector %d, element %d, has the key %x, not %x", what, j, i, key, want)
			}
		}
	}
}

func TestKeyOfNumbersInAllKinds(t *testing.T) {
	for _, x := range ladder() {
		oneKey(t, fmt.Sprint(x), append(kindsOf([]float64{x}), kindsOf([]float64{x, x, x})...)...)
	}
	for _, kind := range numeric {
		l := rungs(kind)
		for _, v := range kindsOf(l) {
			for i, x := range l {
				if hash.Key(v, i) != hash.Key(floats(x), 0) {
					t.Errorf("%v of kind %d has not the key of the same number by itself", x, v.Kind())
				}
			}
		}
	}
}

func TestKeyOfAllSmalls(t *testing.T) {
	for x := -128.0; x < 128; x++ {
		oneKey(t, fmt.Sprint(x), kindsOf([]float64{x, x})...)
	}
}

func TestKeyOfZeros(t *testing.T) {
	zero := math.Copysign(0, -1)
	oneKey(t, "zeros", floats(zero, 0, zero), flags(0, 0), smalls(0), ints(0, 0), floats(0))
	oneKey(t, "boxes of zeros", boxes(array(floats(zero)), array(floats(0)), array(flags(0)), array(smalls(0)), array(ints(0))))
}

func TestKeyOfCharacters(t *testing.T) {
	all := vec.Chars(alphabet())
	for i, r := range alphabet() {
		oneKey(t, fmt.Sprint(r), vec.Chars([]rune{r}), vec.Chars([]rune{r, r}))
		if hash.Key(all, i) != hash.Key(vec.Chars([]rune{r}), 0) {
			t.Errorf("the character %d has not the key of the same one by itself", r)
		}
	}
}

func TestKeyOfBoxes(t *testing.T) {
	for i, alike := range families() {
		turned := slices.Clone(alike)
		slices.Reverse(turned)
		oneKey(t, fmt.Sprintf("family %d", i), boxes(alike...), boxes(turned...))
		// In a box of another one, too.
		oneKey(t, fmt.Sprintf("family %d, boxed", i), boxes(list(len(alike), func(k int) vec.Array { return array(boxes(alike[k], turned[k]), 2) })...))
	}
	for depth := range 40 {
		oneKey(t, fmt.Sprintf("depth %d", depth), boxes(inside(depth, flags(1)), inside(depth, smalls(1)), inside(depth, ints(1)), inside(depth, floats(1))))
	}
}

// What value takes for alike has one key, and what it doesn't has another one: there are
// so many keys that none of these few elements comes to that of another one, but for
// twins.
func TestKeyTellsApart(t *testing.T) {
	all := vectors()
	delete(all, "twins")
	for what, v := range all {
		for other, w := range all {
			if v.Class() != w.Class() || v.Len()*w.Len() > 20000 {
				continue
			}
			for i := range v.Len() {
				for k := range w.Len() {
					if same := hash.Key(v, i) == hash.Key(w, k); same != value.Alike(v, i, w, k) {
						t.Errorf("%s, element %d, and %s, element %d: one key is %t", what, i, other, k, same)
					}
				}
			}
		}
	}
}

// A key depends on nothing but the element.
func TestKeyIsTheSameAgain(t *testing.T) {
	for what, v := range vectors() {
		keys := list(v.Len(), func(i int) uint64 { return hash.Key(v, i) })
		for i := range keys {
			if hash.Key(v, i) != keys[i] || hash.Key(flat.Pick(v, []int{i}), 0) != keys[i] {
				t.Errorf("%s, element %d: another key", what, i)
			}
		}
	}
}

// There is no promise for an element that is none, but that there is an end to it.
func TestKeyOfNoElement(t *testing.T) {
	for what, v := range vectors() {
		for _, i := range slices.Concat(below, above, []int{v.Len(), v.Len() + 1}) {
			if key := hash.Key(v, i); key != 0 {
				t.Errorf("%s, element %d: the key %x", what, i, key)
			}
		}
	}
}

// Arrays that are not as they must be have keys, too.
func TestKeyOfStrangeArrays(t *testing.T) {
	strange := []vec.Array{
		{}, array(flags(1, 0)), array(flags(1), -1), array(vec.Vec{}, 3), array(text("ab"), math.MinInt, math.MaxInt), array(boxes(array(flags(), -5)), 2), inside(500, flags(1)),
		array(smalls(1), 1, 1, 1, 1, 1, 1, 1, 1, 1, 1, 1, 1, 1), array(floats(1), 1, 1, 1, 1, 1, 1, 1, 1, 1, 1, 1, 1, 1),
	}
	v := boxes(slices.Concat(strange, strange)...)
	for i := range strange {
		if hash.Key(v, i) != hash.Key(v, i+len(strange)) {
			t.Errorf("array %d has two keys", i)
		}
	}
	finds(t, "strange arrays", v, v)
}

// P19.2: New, Put, Get

// A holding is what a table holds, by the callings of the elements.
type holding map[calling]int

// where tells the place of an element that is alike; -1, if there is none.
func (h holding) where(v vec.Vec, i int) int { return h.placeOf(called(v, i)) }

func (h holding) placeOf(c calling) int {
	if place, ok := h[c]; ok {
		return place
	}
	return -1
}

// put tells what Put must tell, and puts the place in.
func (h holding) put(v vec.Vec, i int) int {
	c := called(v, i)
	if h.placeOf(c) < 0 {
		h[c] = i
	}
	return h[c]
}

// puts checks what a table of a vector tells, where places are put in, one after the
// other.
func puts(t *testing.T, what string, v vec.Vec, n int, places []int) *hash.Table {
	t.Helper()
	table, held := hash.New(v, n), holding{}
	gets(t, what+", empty", table, held, v)
	for j, i := range places {
		if place, want := table.Put(i), held.put(v, i); place != want {
			t.Errorf("%s, room %d, %v: Put(%d) after %d others is %d, not %d", what, n, few(places), i, j, place, want)
		}
		if place := table.Get(v, i); place != held.where(v, i) {
			t.Errorf("%s, room %d, %v: Get(%d) after Put is %d, not %d", what, n, few(places), i, place, held.where(v, i))
		}
		// After each, but seldom if there are many.
		if j < 20 || j%97 == 0 || j == len(places)-1 {
			gets(t, fmt.Sprintf("%s, room %d, %v, %d of them", what, n, few(places), j+1), table, held, v)
		}
	}
	return table
}

// gets checks what a table tells of all elements of a vector.
func gets(t *testing.T, what string, table *hash.Table, held holding, w vec.Vec) {
	t.Helper()
	for k := range w.Len() {
		if place, want := table.Get(w, k), held.where(w, k); place != want {
			t.Errorf("%s: Get(%d) of kind %d is %d, not %d", what, k, w.Kind(), place, want)
		}
	}
}

func TestPutOfAllPlaces(t *testing.T) {
	for what, v := range vectors() {
		n := v.Len()
		puts(t, what, v, n, ascending(n))
		puts(t, what+", backwards", v, n, descending(n))
		puts(t, what+", every other one", v, (n+1)/2, list((n+1)/2, func(i int) int { return 2 * i }))
		puts(t, what+", the last one", v, min(n, 1), descending(n)[:min(n, 1)])
		if n > 0 {
			puts(t, what+", some again", v, n, steps(ascending(n), n, n))
			puts(t, what+", one again and again", v, n, slices.Repeat([]int{n - 1}, n))
		}
	}
}

// Each order in which a few places can be put in.
func TestPutInAllOrders(t *testing.T) {
	for _, v := range []vec.Vec{
		flags(0, 1, 0, 1), smalls(5, 5, 6, 7), ints(300, 301, 300, 302), floats(0.5, 0.25, 0.125, 0.5), text("abca"), boxes(array(text("hi"), 2), array(text("hi"), 1, 2), array(text("hi"), 2), array(text("ih"), 2)),
		boxes(twins(4)...), boxes(append(twins(3), twins(1)...)...),
	} {
		for code := range 4 * 4 * 4 * 4 {
			places := []int{code % 4, code / 4 % 4, code / 16 % 4, code / 64}
			puts(t, "a few", v, 4, places)
			puts(t, "three", v, 3, places[:3])
			puts(t, "two", v, 2, places[:2])
			puts(t, "one", v, 1, places[:1])
		}
	}
}

// An element alike to one that is held is not put in, whether it stands behind or ahead
// of that one.
func TestPutOfAlikeElements(t *testing.T) {
	v := smalls(5, 6, 5, 6, 5)
	table := hash.New(v, 5)
	for _, one := range [][2]int{{2, 2}, {0, 2}, {4, 2}, {2, 2}, {1, 1}, {3, 1}, {1, 1}, {0, 2}} {
		if place := table.Put(one[0]); place != one[1] {
			t.Errorf("Put(%d) is %d, not %d", one[0], place, one[1])
		}
	}
	for k, want := range []int{2, 1, 2, 1, 2} {
		if place := table.Get(v, k); place != want {
			t.Errorf("Get(%d) is %d, not %d", k, place, want)
		}
	}
}

func TestTableOfNoElements(t *testing.T) {
	for what, v := range vectors() {
		if v.Len() > 0 {
			continue
		}
		for _, n := range slices.Concat([]int{0, 1, 2, most}, below, above) {
			table := hash.New(v, n)
			for other, w := range vectors() {
				gets(t, what+", "+other, table, holding{}, w)
			}
		}
	}
}

// A table that holds nothing yet, with room or without, tells so of all elements.
func TestGetFromAnEmptyTable(t *testing.T) {
	all := vectors()
	for what, v := range all {
		for _, n := range []int{0, v.Len()} {
			table := hash.New(v, n)
			for other, w := range all {
				gets(t, what+", "+other, table, holding{}, w)
			}
		}
	}
}

// Elements of one vector are looked for in a table of another one, of whatever kind and
// class, in a full table, and in one that holds every other place.
func TestGetOfOtherVectors(t *testing.T) {
	all := vectors()
	for what, v := range all {
		for step := 1; step <= 2; step++ {
			n := (v.Len() + step - 1) / step
			table, held := hash.New(v, n), holding{}
			for i := 0; i < v.Len(); i += step {
				table.Put(i)
				held.put(v, i)
			}
			for other, w := range all {
				gets(t, fmt.Sprintf("%s, each of %d, %s", what, step, other), table, held, w)
			}
		}
	}
}

// What is looked for is not put in.
func TestGetPutsNothingIn(t *testing.T) {
	for what, v := range vectors() {
		table := hash.New(v, v.Len())
		for range 3 {
			gets(t, what, table, holding{}, v)
		}
		held := holding{}
		for i := v.Len() - 1; i >= 0; i-- {
			gets(t, what, table, held, v)
			if place, want := table.Put(i), held.put(v, i); place != want {
				t.Errorf("%s: Put(%d) is %d, not %d", what, i, place, want)
			}
		}
	}
}

// There is room for n places, however many elements there are.
func TestTableWithLittleRoom(t *testing.T) {
	for _, v := range []vec.Vec{smalls(list(256, func(i int) int8 { return int8(i) })...), floats(list(3000, func(i int) float64 { return float64(i) / 8 })...), vec.Chars(list(500, func(i int) rune { return rune(i * 256) }))} {
		for n := range 70 {
			puts(t, "little room", v, n, steps(ascending(v.Len()), n, n))
			puts(t, "little room, in order", v, n, ascending(n))
		}
	}
}

// A number below 0 counts as 0, and one above the length as the length. There is no
// promise for more places than that, but a table makes room for them.
func TestTableWithoutRoom(t *testing.T) {
	for what, v := range vectors() {
		for _, n := range slices.Concat(below, above, []int{0, 1, v.Len() / 2, v.Len() - 1, v.Len() + 1}) {
			puts(t, what, v, n, ascending(v.Len()))
		}
	}
	v := ints(list(700, func(i int) int64 { return int64(i * i % 611) })...)
	for _, n := range []int{-1, 0, 1, 2, 3, 300, 699} {
		puts(t, "squares", v, n, ascending(700))
		puts(t, "squares, backwards", v, n, descending(700))
	}
}

// Twins have one key, and are not alike.
func TestTwinsHaveOneKey(t *testing.T) {
	oneKey(t, "twins", boxes(twins(40)...))
	if l := twins(2); value.Same(l[0], l[1]) {
		t.Error("twins are alike")
	}
	v := boxes(slices.Concat(twins(40), twins(40))...)
	puts(t, "twins", v, 80, ascending(80))
	puts(t, "twins, backwards", v, 40, descending(80)[:40])
	puts(t, "twins, without room", v, 1, steps(ascending(80), 80, 1))
	finds(t, "twins", boxes(twins(20)...), v)
	finds(t, "twins", v, boxes(twins(60)...))
}

// Many elements whose keys come to one slot of a table, the last one, so that they go
// into those at the beginning.
func TestElementsThatComeToOneSlot(t *testing.T) {
	for n := 1; n <= 9; n++ {
		var l []float64
		for x := 0.0; len(l) < 3*n; x++ {
			if hash.Key(floats(x), 0)%uint64(2*n) == uint64(2*n-1) {
				l = append(l, x)
			}
		}
		for _, v := range kindsOf(slices.Concat(l, l)) {
			puts(t, "one slot", v, n, ascending(n))
			puts(t, "one slot, of others", v, n, descending(6 * n)[:n])
			puts(t, "one slot, without room", v, n, ascending(6*n))
			finds(t, "one slot", v, v)
		}
	}
}

// Two tables of one vector hold places of their own.
func TestTablesAreByThemselves(t *testing.T) {
	v := smalls(5, 6, 5, 7)
	one, other := hash.New(v, 4), hash.New(v, 4)
	one.Put(0)
	one.Put(1)
	other.Put(2)
	gets(t, "one", one, holding{called(v, 0): 0, called(v, 1): 1}, v)
	gets(t, "other", other, holding{called(v, 0): 2}, v)
	other.Put(3)
	gets(t, "one", one, holding{called(v, 0): 0, called(v, 1): 1}, v)
	gets(t, "other", other, holding{called(v, 0): 2, called(v, 3): 3}, v)
}

// What a vector was made of may change, and what a table tells does not.
func TestTableKeepsNoMemoryOfOthers(t *testing.T) {
	l, runes := []int8{5, 6, 5}, []rune("xyx")
	inner := []vec.Array{array(text("hi"), 2), array(text("hi"), 1, 2), array(text("hi"), 2)}
	for _, v := range []vec.Vec{vec.Smalls(l), vec.Chars(runes), vec.Boxes(inner)} {
		table := puts(t, "vectors", v, 3, []int{0, 1})
		l[0], runes[0], inner[0].Shape[0] = 6, 'y', 1
		if table.Get(v, 0) != 0 || table.Get(v, 1) != 1 || table.Get(v, 2) != 0 || table.Put(2) != 0 {
			t.Errorf("kind %d: the table has changed", v.Kind())
		}
		l[0], runes[0], inner[0].Shape[0] = 5, 'x', 2
	}
}

// No table, and one that New hasn't made.
func TestNoTable(t *testing.T) {
	var none *hash.Table
	for _, table := range []*hash.Table{none, {}, new(hash.Table)} {
		for what, v := range vectors() {
			for _, i := range slices.Concat([]int{0, 1, 2}, below, above) {
				if place := table.Put(i); place != 0 {
					t.Errorf("no table: Put(%d) is %d", i, place)
				}
				if place := table.Get(v, i); place != 0 {
					t.Errorf("no table, %s: Get(%d) is %d", what, i, place)
				}
			}
		}
	}
}

// No element is alike to one that there isn't, and a table doesn't take its place.
func TestPutAndGetOfNoElement(t *testing.T) {
	all := vectors()
	for what, v := range all {
		table, held := hash.New(v, v.Len()), holding{}
		for i := range v.Len() / 2 {
			table.Put(i)
			held.put(v, i)
		}
		for _, i := range slices.Concat(below, above, []int{v.Len(), v.Len() + 1}) {
			if place := table.Put(i); place != -1 {
				t.Errorf("%s: Put(%d) is %d", what, i, place)
			}
			if place := table.Get(v, i); place != -1 {
				t.Errorf("%s: Get(%d) is %d", what, i, place)
			}
		}
		gets(t, what, table, held, v)
		for _, w := range all {
			for _, k := range []int{-1, w.Len(), math.MinInt, math.MaxInt} {
				if place := table.Get(w, k); place != -1 {
					t.Errorf("%s: Get(%d) of kind %d is %d", what, k, w.Kind(), place)
				}
			}
		}
	}
}

// P19.3: Find, Has

// placed tells what Find must tell.
func placed(in, of vec.Vec) []int {
	held := holding{}
	for i := range in.Len() {
		held.put(in, i)
	}
	return list(of.Len(), func(k int) int {
		if place := held.where(of, k); place >= 0 {
			return place
		}
		return in.Len()
	})
}

// finds checks what Find and Has tell.
func finds(t *testing.T, what string, in, of vec.Vec) {
	t.Helper()
	want := placed(in, of)
	if at := hash.Find(in, of); !slices.Equal(at, want) {
		t.Errorf("%s: Find of kind %d in kind %d: %v, not %v", what, of.Kind(), in.Kind(), few(at), few(want))
	}
	is := list(len(want), func(k int) bool { return want[k] < in.Len() })
	if z := hash.Has(in, of); !slices.Equal(z, is) {
		t.Errorf("%s: Has of kind %d in kind %d: %v, not %v", what, of.Kind(), in.Kind(), few(z), few(is))
	}
}

// Of every vector in every one: of all kinds, and of none.
func TestFindInAllVectors(t *testing.T) {
	all := vectors()
	for what, in := range all {
		for other, of := range all {
			finds(t, other+" in "+what, in, of)
		}
	}
}

// What is alike is what value takes for alike, and the first one counts.
func TestFindIsByAlike(t *testing.T) {
	all := vectors()
	for what, in := range all {
		for other, of := range all {
			at, is := hash.Find(in, of), hash.Has(in, of)
			for k := range min(of.Len(), 12) {
				place := slices.IndexFunc(ascending(in.Len()), func(i int) bool { return value.Alike(in, i, of, k) })
				if is[k] != (place >= 0) || is[k] && at[k] != place || !is[k] && at[k] != in.Len() {
					t.Errorf("%s in %s: element %d is at %d, not at %d", other, what, k, at[k], place)
				}
			}
		}
	}
}

// All lists of a few numbers and characters in all of them.
func TestFindOfAFew(t *testing.T) {
	var lists [][]int
	for n := range 4 {
		for code := range []int{1, 3, 9, 27}[n] {
			lists = append(lists, []int{code % 3, code / 3 % 3, code / 9}[:n])
		}
	}
	for _, l := range lists {
		for _, m := range lists {
			for _, x := range [][]float64{{0, 1, 1}, {-1, 0, 127}, {0, 300, 97}, {0.5, 0, 1}} {
				in, of := list(len(l), func(i int) float64 { return x[l[i]] }), list(len(m), func(i int) float64 { return x[m[i]] })
				for _, v := range kindsOf(in) {
					for _, w := range kindsOf(of) {
						finds(t, "a few", v, w)
					}
				}
			}
			in, of := list(len(l), func(i int) rune { return rune('a' + l[i]) }), list(len(m), func(i int) rune { return rune('a' + m[i]) })
			finds(t, "a few", vec.Chars(in), vec.Chars(of))
			if slices.Contains(hash.Has(vec.Chars(in), ints(list(len(m), func(i int) int64 { return int64('a' + m[i]) })...)), true) {
				t.Errorf("numbers are in the characters %v", in)
			}
		}
	}
}

// The same numbers are found in whatever kind they are kept.
func TestFindInAllKinds(t *testing.T) {
	for _, kind := range numeric {
		l, m := steps(rungs(kind), 50, kind), steps(ladder(), 70, kind)
		want := placed(floats(l...), floats(m...))
		for _, in := range kindsOf(l) {
			for _, of := range kindsOf(m) {
				if at := hash.Find(in, of); !slices.Equal(at, want) {
					t.Errorf("kind %d in kind %d: %v, not %v", of.Kind(), in.Kind(), few(at), few(want))
				}
			}
			finds(t, "itself", in, in)
		}
	}
}

// Boxes are found by what is in them: the shape, the class, and each element.
func TestFindOfFamilies(t *testing.T) {
	all := families()
	firsts := boxes(list(len(all), func(i int) vec.Array { return all[i][0] })...)
	for i, alike := range all {
		for _, a := range alike {
			if at := hash.Find(firsts, boxes(a)); !slices.Equal(at, []int{i}) {
				t.Errorf("family %d is at %v", i, at)
			}
		}
	}
	finds(t, "all of them", boxed(), firsts)
	finds(t, "all of them", firsts, boxed())
}

// manyOf makes vectors of many elements: some that are all different, some of which many
// are alike, and some in which numbers differ in few bits, or go by regular steps.
func manyOf() map[string]vec.Vec {
	n := 1 << 16
	return map[string]vec.Vec{
		"bits":         vec.Bits(bitvec.Pack(list(2*n, func(i int) bool { return i*i%7 == 2 }))),
		"smalls":       vec.Smalls(list(2*n+5, func(i int) int8 { return int8(i * i >> 5) })),
		"ints":         ints(list(n, func(i int) int64 { return int64(i) })...),
		"squares":      ints(list(n, func(i int) int64 { return int64(i) * int64(i) % 65537 })...),
		"great ints":   ints(list(n, func(i int) int64 { return int64(i) << 36 })...),
		"negative":     ints(list(n, func(i int) int64 { return -int64(i) << 20 })...),
		"floats":       floats(list(n, func(i int) float64 { return float64(i) / 1024 })...),
		"great floats": floats(list(n, func(i int) float64 { return math.Ldexp(float64(1+i%257), i%1500-700) })...),
		"low bits":     floats(list(n, func(i int) float64 { return math.Float64frombits(uint64(i)) })...),
		"high bits":    floats(list(n, func(i int) float64 { return math.Float64frombits(uint64(i) << 45) })...),
		"runes":        vec.Chars(list(n, func(i int) rune { return rune(i) })),
		"great runes":  vec.Chars(list(n, func(i int) rune { return rune(i << 15) })),
		"letters":      vec.Chars(list(n, func(i int) rune { return 'a' + rune(i*i%26) })),
		"pairs":        boxes(list(1<<14, func(i int) vec.Array { return array(ints(int64(i%127), int64(i/127)), 2) })...),
		"words":        boxes(list(1<<14, func(i int) vec.Array { return array(text(strconv.Itoa(i*7919%9001)), 1, 1) })...),
	}
}

// Keys go all over the slots of a table, so that a search ends soon: of places that are put
// anywhere into twice as many slots, at least three quarters come to slots of their own.
func TestKeysAreSpread(t *testing.T) {
	for what, v := range manyOf() {
		at := firsts(v)
		if len(at) < 100 {
			continue
		}
		for _, size := range []int{2 * len(at), 2*len(at) - 1, 2*len(at) + 1} {
			slots := map[uint64]bool{}
			for _, i := range at {
				slots[hash.Key(v, i)%uint64(size)] = true
			}
			if len(slots) < len(at)*3/4 {
				t.Errorf("%s: %d elements come to %d slots of %d", what, len(at), len(slots), size)
			}
		}
	}
}

func TestFindOfMany(t *testing.T) {
	all := manyOf()
	for what, v := range all {
		finds(t, what, v, v)
		finds(t, what+", turned", flat.Turn(v), v)
		finds(t, what+", the first half", flat.Cut(v, 0, v.Len()/2), v)
	}
	for _, names := range [][2]string{{"ints", "squares"}, {"floats", "ints"}, {"runes", "letters"}, {"ints", "runes"}, {"pairs", "words"}, {"smalls", "bits"}, {"low bits", "high bits"}} {
		finds(t, names[1]+" in "+names[0], all[names[0]], all[names[1]])
	}
}

// As many elements as there can be, all of them different.
func TestFindOfMost(t *testing.T) {
	v := ints(list(most, func(i int) int64 { return int64(i * 4095 % most) })...)
	w := floats(list(most, func(i int) float64 { return float64(i) })...)
	at := hash.Find(v, w)
	for k, i := range at {
		if x, _ := v.Whole(i); int(x) != k {
			t.Fatalf("%d is not at %d", k, i)
		}
	}
	if len(at) != most || slices.Contains(hash.Has(w, v), false) {
		t.Error("not all of them are found")
	}
	table := hash.New(w, most)
	for i := range most {
		if table.Put(i) != i {
			t.Fatalf("%d is there already", i)
		}
	}
	if table.Get(v, 9) != 9*4095 || table.Get(ints(most), 0) != -1 {
		t.Error("a full table:", table.Get(v, 9), table.Get(ints(most), 0))
	}
}

// P19.4: Firsts, Unique, Without

// firsts tells what Firsts must tell.
func firsts(v vec.Vec) []int {
	held := holding{}
	return slices.DeleteFunc(ascending(v.Len()), func(i int) bool { return held.put(v, i) != i })
}

// isChosen checks that a vector is the elements of another one at some places, of the
// least kind.
func isChosen(t *testing.T, what string, z, v vec.Vec, at []int) {
	t.Helper()
	all := callings(v)
	want := list(len(at), func(j int) calling { return all[at[j]] })
	if z.Class() != v.Class() || !slices.Equal(callings(z), want) {
		t.Errorf("%s, of kind %d: %v of kind %d, not %v", what, v.Kind(), few(callings(z)), z.Kind(), few(want))
	}
	if kind := leastOf(z); z.Kind() != kind || !squeeze.Tight(z) {
		t.Errorf("%s, of kind %d: %d elements are of kind %d, not %d", what, v.Kind(), z.Len(), z.Kind(), kind)
	}
}

// leastOf tells the least kind of a vector's elements.
func leastOf(v vec.Vec) int {
	switch v.Class() {
	case api.Letter:
		return api.Char
	case api.Nested:
		return api.Box
	}
	return least(v.Nums())
}

// isFirsts checks what Firsts and Unique tell.
func isFirsts(t *testing.T, what string, v vec.Vec) {
	t.Helper()
	want := firsts(v)
	if at := hash.Firsts(v); !slices.Equal(at, want) {
		t.Errorf("%s: Firsts of kind %d: %v, not %v", what, v.Kind(), few(at), few(want))
	}
	isChosen(t, what+": Unique", hash.Unique(v), v, want)
}

// isWithout checks what Without tells, with keep and without.
func isWithout(t *testing.T, what string, v, other vec.Vec) {
	t.Helper()
	at := placed(other, v)
	gone := slices.DeleteFunc(ascending(v.Len()), func(i int) bool { return at[i] < other.Len() })
	kept := slices.DeleteFunc(ascending(v.Len()), func(i int) bool { return at[i] == other.Len() })
	isChosen(t, fmt.Sprintf("%s: Without of kind %d", what, other.Kind()), hash.Without(v, other, false), v, gone)
	isChosen(t, fmt.Sprintf("%s: Without of kind %d, keep", what, other.Kind()), hash.Without(v, other, true), v, kept)
}

func TestFirstsOfAllVectors(t *testing.T) {
	for what, v := range vectors() {
		isFirsts(t, what, v)
		isFirsts(t, what+", turned", flat.Turn(v))
		isFirsts(t, what+", twice", flat.Again(v, 2*v.Len()))
	}
}

func TestWithoutOfAllVectors(t *testing.T) {
	all := vectors()
	for what, v := range all {
		for name, other := range all {
			isWithout(t, what+" without "+name, v, other)
		}
	}
}

// All lists of a few, of every kind.
func TestFirstsOfAFew(t *testing.T) {
	for n := range 6 {
		for code := range []int{1, 3, 9, 27, 81, 243}[n] {
			l := []int{code % 3, code / 3 % 3, code / 9 % 3, code / 27 % 3, code / 81}[:n]
			for _, x := range [][]float64{{0, 1, 1}, {1, 0, 2}, {-1, 0, 127}, {0, 300, 1}, {0.5, 0, 1}, {top, -top, 0.25}} {
				for _, v := range kindsOf(list(n, func(i int) float64 { return x[l[i]] })) {
					isFirsts(t, "a few", v)
					isWithout(t, "a few", v, floats(x[0]))
					isWithout(t, "a few", v, floats(x[1], x[2]))
				}
			}
			v := vec.Chars(list(n, func(i int) rune { return []rune{'a', 'b', 0x2374}[l[i]] }))
			isFirsts(t, "a few", v)
			isWithout(t, "a few", v, text("b"))
			of := [][]vec.Array{families()[14], families()[13], families()[13]}
			v = boxes(list(n, func(i int) vec.Array { return of[l[i]][i%2] })...)
			isFirsts(t, "a few", v)
			isWithout(t, "a few", v, boxes(of[1][2]))
		}
	}
}

// None at all, of each class: they keep the class.
func TestUniqueOfNone(t *testing.T) {
	for what, v := range vectors() {
		for name, z := range map[string]vec.Vec{"Unique": hash.Unique(flat.Cut(v, 0, 0)), "Without itself": hash.Without(v, v, false), "Without none, keep": hash.Without(v, vec.Vec{}, true)} {
			kind := []int{api.Bit, api.Char, api.Box}[v.Class()]
			if z.Len() != 0 || z.Kind() != kind {
				t.Errorf("%s, %s: %d elements of kind %d", what, name, z.Len(), z.Kind())
			}
		}
	}
	if at := hash.Firsts(vec.Vec{}); len(at) != 0 {
		t.Error("no elements:", at)
	}
}

// One that is left out may have been the only one that didn't fit a lesser kind.
func TestResultsAreOfTheLeastKind(t *testing.T) {
	for _, one := range []struct {
		v, other vec.Vec
		gone     int
		kept     int
	}{
		{floats(0.5, 1, 0), floats(0.5), api.Bit, api.Float}, {floats(0.5, 300, 0), floats(0.5), api.Int, api.Float}, {ints(300, 7, 300), ints(300), api.Small, api.Int},
		{ints(300, 7, 1), smalls(7), api.Int, api.Small}, {ints(300, 7, 1), smalls(1), api.Int, api.Bit}, {smalls(2, 1, 0, 2), smalls(2), api.Bit, api.Small},
		{floats(top+2, top), floats(top), api.Float, api.Int}, {floats(1, 0), floats(1), api.Bit, api.Bit}, {text("ab"), text("a"), api.Char, api.Char},
		{floats(-129, -128), smalls(-128), api.Int, api.Small}, {ints(127, 128), ints(128), api.Small, api.Int},
	} {
		if z := hash.Without(one.v, one.other, false); z.Kind() != one.gone {
			t.Errorf("%v without %v is of kind %d", one.v.Nums(), one.other.Nums(), z.Kind())
		}
		if z := hash.Without(one.v, one.other, true); z.Kind() != one.kept {
			t.Errorf("%v of %v is of kind %d", one.v.Nums(), one.other.Nums(), z.Kind())
		}
	}
	for _, kind := range numeric {
		if z := hash.Unique(made([]float64{1, 0, 1}, kind)); z.Kind() != api.Bit {
			t.Errorf("Unique of kind %d is of kind %d", kind, z.Kind())
		}
	}
}

func TestUniqueOfMany(t *testing.T) {
	for what, v := range manyOf() {
		isFirsts(t, what, v)
		isWithout(t, what, v, flat.Cut(v, 0, 100))
		isWithout(t, what, v, flat.Cut(v, v.Len()/2, v.Len()))
	}
}

// Of more elements than an array has, none is lost.
func TestUniqueOfMoreThanMost(t *testing.T) {
	n := most + 3
	for what, v := range map[string]vec.Vec{
		"ints": ints(list(n, func(i int) int64 { return int64(i) })...), "floats": floats(list(n, func(i int) float64 { return float64(i) / 2 })...), "runes": vec.Chars(list(n, func(i int) rune { return rune(i) })),
	} {
		if at := hash.Firsts(v); !slices.Equal(at, ascending(n)) {
			t.Errorf("%s: Firsts: %d of them", what, len(at))
		}
		for _, z := range []vec.Vec{hash.Unique(v), hash.Without(v, vec.Vec{}, false), hash.Without(v, v, true)} {
			if z.Len() != n || z.Kind() != v.Kind() || z.Num(n-1) != v.Num(n-1) || z.Char(n-1) != v.Char(n-1) {
				t.Errorf("%s: %d of kind %d", what, z.Len(), z.Kind())
			}
		}
	}
	// So many that are 0 or 1 are no bits.
	ones := vec.Smalls(slices.Repeat([]int8{1}, n))
	if z := hash.Without(ones, smalls(0), false); z.Len() != n || z.Kind() != api.Small || z.Num(n-1) != 1 {
		t.Errorf("%d of kind %d", z.Len(), z.Kind())
	}
	if z := hash.Unique(ones); z.Len() != 1 || z.Kind() != api.Bit {
		t.Errorf("%d of kind %d", z.Len(), z.Kind())
	}
}

// P19.5: the properties

// equal tells whether vectors have the same elements, in the same kind.
func equal(v, w vec.Vec) bool {
	return v.Kind() == w.Kind() && slices.Equal(callings(v), callings(w))
}

func TestUniqueOfUnique(t *testing.T) {
	for _, all := range []map[string]vec.Vec{vectors(), manyOf()} {
		for what, v := range all {
			once := hash.Unique(v)
			if twice := hash.Unique(once); !equal(once, twice) {
				t.Errorf("%s: %v, then %v", what, few(callings(once)), few(callings(twice)))
			}
			if !slices.Equal(hash.Firsts(once), ascending(once.Len())) || slices.Contains(hash.Has(once, v), false) || slices.Contains(hash.Has(v, once), false) {
				t.Errorf("%s: what is unique is not all of it, or not unique", what)
			}
		}
	}
}

// The elements that are kept and those that are not, put back where they come from, are
// the vector.
func TestKeptAndNotKeptAreAll(t *testing.T) {
	all := vectors()
	for what, v := range all {
		for name, other := range all {
			kept, gone := hash.Without(v, other, true), hash.Without(v, other, false)
			both := [2][]calling{callings(gone), callings(kept)}
			var together []calling
			for _, is := range hash.Has(other, v) {
				from := 0
				if is {
					from = 1
				}
				if len(both[from]) == 0 {
					t.Fatalf("%s, %s: too few of them", what, name)
				}
				together, both[from] = append(together, both[from][0]), both[from][1:]
			}
			if len(both[0])+len(both[1]) > 0 || !slices.Equal(together, callings(v)) {
				t.Errorf("%s, %s: together, they are not all", what, name)
			}
			if slices.Contains(hash.Has(gone, kept), true) || slices.Contains(hash.Has(kept, gone), true) {
				t.Errorf("%s, %s: some of them are in both", what, name)
			}
		}
	}
}

// Memory

// A result that is changed changes neither a vector nor the next result.
func TestResultsAreNewMemory(t *testing.T) {
	all := vectors()
	for what, v := range all {
		for _, other := range []vec.Vec{v, flat.Turn(v), all["smalls"], all["text"]} {
			before, kind, its := callings(v), v.Kind(), callings(other)
			find, has, first := hash.Find(other, v), hash.Has(other, v), hash.Firsts(v)
			unique, gone, kept := hash.Unique(v), hash.Without(v, other, false), hash.Without(v, other, true)
			for i := range find[:cap(find)] {
				find[:cap(find)][i] = -9
			}
			for i := range has[:cap(has)] {
				has[:cap(has)][i] = !has[:cap(has)][i]
			}
			for i := range first[:cap(first)] {
				first[:cap(first)][i] = -9
			}
			finds(t, what, other, v)
			isFirsts(t, what, v)
			for _, z := range []vec.Vec{unique, gone, kept} {
				runes, arrays := z.Text(), z.Arrays()
				for i := range runes {
					runes[i] = -9
				}
				for i := range arrays {
					for axis := range arrays[i].Shape {
						arrays[i].Shape[axis] = -9
					}
					arrays[i] = vec.Array{}
				}
			}
			if !slices.Equal(callings(v), before) || v.Kind() != kind || !slices.Equal(callings(other), its) {
				t.Errorf("%s: a vector has changed", what)
			}
			isWithout(t, what, v, other)
		}
	}
}

// The chapter's examples.

func TestExamples(t *testing.T) {
	if at := hash.Find(smalls(5, 6, 5), smalls(5, 7)); !slices.Equal(at, []int{0, 3}) {
		t.Error("5 6 5, 5 7:", at)
	}
	if z := hash.Unique(smalls(5, 6, 5)); !slices.Equal(z.Nums(), []float64{5, 6}) {
		t.Error("5 6 5:", z.Nums())
	}
	if z := hash.Without(smalls(1, 2, 3, 2), smalls(2), false); !slices.Equal(z.Nums(), []float64{1, 3}) {
		t.Error("1 2 3 2 without 2:", z.Nums())
	}
	if z := hash.Without(smalls(1, 2, 3, 2), smalls(2), true); !slices.Equal(z.Nums(), []float64{2, 2}) {
		t.Error("1 2 3 2, those of 2:", z.Nums())
	}
	a, b := array(text("hi"), 2), array(text("hi"), 1, 2)
	if at := hash.Find(boxes(a, b, a), boxes(b, a)); !slices.Equal(at, []int{1, 0}) {
		t.Error("hi:", at)
	}
	if is := hash.Has(smalls(97, 120), text("a")); !slices.Equal(is, []bool{false}) {
		t.Error("a character in numbers:", is)
	}
}
