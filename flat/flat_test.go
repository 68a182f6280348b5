package flat_test

import (
	"fmt"
	"math"
	"slices"
	"strconv"
	"testing"

	"rebus/api"
	"rebus/bitvec"
	"rebus/flat"
	"rebus/squeeze"
	"rebus/value"
	"rebus/vec"
)

// most is the greatest number of elements of a result, and top the greatest
// absolute value of an integer.
const (
	most = 1 << 20
	top  = 1 << 53
)

// classes lists all classes.
var classes = []int{api.Number, api.Letter, api.Nested}

// far lists places and bounds that are outside of every vector.
var far = []int{math.MinInt, math.MinInt + 1, math.MinInt32, -1 << 32, -most, -100, 1<<32 + 1, math.MaxInt32, 1 << 40, math.MaxInt - 1, math.MaxInt}

// How vectors of each kind are made.

func bits(l ...int) vec.Vec {
	b := make([]bool, len(l))
	for i, x := range l {
		b[i] = x == 1
	}
	return vec.Bits(bitvec.Pack(b))
}

func smalls(l ...int8) vec.Vec { return vec.Smalls(l) }

func ints(l ...int64) vec.Vec {
	v, ok := vec.Ints(l)
	if !ok {
		panic("no integers of at most 2^53")
	}
	return v
}

func floats(l ...float64) vec.Vec {
	v, ok := vec.Floats(l)
	if !ok {
		panic("no numbers")
	}
	return v
}

func chars(l ...rune) vec.Vec { return vec.Chars(l) }

func text(s string) vec.Vec { return vec.Chars([]rune(s)) }

func boxes(l ...vec.Array) vec.Vec { return vec.Boxes(l) }

func array(v vec.Vec, s ...int) vec.Array { return vec.Array{Shape: s, V: v} }

// list makes n elements by a rule.
func list[T any](n int, rule func(i int) T) []T {
	l := make([]T, n)
	for i := range l {
		l[i] = rule(i)
	}
	return l
}

// element is what an element is, so that elements of all classes can be held
// against each other: a number to its last bit, a character, or what is told of
// the array in a box.
type element struct {
	class int
	plain uint64
	box   string
}

func ofNum(x float64) element { return element{class: api.Number, plain: math.Float64bits(x)} }

func ofChar(c rune) element { return element{class: api.Letter, plain: uint64(uint32(c))} }

func ofBox(a vec.Array) element {
	text := strconv.AppendInt(nil, int64(a.V.Kind()), 10)
	for _, n := range a.Shape {
		text = strconv.AppendInt(append(text, ','), int64(n), 10)
	}
	for _, e := range told(a.V) {
		text = strconv.AppendUint(append(text, ' '), e.plain, 16)
		text = append(append(text, ' '), e.box...)
	}
	return element{class: api.Nested, box: "(" + string(text) + ")"}
}

// tell tells what element i of a vector is.
func tell(v vec.Vec, i int) element {
	switch v.Class() {
	case api.Letter:
		return ofChar(v.Char(i))
	case api.Nested:
		return ofBox(v.Box(i))
	}
	return ofNum(v.Num(i))
}

// told lists what all elements of a vector are.
func told(v vec.Vec) []element {
	return list(v.Len(), func(i int) element { return tell(v, i) })
}

// fill tells what the fill element of a class is.
func fill(class int) element {
	switch class {
	case api.Letter:
		return element{class: api.Letter, plain: 0x20}
	case api.Nested:
		return element{class: api.Nested, box: "(1,0)"}
	}
	return element{class: api.Number}
}

// leastKind tells the kind that a vector must have.
func leastKind(v vec.Vec) int {
	switch v.Class() {
	case api.Letter:
		return api.Char
	case api.Nested:
		return api.Box
	}
	kind := api.Bit
	for _, x := range v.Nums() {
		switch {
		case x != math.Trunc(x) || math.Abs(x) > top:
			return api.Float
		case x < -128 || x > 127:
			kind = max(kind, api.Int)
		case x != 0 && x != 1 || v.Len() > most:
			kind = max(kind, api.Small)
		}
	}
	return kind
}

// wanted tells whether a vector is of a class and has these elements, in the
// least kind.
func wanted(t *testing.T, what string, v vec.Vec, class int, want []element) bool {
	t.Helper()
	if v.Class() != class || v.Len() != len(want) {
		t.Errorf("%s: %d elements of class %d, not %d of class %d", what, v.Len(), v.Class(), len(want), class)
		return false
	}
	for i, e := range want {
		if got := tell(v, i); got != e {
			t.Errorf("%s: element %d is %v, not %v", what, i, got, e)
			return false
		}
	}
	if v.Kind() != leastKind(v) || !squeeze.Tight(v) {
		t.Errorf("%s: the kind is %d, not %d", what, v.Kind(), leastKind(v))
		return false
	}
	if b, _ := v.Packed(); !b.Tidy() {
		t.Errorf("%s: untidy", what)
		return false
	}
	return true
}

// sample is a vector with a name.
type sample struct {
	name string
	v    vec.Vec
}

// inner lists arrays of all kinds, for boxes; not all are as arrays must be, as
// nothing in a box concerns this layer.
func inner() []vec.Array {
	return []vec.Array{
		array(smalls(-7)), array(text("hi"), 2), array(bits(), 0), array(text(""), 0), array(boxes(), 0, 3),
		array(bits(1, 0, 1, 1), 2, 2), array(ints(300, -top), 1, 2), array(floats(0.5)), array(floats(1, 0), 2), {},
		array(boxes(array(boxes(array(text("deep"), 1, 4))), array(smalls(1, 0), 2)), 2),
	}
}

// samples lists vectors of each kind: without elements, with one, and with many;
// in the least kind, and in greater ones.
func samples() []sample {
	return []sample{
		{"no kind", vec.Vec{}},
		{"no bits", bits()}, {"a bit", bits(1)}, {"a bit", bits(0)}, {"bits", bits(1, 0, 0, 1, 1)},
		{"64 bits", bits(list(64, func(i int) int { return i * i % 7 % 2 })...)},
		{"130 bits", bits(list(130, func(i int) int { return i * i % 13 % 2 })...)},
		{"no smalls", smalls()}, {"a small", smalls(-128)}, {"a small bit", smalls(1)}, {"small bits", smalls(1, 0, 1)},
		{"smalls", smalls(0, 1, -128, 127, 1, 1, -1, 2)},
		{"130 smalls", smalls(list(130, func(i int) int8 { return int8(i * i % 101) })...)},
		{"no ints", ints()}, {"an int", ints(128)}, {"an int bit", ints(0)}, {"int bits", ints(0, 1, 1)}, {"small ints", ints(5, 1, 0, -128)},
		{"ints", ints(top, 1, 0, -top, 300, -129, 7, 1, top-1)},
		{"no floats", floats()}, {"a float", floats(0.5)}, {"a float bit", floats(1)}, {"float bits", floats(1, 0)},
		{"small floats", floats(1, 0, -7)}, {"int floats", floats(300, 0, 1, -7, top)},
		{"floats", floats(1, 0, 0.5, top+2, -top-2, 127, 1, -1e300, math.MaxFloat64, math.SmallestNonzeroFloat64, -0.1, 300)},
		{"no chars", text("")}, {"a char", text("x")}, {"a zero char", chars(0)}, {"chars", text("a bb c")},
		{"strange chars", chars(0, ' ', 0x2374, 0x1f600, 0x10ffff, 0x110000, 0xd800, 0xfffd, -1, math.MinInt32, math.MaxInt32)},
		{"130 chars", chars(list(130, func(i int) rune { return rune(i*i - 500) })...)},
		{"no boxes", boxes()}, {"a box", boxes(inner()[1])}, {"a box of nothing", boxes(vec.Array{})}, {"boxes", boxes(inner()...)},
		{"a box of Blank", boxes(flat.Blank())},
	}
}

// steps makes n numbers from -3 to below top+3, the same ones each time.
func steps(n, top int) []int {
	x := uint32(n*7 + top)
	return list(n, func(int) int {
		x = x*1664525 + 1013904223
		return int(x>>8)%(top+6) - 3
	})
}

// spare makes a list of the same places with room behind it, and what the room
// holds.
func spare(at []int) []int {
	room := append(slices.Clone(at), 71, 72, 73)
	return room[:len(at):len(room)]
}

// P8.1: Blank

func TestBlank(t *testing.T) {
	a := flat.Blank()
	if !slices.Equal(a.Shape, []int{0}) || a.V.Kind() != api.Bit || a.V.Class() != api.Number || a.V.Len() != 0 {
		t.Errorf("Blank has the shape %v, the kind %d, and %d elements", a.Shape, a.V.Kind(), a.V.Len())
	}
	if !value.Good(a) || !value.Same(a, value.List(vec.None(api.Number))) {
		t.Error("Blank is not a good array, or not that of no numbers")
	}
}

func TestEachBlankIsNew(t *testing.T) {
	flat.Blank().Shape[0] = 5
	a := flat.Blank()
	if a.Shape[0] != 0 {
		t.Errorf("Blank has the shape %v after another one was changed", a.Shape)
	}
	v := flat.Pick(boxes(a), []int{0, 1, 2})
	a.Shape[0] = 6
	v.Box(1).Shape[0] = 7
	wanted(t, "boxes after Blank was changed", v, api.Nested, list(3, func(int) element { return fill(api.Nested) }))
}

// P8.1: Pick

// picked lists the elements at some places, as Pick must.
func picked(v vec.Vec, at []int) []element {
	all := told(v)
	return list(len(at), func(i int) element {
		if at[i] < 0 || at[i] >= len(all) {
			return fill(v.Class())
		}
		return all[at[i]]
	})
}

// indices lists lists of places in a vector of n elements.
func indices(n int) [][]int {
	up := list(n, func(i int) int { return i })
	down := list(n, func(i int) int { return n - 1 - i })
	lists := [][]int{
		nil, {}, up, down, slices.Concat(up, down, up), far, slices.Concat(far, up),
		steps(1, n), steps(2, n), steps(63, n), steps(64, n), steps(65, n), steps(200, n),
		{-1}, {n}, {-1, 0, 1, n - 1, n, n + 1}, {n + 63, n + 64, -63, -64, -65}, {0, 0, 0}, {n - 1, n - 1}, {-n, -n - 1, 2 * n},
	}
	for i := range n {
		lists = append(lists, []int{i}, []int{i, n}, []int{-1, i})
	}
	return lists
}

func TestPick(t *testing.T) {
	for _, s := range samples() {
		before := told(s.v)
		for _, at := range indices(s.v.Len()) {
			given := spare(at)
			v := flat.Pick(s.v, given)
			wanted(t, fmt.Sprintf("Pick of %s at %v", s.name, at), v, s.v.Class(), picked(s.v, at))
			if !slices.Equal(given, at) || !slices.Equal(given[:cap(given)][len(at):], []int{71, 72, 73}) {
				t.Errorf("Pick of %s at %v left %v", s.name, at, given[:cap(given)])
			}
		}
		if !slices.Equal(told(s.v), before) {
			t.Errorf("Pick changed %s", s.name)
		}
	}
}

func TestPickOfNothingIsTheFillElement(t *testing.T) {
	for _, v := range []vec.Vec{vec.None(api.Number), vec.None(api.Letter), vec.None(api.Nested), smalls(), ints(), floats(), {}} {
		z := flat.Pick(v, []int{0, -1, 5})
		wanted(t, fmt.Sprintf("Pick of no elements of kind %d", v.Kind()), z, v.Class(), list(3, func(int) element { return fill(v.Class()) }))
	}
	b := flat.Pick(boxes(array(text("x"))), []int{1}).Box(0)
	if !value.Good(b) || !value.Same(b, flat.Blank()) {
		t.Error("the fill element of boxes does not contain Blank")
	}
}

// few lists vectors of each kind, with few elements or none.
func few() []vec.Vec {
	return []vec.Vec{
		{}, bits(), bits(1, 0, 1), smalls(1, 0), smalls(-1, 0, 7), ints(300), floats(0.5, 1),
		text(""), text("xyz"), boxes(), boxes(array(text("x")), array(bits(1), 1)),
	}
}

func TestPickMany(t *testing.T) {
	for _, v := range few() {
		for _, many := range []int{most, most + 1} {
			at := list(many, func(i int) int { return i % (v.Len() + 2) })
			at[most-1] = v.Len() - 1
			wanted(t, fmt.Sprintf("Pick of kind %d at %d places", v.Kind(), many), flat.Pick(v, at), v.Class(), picked(v, at[:most]))
		}
	}
}

func TestPickKeepsNoneOfItsPlaces(t *testing.T) {
	for _, s := range samples() {
		at := indices(s.v.Len())[4]
		want := picked(s.v, at)
		v := flat.Pick(s.v, at)
		for i := range at {
			at[i] = -9
		}
		wanted(t, fmt.Sprintf("Pick of %s after its places were changed", s.name), v, s.v.Class(), want)
	}
}

// P8.2: Cut

// bounds lists bounds about those of a vector of n elements.
func bounds(n int) []int {
	l := append([]int{-2, -1, n + 1, n + 2, n + 64}, far...)
	for i := range n + 1 {
		if n < 20 || i < 2 || i > n-2 || i%31 < 2 || i >= 63 && i <= 65 {
			l = append(l, i)
		}
	}
	return l
}

// within lists the elements from a place up to another one.
func within[T any](l []T, from, to int) []T {
	var z []T
	for i, x := range l {
		if i >= from && i < to {
			z = append(z, x)
		}
	}
	return z
}

func TestCut(t *testing.T) {
	for _, s := range samples() {
		all := told(s.v)
		for _, from := range bounds(len(all)) {
			for _, to := range bounds(len(all)) {
				v := flat.Cut(s.v, from, to)
				wanted(t, fmt.Sprintf("Cut(%d, %d) of %s", from, to, s.name), v, s.v.Class(), within(all, from, to))
			}
		}
		if !slices.Equal(told(s.v), all) {
			t.Errorf("Cut changed %s", s.name)
		}
	}
}

// P8.2: Again

func TestAgain(t *testing.T) {
	for _, s := range samples() {
		all := told(s.v)
		for n := -3; n < 2*len(all)+70; n++ {
			want := list(max(n, 0), func(i int) element {
				if len(all) == 0 {
					return fill(s.v.Class())
				}
				return all[i%len(all)]
			})
			wanted(t, fmt.Sprintf("Again(%d) of %s", n, s.name), flat.Again(s.v, n), s.v.Class(), want)
		}
		for _, n := range []int{math.MinInt, math.MinInt + 1, math.MinInt32, -most} {
			wanted(t, fmt.Sprintf("Again(%d) of %s", n, s.name), flat.Again(s.v, n), s.v.Class(), nil)
		}
		if !slices.Equal(told(s.v), all) {
			t.Errorf("Again changed %s", s.name)
		}
	}
}

func TestAgainMany(t *testing.T) {
	for _, v := range few() {
		all := told(v)
		if len(all) == 0 {
			all = []element{fill(v.Class())}
		}
		for _, n := range []int{most, most + 1, math.MaxInt} {
			want := list(min(n, most), func(i int) element { return all[i%len(all)] })
			wanted(t, fmt.Sprintf("Again(%d) of kind %d", n, v.Kind()), flat.Again(v, n), v.Class(), want)
		}
	}
}

// P8.2: Turn

func TestTurn(t *testing.T) {
	for _, s := range samples() {
		all := told(s.v)
		want := slices.Clone(all)
		slices.Reverse(want)
		wanted(t, "Turn of "+s.name, flat.Turn(s.v), s.v.Class(), want)
		if !slices.Equal(told(s.v), all) {
			t.Errorf("Turn changed %s", s.name)
		}
	}
}

// full lists vectors of most elements.
func full() []sample {
	return []sample{
		{"bits", bits(list(most, func(i int) int { return i * i % 7 % 2 })...)},
		{"small bits", smalls(list(most, func(i int) int8 { return int8(i * i % 5 % 2) })...)},
		{"smalls", smalls(list(most, func(i int) int8 { return int8(i * i % 251) })...)},
		{"ints", ints(list(most, func(i int) int64 { return int64(i) - most/2 })...)},
		{"floats", floats(list(most, func(i int) float64 { return float64(i) / 4 })...)},
		{"chars", chars(list(most, func(i int) rune { return rune(i) - most/2 })...)},
		{"boxes", boxes(list(most, func(i int) vec.Array { return array(smalls(int8(i * i % 251))) })...)},
	}
}

func TestCutAndTurnMany(t *testing.T) {
	for _, s := range full() {
		all := told(s.v)
		wanted(t, "Cut of all "+s.name, flat.Cut(s.v, -1, most+1), s.v.Class(), all)
		wanted(t, "Cut of the last of many "+s.name, flat.Cut(s.v, most-3, math.MaxInt), s.v.Class(), all[most-3:])
		wanted(t, "Cut of the first of many "+s.name, flat.Cut(s.v, math.MinInt, 3), s.v.Class(), all[:3])
		slices.Reverse(all)
		wanted(t, "Turn of many "+s.name, flat.Turn(s.v), s.v.Class(), all)
	}
}

// A vector may have more elements than a result of most functions; none of those
// that are asked for may be lost.
func TestMoreThanMost(t *testing.T) {
	l := make([]int8, most+70)
	l[most], l[most+1], l[most+69] = 1, 1, 1
	for _, v := range []vec.Vec{
		smalls(l...), floats(list(len(l), func(i int) float64 { return float64(l[i]) })...),
		chars(list(len(l), func(i int) rune { return rune(l[i]) })...),
	} {
		all := told(v)
		wanted(t, "Cut of all of more than most", flat.Cut(v, 0, math.MaxInt), v.Class(), all)
		wanted(t, "Cut of one more than most", flat.Cut(v, 69, len(l)), v.Class(), all[69:])
		wanted(t, "Cut of most", flat.Cut(v, 70, len(l)), v.Class(), all[70:])
		wanted(t, "Cut behind most", flat.Cut(v, most-1, most+5), v.Class(), all[most-1:most+5])
		wanted(t, "Cut from behind most", flat.Cut(v, most+1, most+70), v.Class(), all[most+1:])
		wanted(t, "Pick behind most", flat.Pick(v, []int{most + 69, most + 70, most, 0}), v.Class(), []element{all[most+69], fill(v.Class()), all[most], all[0]})
		wanted(t, "Again of more than most", flat.Again(v, math.MaxInt), v.Class(), all[:most])
		want := slices.Clone(all)
		slices.Reverse(want)
		wanted(t, "Turn of more than most", flat.Turn(v), v.Class(), want)
	}
}

// P8.3

// unlike tells whether two vectors that are not empty have different classes.
func unlike(l []vec.Vec) bool {
	class := -1
	for _, v := range l {
		if v.Len() > 0 && class >= 0 && v.Class() != class {
			return true
		}
		if v.Len() > 0 {
			class = v.Class()
		}
	}
	return false
}

// joined checks a Join of vectors that are not too many.
func joined(t *testing.T, what string, l ...vec.Vec) {
	t.Helper()
	class := api.Number
	var want []element
	for i, v := range l {
		if i == 0 || len(want) == 0 && v.Len() > 0 {
			class = v.Class()
		}
		want = append(want, told(v)...)
	}
	v, ok := flat.Join(l...)
	if unlike(l) {
		refused(t, what, v, ok)
		return
	}
	if !ok {
		t.Errorf("%s is false", what)
		return
	}
	wanted(t, what, v, class, want)
}

// refused checks that a Join is false, with nothing beside it.
func refused(t *testing.T, what string, v vec.Vec, ok bool) {
	t.Helper()
	if ok || v.Kind() != 0 || v.Len() != 0 {
		t.Errorf("%s is %v, with %d elements of kind %d", what, ok, v.Len(), v.Kind())
	}
}

func TestJoinOfNothing(t *testing.T) {
	joined(t, "Join of no vectors")
	joined(t, "Join of an empty list", []vec.Vec{}...)
	if v, ok := flat.Join(); !ok || v.Kind() != api.Bit || v.Len() != 0 {
		t.Errorf("Join of no vectors is %v, with %d elements of kind %d", ok, v.Len(), v.Kind())
	}
}

func TestJoinOfSome(t *testing.T) {
	list := samples()
	for _, a := range list {
		joined(t, "Join of "+a.name, a.v)
		for _, b := range list {
			joined(t, "Join of "+a.name+", "+b.name, a.v, b.v)
			if a.v.Len() > 20 || b.v.Len() > 20 {
				continue
			}
			for _, c := range list {
				if c.v.Len() < 20 {
					joined(t, "Join of "+a.name+", "+b.name+", "+c.name, a.v, b.v, c.v)
				}
			}
		}
	}
}

// The first vector decides the class only where none has elements.
func TestJoinOfEmptyOnes(t *testing.T) {
	none := []vec.Vec{bits(), text(""), boxes(), smalls(), ints(), floats(), {}}
	for _, first := range none {
		v, ok := flat.Join(slices.Concat([]vec.Vec{first}, none, none)...)
		if !ok {
			t.Errorf("Join of no elements, first of kind %d, is false", first.Kind())
		}
		wanted(t, fmt.Sprintf("Join of no elements, first of kind %d", first.Kind()), v, first.Class(), nil)
		for _, s := range samples() {
			joined(t, "Join of "+s.name+" among empty ones", slices.Concat([]vec.Vec{first}, none, []vec.Vec{s.v}, none, []vec.Vec{s.v})...)
		}
	}
}

// One that is of another class is enough, wherever it is.
func TestJoinOfUnlikeOnes(t *testing.T) {
	like := map[int][]vec.Vec{
		api.Number: {bits(1), smalls(5), ints(300), floats(0.5), bits(0), floats(1)},
		api.Letter: {text("x"), text("yz"), text(" "), text("x"), text("1"), text("0")},
		api.Nested: {boxes(array(bits(1))), boxes(array(text("x"))), boxes(vec.Array{}, vec.Array{})},
	}
	for _, class := range classes {
		for _, other := range classes {
			for at := range len(like[class]) + 1 {
				for _, odd := range like[other] {
					l := slices.Insert(slices.Clone(like[class]), at, odd)
					joined(t, fmt.Sprintf("Join of class %d with class %d at %d", class, other, at), l...)
					v, ok := flat.Join(l...)
					if ok != (class == other) {
						t.Errorf("Join of class %d with class %d at %d is %v", class, other, at, ok)
					}
					if !ok {
						refused(t, "Join of unlike ones", v, ok)
					}
				}
			}
		}
	}
}

func TestJoinUpToMost(t *testing.T) {
	for _, s := range full() {
		all := told(s.v)
		for _, at := range []int{0, most/2 + 5, most - 1} {
			head, tail := flat.Cut(s.v, 0, at), flat.Cut(s.v, at, most)
			v, ok := flat.Join(head, text(""), tail, boxes(), bits())
			if !ok {
				t.Errorf("Join of all %s, cut at %d, is false", s.name, at)
			}
			wanted(t, fmt.Sprintf("Join of all %s, cut at %d", s.name, at), v, s.v.Class(), all)
			one := flat.Cut(s.v, 5, 6)
			for _, l := range [][]vec.Vec{{head, tail, one}, {one, head, tail}, {head, one, tail}, {head, tail, text(""), one, boxes()}} {
				v, ok := flat.Join(l...)
				refused(t, fmt.Sprintf("Join of all %s, cut at %d, and one more", s.name, at), v, ok)
			}
		}
		v, ok := flat.Join(s.v, s.v)
		refused(t, "Join of twice all "+s.name, v, ok)
	}
}

func TestJoinOfTooMany(t *testing.T) {
	for _, v := range []vec.Vec{smalls(make([]int8, most+1)...), ints(make([]int64, most+1)...), floats(make([]float64, most+1)...), chars(make([]rune, most+1)...), boxes(make([]vec.Array, most+1)...)} {
		for _, l := range [][]vec.Vec{{v}, {text(""), v}, {v, boxes()}, {v, text("x")}, {bits(1), v}, {v, boxes(vec.Array{})}, {v, v, v}} {
			z, ok := flat.Join(l...)
			refused(t, fmt.Sprintf("Join of %d elements of kind %d", v.Len(), v.Kind()), z, ok)
		}
	}
}

func TestJoinOfManyVectors(t *testing.T) {
	for _, s := range []sample{{"a bit", bits(1)}, {"a small", smalls(-5)}, {"an int", ints(300)}, {"a float", floats(0.5)}, {"a char", text("x")}, {"a box", boxes(array(text("x")))}} {
		l := list(most, func(int) vec.Vec { return s.v })
		joined(t, "Join of most times "+s.name+" and empty ones", append(l, text(""), boxes(), bits())...)
		v, ok := flat.Join(append(l, s.v)...)
		refused(t, "Join of one more than most times "+s.name, v, ok)
		whole := flat.Again(s.v, 1<<10)
		l = list(1<<10, func(int) vec.Vec { return whole })
		joined(t, "Join of 1024 times 1024 times "+s.name, l...)
		v, ok = flat.Join(append(l, s.v)...)
		refused(t, "Join of 1024 times 1024 times "+s.name+" and one more", v, ok)
		v, ok = flat.Join(list(most, func(int) vec.Vec { return whole })...)
		refused(t, "Join of 2^20 times 1024 times "+s.name, v, ok)
	}
}

func TestJoinOfManyEmptyOnes(t *testing.T) {
	for _, v := range []vec.Vec{bits(), text(""), boxes(), {}} {
		joined(t, "Join of more than most empty ones", list(most+5, func(int) vec.Vec { return v })...)
	}
}

// The list of vectors is the caller's: it is read, and no more.
func TestJoinLeavesItsList(t *testing.T) {
	a, b, c := text(""), bits(1, 0), floats(1, 0.5)
	room := []vec.Vec{a, b, boxes(), c, text("behind"), text("it")}
	names := list(len(room), func(i int) string { return fmt.Sprint(room[i].Kind(), told(room[i])) })
	v, ok := flat.Join(room[:4]...)
	for i, w := range room {
		if s := fmt.Sprint(w.Kind(), told(w)); s != names[i] {
			t.Errorf("Join left %s, not %s, at %d", s, names[i], i)
		}
	}
	clear(room)
	if !ok {
		t.Error("Join is false")
	}
	wanted(t, "Join after its list was cleared", v, api.Number, []element{ofNum(1), ofNum(0), ofNum(1), ofNum(0.5)})
}

// All results: boxes are of their own.

func TestShapesInBoxesAreNew(t *testing.T) {
	given := boxes(inner()...)
	before := told(given)
	reversed := slices.Clone(before)
	slices.Reverse(reversed)
	n := len(before)
	twice, _ := flat.Join(given, given)
	for _, s := range []struct {
		name string
		v    vec.Vec
		want []element
	}{
		{"Pick", flat.Pick(given, list(n, func(i int) int { return i })), before},
		{"Cut", flat.Cut(given, 0, n), before},
		{"Again", flat.Again(given, 2*n), slices.Concat(before, before)},
		{"Turn", flat.Turn(given), reversed},
		{"Join", twice, slices.Concat(before, before)},
	} {
		for i := range s.v.Len() {
			for k := range s.v.Box(i).Shape {
				s.v.Box(i).Shape[k] = 99
			}
			for k := range given.Box(i % n).Shape {
				given.Box(i % n).Shape[k] = 98
			}
		}
		wanted(t, s.name+" of boxes, after shapes were changed", s.v, api.Nested, s.want)
		wanted(t, "what was given to "+s.name, given, api.Nested, before)
	}
}

// P8.4

// parts cuts a vector at some places.
func parts(v vec.Vec, at ...int) []vec.Vec {
	var l []vec.Vec
	from := 0
	for _, to := range append(at, v.Len()) {
		l = append(l, flat.Cut(v, from, to))
		from = to
	}
	return l
}

func TestJoinOfPartsIsTheVector(t *testing.T) {
	for _, s := range samples() {
		all, n := told(s.v), s.v.Len()
		each := list(n, func(i int) int { return i })
		for _, at := range [][]int{nil, {0}, {n}, {n / 2}, {n / 3, n / 2}, {n / 2, n / 2}, {0, n / 4, n - n/4, n}, each, {min(63, n), min(64, n), min(65, n)}} {
			l := parts(s.v, at...)
			for _, part := range l {
				if part.Class() != s.v.Class() {
					t.Errorf("%s cut at %v: a part has the class %d", s.name, at, part.Class())
				}
			}
			v, ok := flat.Join(l...)
			if !ok {
				t.Errorf("%s cut at %v and joined is false", s.name, at)
			}
			wanted(t, fmt.Sprintf("%s cut at %v and joined", s.name, at), v, s.v.Class(), all)
		}
	}
}

func TestTurnTwice(t *testing.T) {
	for _, s := range append(samples(), full()...) {
		wanted(t, "Turn of Turn of "+s.name, flat.Turn(flat.Turn(s.v)), s.v.Class(), told(s.v))
	}
}

// Of any vector, elements or not, there comes one of the same class.
func TestTheClassNeverChanges(t *testing.T) {
	for _, s := range samples() {
		joined, ok := flat.Join(s.v, s.v)
		if !ok {
			t.Errorf("Join of twice %s is false", s.name)
		}
		for i, v := range []vec.Vec{
			flat.Pick(s.v, nil), flat.Pick(s.v, []int{0}), flat.Pick(s.v, []int{-1, 500}),
			flat.Cut(s.v, 0, 0), flat.Cut(s.v, 0, 1), flat.Cut(s.v, 500, 600), flat.Cut(s.v, 5, -5),
			flat.Again(s.v, 0), flat.Again(s.v, -5), flat.Again(s.v, 3), flat.Turn(s.v), joined,
		} {
			if v.Class() != s.v.Class() || v.Kind() == 0 {
				t.Errorf("%s, result %d: kind %d, class %d, not %d", s.name, i, v.Kind(), v.Class(), s.v.Class())
			}
		}
	}
}

// The chapter's examples.

func TestExamples(t *testing.T) {
	v, _ := squeeze.Numbers([]float64{1, 0, 1, 300})
	if p := flat.Pick(v, []int{0, 1, 9}); p.Kind() != api.Bit || !slices.Equal(p.Nums(), []float64{1, 0, 0}) {
		t.Errorf("Pick of 1 0 1 300 is %g of kind %d", p.Nums(), p.Kind())
	}
	if p := flat.Pick(text("x"), []int{-1, 0}); string(p.Text()) != " x" {
		t.Errorf("Pick of x is %q", string(p.Text()))
	}
	if a := flat.Again(bits(1, 0), 5); a.Kind() != api.Bit || !slices.Equal(a.Nums(), []float64{1, 0, 1, 0, 1}) {
		t.Errorf("Again of 1 0 is %g of kind %d", a.Nums(), a.Kind())
	}
	if a := flat.Again(text(""), 2); string(a.Text()) != "  " {
		t.Errorf("Again of no characters is %q", string(a.Text()))
	}
	if c := flat.Cut(v, 1, 3); c.Kind() != api.Bit || c.Len() != 2 {
		t.Errorf("Cut of 1 0 1 300 is %g of kind %d", c.Nums(), c.Kind())
	}
	j, ok := flat.Join(text(""), v, smalls(-1))
	if !ok || j.Kind() != api.Int || !slices.Equal(j.Nums(), []float64{1, 0, 1, 300, -1}) {
		t.Errorf("Join of no characters, 1 0 1 300 and -1 is %g of kind %d, %v", j.Nums(), j.Kind(), ok)
	}
	if _, ok := flat.Join(text("x"), v); ok {
		t.Error("Join of x and numbers is true")
	}
	if j, ok := flat.Join(text(""), vec.None(api.Nested)); !ok || j.Kind() != api.Char {
		t.Errorf("Join of no characters and no boxes is of kind %d, %v", j.Kind(), ok)
	}
}
