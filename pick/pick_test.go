package pick_test

import (
	"fmt"
	"math"
	"math/big"
	"slices"
	"strconv"
	"testing"

	"rebus/api"
	"rebus/bitvec"
	"rebus/flat"
	"rebus/logic"
	"rebus/pick"
	"rebus/squeeze"
	"rebus/value"
	"rebus/vec"
)

// most is the greatest number of elements, and top the greatest whole number.
const (
	most = 1 << 20
	top  = 1 << 53
)

// numeric lists the kinds of numbers, the least one first.
var numeric = []int{api.Bit, api.Small, api.Int, api.Float}

// far lists places that are in no vector, though some of them, many times over, come
// to less than an int holds.
var far = []int{
	math.MinInt, math.MinInt + 1, -1 << 62, -1 << 32, math.MinInt32, -most, -64, -2, -1,
	most, math.MaxInt32, 1 << 32, 1<<32 + 1, 1 << 60, 1 << 61, 1 << 62, 1<<62 + 1, math.MaxInt - 1, math.MaxInt,
}

// How vectors of each kind are made.

func bits(l ...int) vec.Vec {
	return vec.Bits(bitvec.Pack(list(len(l), func(i int) bool { return l[i] == 1 })))
}

func smalls(l ...int8) vec.Vec { return vec.Smalls(l) }

func ints(l ...int64) vec.Vec {
	v, ok := vec.Ints(l)
	if !ok {
		panic("no integers of at most 2^53")
	}
	return v
}

func floats(l ...float64) vec.Vec {
	v, ok := vec.Floats(l)
	if !ok {
		panic("no numbers")
	}
	return v
}

func text(s string) vec.Vec { return vec.Chars([]rune(s)) }

func boxes(l ...vec.Array) vec.Vec { return vec.Boxes(l) }

func array(v vec.Vec, s ...int) vec.Array { return vec.Array{Shape: s, V: v} }

// made makes a vector of a kind that numbers fit.
func made(l []float64, kind int) vec.Vec {
	switch kind {
	case api.Bit:
		return vec.Bits(bitvec.Pack(list(len(l), func(i int) bool { return l[i] == 1 })))
	case api.Small:
		return vec.Smalls(list(len(l), func(i int) int8 { return int8(l[i]) }))
	case api.Int:
		return ints(list(len(l), func(i int) int64 { return int64(l[i]) })...)
	}
	return floats(l...)
}

// kindsOf makes vectors of numbers in all kinds that they fit.
func kindsOf(l []float64) []vec.Vec {
	var z []vec.Vec
	for _, kind := range numeric {
		if kind >= least(l) {
			z = append(z, made(l, kind))
		}
	}
	return z
}

// list makes n elements by a rule.
func list[T any](n int, rule func(i int) T) []T {
	l := make([]T, n)
	for i := range l {
		l[i] = rule(i)
	}
	return l
}

// steps lists n of the elements of a list, the same ones each time.
func steps[T any](l []T, n, seed int) []T {
	x := uint32(seed)
	return list(n, func(int) T {
		x = x*1664525 + 1013904223
		return l[int(x>>8)%len(l)]
	})
}

// least tells the least kind that numbers fit.
func least(l []float64) int {
	kind := api.Bit
	for _, x := range l {
		switch {
		case x != math.Trunc(x) || math.Abs(x) > top:
			return api.Float
		case x < -128 || x > 127:
			kind = max(kind, api.Int)
		case x != 0 && x != 1 || len(l) > most:
			kind = max(kind, api.Small)
		}
	}
	return kind
}

// element is what an element is, so that elements of all classes can be held against
// each other: a number to its last bit, a character, or what is told of the array in a
// box.
type element struct {
	class int
	plain uint64
	box   string
}

// tell tells what element i of a vector is.
func tell(v vec.Vec, i int) element {
	switch v.Class() {
	case api.Letter:
		return element{class: api.Letter, plain: uint64(uint32(v.Char(i)))}
	case api.Nested:
		return ofBox(v.Box(i))
	}
	return element{class: api.Number, plain: math.Float64bits(v.Num(i))}
}

func ofBox(a vec.Array) element {
	text := strconv.AppendInt(nil, int64(a.V.Kind()), 10)
	for _, n := range a.Shape {
		text = strconv.AppendInt(append(text, ','), int64(n), 10)
	}
	for _, e := range told(a.V) {
		text = strconv.AppendUint(append(text, ' '), e.plain, 16)
		text = append(append(text, ' '), e.box...)
	}
	return element{class: api.Nested, box: "(" + string(text) + ")"}
}

// told lists what all elements of a vector are.
func told(v vec.Vec) []element {
	return list(v.Len(), func(i int) element { return tell(v, i) })
}

// fill tells what the fill element of a class is.
func fill(class int) element {
	switch class {
	case api.Letter:
		return element{class: api.Letter, plain: 0x20}
	case api.Nested:
		return element{class: api.Nested, box: "(1,0)"}
	}
	return element{class: api.Number}
}

// wanted tells whether a vector is of a class and has these elements, in the least
// kind.
func wanted(t *testing.T, what string, v vec.Vec, class int, want []element) bool {
	t.Helper()
	if v.Class() != class || v.Len() != len(want) {
		t.Errorf("%s: %d elements of class %d, not %d of class %d", what, v.Len(), v.Class(), len(want), class)
		return false
	}
	for i, e := range want {
		if got := tell(v, i); got != e {
			t.Errorf("%s: element %d is %v, not %v", what, i, got, e)
			return false
		}
	}
	kind := []int{least(v.Nums()), api.Char, api.Box}[class]
	if v.Kind() != kind || !squeeze.Tight(v) {
		t.Errorf("%s: the kind is %d, not %d", what, v.Kind(), kind)
		return false
	}
	return true
}

// nothing checks that a vector has no kind and no elements.
func nothing(t *testing.T, what string, v vec.Vec) {
	t.Helper()
	if v.Kind() != 0 || v.Class() != api.Number || v.Len() != 0 {
		t.Errorf("%s has %d elements of kind %d", what, v.Len(), v.Kind())
	}
}

// placed holds places against those that there must be.
func placed(t *testing.T, what string, at, want []int) bool {
	t.Helper()
	if slices.Equal(at, want) {
		return true
	}
	if len(at)+len(want) > 100 {
		t.Errorf("%s: %d places, not the %d that it has", what, len(at), len(want))
	} else {
		t.Errorf("%s is %v, not %v", what, at, want)
	}
	return false
}

// failed checks that there is an error, with no places beside it.
func failed(t *testing.T, what string, at []int, err, want api.Errno) {
	t.Helper()
	if err != want || len(at) != 0 {
		t.Errorf("%s is error %d with %d places, not error %d alone", what, err, len(at), want)
	}
}

// sample is vectors of a class, of which a rule makes one with n elements.
type sample struct {
	name string
	of   func(n int) vec.Vec
}

// inner lists arrays of all kinds, for boxes.
func inner() []vec.Array {
	return []vec.Array{
		array(smalls(-7)), array(text("hi"), 2), array(bits(), 0), array(text(""), 0), array(boxes(), 0, 3), array(bits(1, 0, 1, 1), 2, 2),
		array(ints(300, -top), 1, 2), array(floats(0.5)), {}, array(boxes(array(boxes(array(text("deep"), 1, 4))), array(smalls(1, 0), 2)), 2),
	}
}

// samples lists vectors in each kind: of the least kind that their elements fit, and of
// greater ones; some of which only a few elements need the kind.
func samples() []sample {
	return []sample{
		{"bits", func(n int) vec.Vec { return bits(steps([]int{0, 1}, n, 1)...) }},
		{"ones", func(n int) vec.Vec { return bits(slices.Repeat([]int{1}, n)...) }},
		{"small bits", func(n int) vec.Vec { return smalls(steps([]int8{0, 1}, n, 2)...) }},
		{"smalls", func(n int) vec.Vec {
			return smalls(list(n, func(i int) int8 { return []int8{0, -128, 1, 127, 2, 1, int8(i), -1, 0}[i%9] })...)
		}},
		{"int bits", func(n int) vec.Vec { return ints(steps([]int64{1, 0}, n, 3)...) }},
		{"ints", func(n int) vec.Vec {
			return ints(list(n, func(i int) int64 { return []int64{1, 300, -top, top, 0, -129, 128, int64(i), 5, 1}[i%10] })...)
		}},
		{"float bits", func(n int) vec.Vec { return floats(steps([]float64{1, 0}, n, 4)...) }},
		{"whole floats", func(n int) vec.Vec { return floats(list(n, func(i int) float64 { return float64(i*7 - 3) })...) }},
		{"floats", func(n int) vec.Vec {
			return floats(list(n, func(i int) float64 {
				return []float64{1, 0.5, top + 2, 0, -1e300, 300, math.MaxFloat64, math.SmallestNonzeroFloat64, float64(i) / 8, 1}[i%10]
			})...)
		}},
		{"chars", func(n int) vec.Vec {
			return vec.Chars(list(n, func(i int) rune { return []rune{'x', 0, 0x2374, -1, 0x10ffff, math.MinInt32, rune(i)}[i%7] }))
		}},
		{"boxes", func(n int) vec.Vec {
			return boxes(list(n, func(i int) vec.Array {
				if i%11 == 10 {
					return array(smalls(int8(i)))
				}
				return inner()[i%11]
			})...)
		}},
	}
}

// spare makes a list of the same places with room behind it, and what the room holds.
func spare(at []int) []int {
	room := append(slices.Clone(at), 71, 72, 73)
	return room[:len(at):len(room)]
}

// unchanged checks that a list that was made by spare is as it was.
func unchanged(t *testing.T, what string, given, at []int) {
	t.Helper()
	if !slices.Equal(given, at) || !slices.Equal(given[:cap(given)][len(at):], []int{71, 72, 73}) {
		t.Errorf("%s left %v", what, given[:cap(given)])
	}
}

// P15.1: Along

// along lists the elements that Along must tell: by rows, then places, then elements.
func along(v vec.Vec, outer, n, inner int, at []int) []element {
	all := told(v)
	var want []element
	for i := range outer {
		row := all[i*n*inner : (i+1)*n*inner]
		for _, place := range at {
			if place < 0 || place >= n {
				want = append(want, slices.Repeat([]element{fill(v.Class())}, inner)...)
				continue
			}
			want = append(want, row[place*inner:(place+1)*inner]...)
		}
	}
	return want
}

// places lists lists of places of an axis of n elements.
func places(n int) [][]int {
	up := list(n, func(i int) int { return i })
	down := list(n, func(i int) int { return n - 1 - i })
	some := slices.Concat(up, []int{-1, n, n + 1})
	lists := [][]int{
		nil, {}, up, down, slices.Concat(down, up, down), far, slices.Concat(far, up), steps(some, 3, n), steps(some, 67, n+1),
		{-1}, {n}, {n - 1}, {0}, {0, 0, 0}, {n - 1, n, n - 1, -1, 0}, {-n, -n - 1, 2 * n, n + 1, n - 1},
	}
	for _, place := range far {
		lists = append(lists, []int{place}, []int{place, 0})
	}
	return lists
}

// alongs checks what Along tells of a vector at many lists of places.
func alongs(t *testing.T, name string, v vec.Vec, outer, n, inner int) {
	t.Helper()
	before := told(v)
	for _, at := range places(n) {
		given := spare(at)
		what := fmt.Sprintf("Along of %s as %d by %d by %d at %v", name, outer, n, inner, at)
		z := pick.Along(v, outer, n, inner, given)
		wanted(t, what, z, v.Class(), along(v, outer, n, inner, at))
		unchanged(t, what, given, at)
	}
	if !slices.Equal(told(v), before) {
		t.Errorf("Along changed %s", name)
	}
}

func TestAlong(t *testing.T) {
	for _, s := range samples() {
		for outer := range 4 {
			for n := range 5 {
				for inner := range 4 {
					alongs(t, s.name, s.of(outer*n*inner), outer, n, inner)
				}
			}
		}
	}
}

func TestAlongOfMore(t *testing.T) {
	for _, s := range samples() {
		for _, size := range [][3]int{{1, 64, 1}, {1, 65, 1}, {63, 1, 2}, {1, 1, 65}, {7, 9, 5}, {1, 130, 2}, {64, 2, 1}, {2, 3, 64}} {
			alongs(t, s.name, s.of(size[0]*size[1]*size[2]), size[0], size[1], size[2])
		}
	}
}

func TestAlongOfThePageIsAsItSays(t *testing.T) {
	v := smalls(1, 2, 3, 4, 5, 6)
	for _, c := range []struct {
		outer, n, inner int
		at              []int
		want            []float64
	}{
		{2, 3, 1, []int{2, 0, 5}, []float64{3, 1, 0, 6, 4, 0}},
		{1, 3, 2, []int{2, 0, 5}, []float64{5, 6, 1, 2, 0, 0}},
		{3, 2, 1, []int{1}, []float64{2, 4, 6}},
		{1, 2, 3, []int{-1, 1}, []float64{0, 0, 0, 4, 5, 6}},
		{6, 1, 1, []int{0, 0}, []float64{1, 1, 2, 2, 3, 3, 4, 4, 5, 5, 6, 6}},
		{1, 1, 6, []int{0, 1}, []float64{1, 2, 3, 4, 5, 6, 0, 0, 0, 0, 0, 0}},
		{1, 6, 1, []int{5, 0}, []float64{6, 1}},
	} {
		if z := pick.Along(v, c.outer, c.n, c.inner, c.at); !slices.Equal(z.Nums(), c.want) {
			t.Errorf("Along as %d by %d by %d at %v is %v, not %v", c.outer, c.n, c.inner, c.at, z.Nums(), c.want)
		}
	}
}

// What is picked is of the least kind, whatever the kind of what it was picked from.
func TestAlongIsOfTheLeastKind(t *testing.T) {
	for _, c := range []struct {
		v    vec.Vec
		at   []int
		kind int
	}{
		{ints(1, 300, 0, -1), []int{0, 2}, api.Bit}, {ints(1, 300, 0, -1), []int{0, 3}, api.Small}, {ints(1, 300, 0, -1), []int{0, 1}, api.Int},
		{floats(1, 0.5, 300, 7), []int{0, 4}, api.Bit}, {floats(1, 0.5, 300, 7), []int{3}, api.Small}, {floats(1, 0.5, 300, 7), []int{3, 2}, api.Int},
		{floats(1, 0.5, 300, 7), []int{3, 1}, api.Float}, {floats(1, 0.5, 300, 7), nil, api.Bit}, {text("wxyz"), nil, api.Char}, {boxes(inner()[:4]...), nil, api.Box},
	} {
		if z := pick.Along(c.v, 1, 4, 1, c.at); z.Kind() != c.kind {
			t.Errorf("Along of %v at %v has the kind %d, not %d", c.v, c.at, z.Kind(), c.kind)
		}
	}
}

// Where there are no elements, the other numbers may be as great as they like, unless
// something comes of them.
func TestAlongOfNothing(t *testing.T) {
	great := []int{0, 1, 2, most, 1 << 31, 1 << 32, 1 << 62, math.MaxInt}
	for _, v := range []vec.Vec{bits(), smalls(), ints(), floats(), text(""), boxes()} {
		for _, a := range great {
			for _, b := range great {
				for _, at := range [][]int{nil, {0}, {-1, 0, 5}, far} {
					what := fmt.Sprintf("Along of none of kind %d as %d and %d at %v", v.Kind(), a, b, at)
					wanted(t, what, pick.Along(v, 0, a, b, at), v.Class(), nil)
					wanted(t, what, pick.Along(v, a, b, 0, at), v.Class(), nil)
				}
				wanted(t, fmt.Sprintf("Along of none of kind %d as %d by 0 by %d at nothing", v.Kind(), a, b), pick.Along(v, a, 0, b, nil), v.Class(), nil)
			}
		}
		for _, size := range [][2]int{{1, 1}, {2, 1}, {1, 3}, {5, 7}, {64, 3}, {1, 1000}, {1000, 1}} {
			for _, at := range [][]int{{0}, {-1, 0, 5}, far} {
				want := slices.Repeat([]element{fill(v.Class())}, size[0]*size[1]*len(at))
				what := fmt.Sprintf("Along of none of kind %d as %d by 0 by %d at %v", v.Kind(), size[0], size[1], at)
				wanted(t, what, pick.Along(v, size[0], 0, size[1], at), v.Class(), want)
			}
		}
	}
}

func TestTheFillElementOfBoxesIsGood(t *testing.T) {
	b := pick.Along(boxes(array(text("x"))), 1, 1, 1, []int{1}).Box(0)
	if !value.Good(b) || !value.Same(b, flat.Blank()) {
		t.Error("the fill element of boxes does not contain the empty vector of numbers")
	}
}

// full lists vectors of n elements, in some kinds.
func full(n int) []vec.Vec {
	return []vec.Vec{
		bits(list(min(n, most), func(i int) int { return i * i % 7 % 2 })...), smalls(list(n, func(i int) int8 { return int8(i * i % 251) })...),
		floats(list(n, func(i int) float64 { return float64(i) / 4 })...), vec.Chars(list(n, func(i int) rune { return rune(i) - 77 })),
		boxes(list(n, func(i int) vec.Array { return array(smalls(int8(i * i % 251))) })...),
	}
}

func TestAlongOfMany(t *testing.T) {
	for _, v := range full(most) {
		what := fmt.Sprintf("Along of 2^20 elements of kind %d", v.Kind())
		turned := list(most, func(i int) int { return most - 1 - i })
		wanted(t, what+" turned", pick.Along(v, 1, most, 1, turned), v.Class(), along(v, 1, most, 1, turned))
		halves := []int{1, 0}
		wanted(t, what+" as halves", pick.Along(v, 1, 2, most/2, halves), v.Class(), along(v, 1, 2, most/2, halves))
		wanted(t, what+" as pairs", pick.Along(v, most/2, 2, 1, halves), v.Class(), along(v, most/2, 2, 1, halves))
		cubes := []int{127, -1, 0, 128}
		wanted(t, what+" as a cube", pick.Along(v, 64, 128, 128, cubes), v.Class(), along(v, 64, 128, 128, cubes))
		wanted(t, what+" at two places", pick.Along(v, 1, most, 1, []int{most - 1, most}), v.Class(), []element{tell(v, most-1), fill(v.Class())})
	}
}

// No limit is named for what Along tells: whatever flat.Pick takes at a time, nothing
// may be lost.
func TestAlongOfMoreThanMost(t *testing.T) {
	for _, v := range full(3) {
		for _, many := range []int{most - 1, most, most + 1, 2*most + 1} {
			at := steps([]int{0, 1, 2, -1, 3}, many, many)
			at[many-1] = 2
			wanted(t, fmt.Sprintf("Along of kind %d at %d places", v.Kind(), many), pick.Along(v, 1, 3, 1, at), v.Class(), along(v, 1, 3, 1, at))
		}
	}
	for _, v := range full(most + 4)[1:] {
		at := []int{1, 0, 1}
		wanted(t, fmt.Sprintf("Along of more than most of kind %d", v.Kind()), pick.Along(v, 2, 2, most/4+1, at), v.Class(), along(v, 2, 2, most/4+1, at))
	}
	v := smalls(list(most+4, func(i int) int8 { return int8(i % 2) })...)
	at := list(most+4, func(i int) int { return i ^ 1 })
	wanted(t, "Along of more than most that are 0 or 1", pick.Along(v, 1, most+4, 1, at), api.Number, along(v, 1, most+4, 1, at))
	wanted(t, "Along of more than most as pairs", pick.Along(v, most/2+2, 2, 1, []int{1}), api.Number, along(v, most/2+2, 2, 1, []int{1}))
}

func TestAlongOfWrongInputs(t *testing.T) {
	v, none := smalls(1, 2, 3, 4, 5, 6), text("")
	for _, at := range [][]int{nil, {0}, {1, -1}} {
		for _, size := range [][3]int{
			{1, 1, 1}, {1, 5, 1}, {1, 7, 1}, {2, 2, 1}, {1, 2, 2}, {2, 2, 2}, {4, 2, 1}, {0, 6, 1}, {6, 0, 1}, {1, 6, 0}, {0, 0, 0}, {12, 1, 1}, {1, 1, 12},
			{-1, -6, 1}, {-2, -3, 1}, {-1, 6, -1}, {1, -1, -6}, {-6, 1, 1}, {1, -6, 1}, {1, 6, -1}, {-1, -1, -6},
			// These come to 6, where a product wraps round.
			{838488366986797801, 22, 1}, {838488366986797801, 1, 22}, {1, 22, 838488366986797801}, {22, 838488366986797801, 1},
			{math.MaxInt, math.MaxInt, 6}, {math.MinInt, math.MinInt, 6}, {math.MaxInt, 6, math.MaxInt}, {6, math.MinInt, 1}, {math.MaxInt, 1, 1}, {1, math.MaxInt, 1},
		} {
			nothing(t, fmt.Sprintf("Along of six elements as %v at %v", size, at), pick.Along(v, size[0], size[1], size[2], at))
		}
		for _, size := range [][3]int{
			{1, 1, 1}, {1 << 32, 1 << 32, 1}, {1 << 32, 1, 1 << 32}, {1, 1 << 62, 4}, {1 << 22, 1 << 21, 1 << 21},
			{-1, 0, 1}, {1, 0, -1}, {1, -1, 0}, {0, -1, 1}, {0, 1, -1}, {-1, 1, 0}, {-1, -1, 0}, {math.MinInt, 0, 2}, {2, 0, math.MinInt},
		} {
			nothing(t, fmt.Sprintf("Along of no elements as %v at %v", size, at), pick.Along(none, size[0], size[1], size[2], at))
		}
		for _, size := range [][3]int{{0, 0, 0}, {1, 0, 1}, {0, 1, 1}, {1, 1, 0}, {2, 0, 3}, {1, 1, 1}, {-1, 0, 1}} {
			nothing(t, fmt.Sprintf("Along of no kind as %v at %v", size, at), pick.Along(vec.Vec{}, size[0], size[1], size[2], at))
		}
	}
}

// Where something comes of no elements, it may be more than any vector holds.
func TestAlongOfTooMany(t *testing.T) {
	for _, v := range []vec.Vec{bits(), floats(), text(""), boxes()} {
		for _, size := range [][2]int{
			{1 << 31, 1}, {1, 1 << 31}, {most, most}, {1 << 16, 1 << 15}, {math.MaxInt, 1}, {1, math.MaxInt}, {math.MaxInt, math.MaxInt}, {1 << 32, 1 << 32}, {1 << 62, 4},
			{1 << 61, 8}, {1<<63 - 1, 2}, {1<<62 + 1, 4},
		} {
			for _, at := range [][]int{{0}, {0, 1}, far} {
				nothing(t, fmt.Sprintf("Along of kind %d as %d by 0 by %d at %v", v.Kind(), size[0], size[1], at), pick.Along(v, size[0], 0, size[1], at))
			}
		}
	}
}

func TestAlongKeepsNothing(t *testing.T) {
	shapes := [][]int{{1}, {1, 1}, {1, 1, 1}}
	v := boxes(list(3, func(i int) vec.Array { return array(bits(1), shapes[i]...) })...)
	at := []int{2, 0, 1, 9}
	want := along(v, 1, 3, 1, at)
	z := pick.Along(v, 1, 3, 1, at)
	for i := range at {
		at[i] = -7
	}
	for _, s := range shapes {
		s[0] = 8
	}
	for i := range 4 {
		z.Box(i).Shape[0] = 9
		z.Arrays()[i].Shape[0] = 9
	}
	wanted(t, "Along after all else was changed", z, api.Nested, want)
	wanted(t, "Along after a former answer was changed", pick.Along(v, 1, 3, 1, []int{2, 0, 1, 9}), api.Nested, want)
}

// P15.2: Where

// masks lists lists of 0s and 1s.
func masks() [][]float64 {
	z := [][]float64{nil, {0}, {1}, {0, 1, 1}, {1, 0, 1}, {0, 0}, {1, 1}, {1, 0, 0, 0, 0, 0, 0, 1}}
	for _, n := range []int{7, 8, 63, 64, 65, 127, 128, 129, 130, 200, 1000} {
		z = append(z, steps([]float64{0, 1}, n, n), steps([]float64{0, 0, 0, 1}, n, n+1), make([]float64, n), slices.Repeat([]float64{1}, n))
		for _, at := range []int{0, n / 2, n - 1} {
			one := make([]float64, n)
			one[at] = 1
			z = append(z, one)
		}
	}
	return z
}

// ones lists the places of a list where there is a 1.
func ones(l []float64) []int {
	var at []int
	for i, x := range l {
		if x == 1 {
			at = append(at, i)
		}
	}
	return at
}

// untrue lists vectors that are not all truths, with what they are.
func untrue() []vec.Vec {
	z := []vec.Vec{
		{}, text(""), text("x"), text("01"), vec.Chars([]rune{0, 1, 1}), boxes(), boxes(array(bits(1))), boxes(array(bits(1), 1), array(bits(0), 1)),
		smalls(2), smalls(-1), ints(300), ints(top), floats(0.5), floats(math.SmallestNonzeroFloat64), floats(1 + 1e-15), floats(-1), floats(2),
	}
	for _, n := range []int{3, 64, 65, 130} {
		for _, at := range []int{0, 1, n / 2, n - 1} {
			for _, x := range []float64{2, -1, 127, -128, 256, 257, -256, 1 << 32, 1<<32 + 1, top, 0.5, -0.5, 1.5, 0.25, 1e300} {
				l := steps([]float64{1, 0}, n, at)
				l[at] = x
				z = append(z, kindsOf(l)...)
			}
		}
	}
	return z
}

func TestWhere(t *testing.T) {
	for _, l := range masks() {
		for _, v := range kindsOf(l) {
			before := told(v)
			at, ok := pick.Where(v)
			if !ok {
				t.Errorf("Where of %v in kind %d is false", l, v.Kind())
			}
			placed(t, fmt.Sprintf("Where of %v in kind %d", l, v.Kind()), at, ones(l))
			if !slices.Equal(told(v), before) {
				t.Errorf("Where changed %v in kind %d", l, v.Kind())
			}
		}
	}
}

func TestWhereOfNoTruths(t *testing.T) {
	for _, v := range untrue() {
		if at, ok := pick.Where(v); ok || len(at) != 0 {
			t.Errorf("Where of %d elements of kind %d is %v, %v", v.Len(), v.Kind(), at, ok)
		}
		if _, ok := logic.Truths(v); ok {
			t.Errorf("the test has %d elements of kind %d for no truths", v.Len(), v.Kind())
		}
	}
}

// many lists long lists of 0s and 1s, some of them longer than a bit vector.
func many() [][]float64 {
	var z [][]float64
	for _, n := range []int{most - 1, most, most + 1, most + 70} {
		l := steps([]float64{0, 1}, n, n)
		l[n-1] = 1
		z = append(z, l)
	}
	return z
}

func TestWhereOfMany(t *testing.T) {
	for _, l := range many() {
		for _, v := range kindsOf(l) {
			what := fmt.Sprintf("Where of %d elements of kind %d", v.Len(), v.Kind())
			at, ok := pick.Where(v)
			if !ok {
				t.Errorf("%s is false", what)
			}
			placed(t, what, at, ones(l))
		}
		for _, place := range []int{0, len(l) - 1} {
			wrong := slices.Clone(l)
			wrong[place] = 2
			if at, ok := pick.Where(made(wrong, api.Small)); ok || len(at) != 0 {
				t.Errorf("Where of %d elements with a 2 at %d is %d places, %v", len(l), place, len(at), ok)
			}
		}
	}
}

// P15.2: Expand

// expanded lists the places that Expand must tell.
func expanded(mask []float64, n int) []int {
	var at []int
	next := 0
	for _, x := range mask {
		switch {
		case x == 0:
			at = append(at, -1)
		case n == 1:
			at = append(at, 0)
		default:
			at = append(at, next)
			next++
		}
	}
	return at
}

// lengths lists lengths about a few.
func lengths(about ...int) []int {
	l := []int{0, 1, 2, 3, 64, most, -1, math.MinInt, math.MaxInt, 1 << 32, 1<<32 + 1}
	for _, n := range about {
		l = append(l, n-1, n, n+1, -n, n+1<<32)
	}
	return l
}

func TestExpand(t *testing.T) {
	for _, l := range masks() {
		count := len(ones(l))
		for _, v := range kindsOf(l) {
			before := told(v)
			for _, n := range lengths(count, len(l)) {
				what := fmt.Sprintf("Expand of %v in kind %d of %d elements", l, v.Kind(), n)
				at, err := pick.Expand(v, n)
				if n != 1 && n != count {
					failed(t, what, at, err, api.ErrLength)
					continue
				}
				if err != api.OK {
					t.Errorf("%s is error %d", what, err)
				}
				placed(t, what, at, expanded(l, n))
			}
			if !slices.Equal(told(v), before) {
				t.Errorf("Expand changed %v in kind %d", l, v.Kind())
			}
		}
	}
}

func TestExpandOfThePageIsAsItSays(t *testing.T) {
	for _, c := range []struct {
		mask vec.Vec
		n    int
		want []int
	}{
		{bits(1, 0, 1), 1, []int{0, -1, 0}}, {bits(1, 0, 1), 2, []int{0, -1, 1}}, {bits(0, 1, 1, 0, 1), 3, []int{-1, 0, 1, -1, 2}},
		{bits(0, 0), 0, []int{-1, -1}}, {bits(0, 0), 1, []int{-1, -1}}, {bits(0, 1), 1, []int{-1, 0}}, {bits(), 0, nil}, {bits(), 1, nil}, {floats(1, 0), 1, []int{0, -1}},
	} {
		at, err := pick.Expand(c.mask, c.n)
		if err != api.OK {
			t.Errorf("Expand of %v of %d elements is error %d", c.mask.Nums(), c.n, err)
		}
		placed(t, fmt.Sprintf("Expand of %v of %d elements", c.mask.Nums(), c.n), at, c.want)
	}
}

// That a mask is not truths is told first, whatever the length.
func TestExpandOfNoTruths(t *testing.T) {
	for _, v := range untrue() {
		for _, n := range lengths(v.Len()) {
			at, err := pick.Expand(v, n)
			failed(t, fmt.Sprintf("Expand of %d elements of kind %d of %d elements", v.Len(), v.Kind(), n), at, err, api.ErrDomain)
		}
	}
}

func TestExpandOfMany(t *testing.T) {
	for _, l := range many() {
		count := len(ones(l))
		for _, v := range kindsOf(l) {
			what := fmt.Sprintf("Expand of %d elements of kind %d", v.Len(), v.Kind())
			for _, n := range []int{1, count} {
				at, err := pick.Expand(v, n)
				if err != api.OK {
					t.Errorf("%s is error %d", what, err)
				}
				placed(t, what, at, expanded(l, n))
			}
			at, err := pick.Expand(v, count+1)
			failed(t, what, at, err, api.ErrLength)
		}
	}
}

// P15.3: Copies

// copies lists the places that Copies must tell, or its error; the counts are integers.
func copies(counts []float64, n, limit int) ([]int, api.Errno) {
	if len(counts) != n && len(counts) != 1 {
		return nil, api.ErrLength
	}
	count := func(i int) int { return int(counts[min(i, len(counts)-1)]) }
	// Up to 2^53, which is above all limits, the sum is not rounded.
	sum := 0.0
	for i := range n {
		sum += math.Abs(float64(count(i)))
	}
	if sum > float64(limit) {
		return nil, api.ErrLimit
	}
	var at []int
	for i := range n {
		for k := count(i); k > 0; k-- {
			at = append(at, i)
		}
		for k := count(i); k < 0; k++ {
			at = append(at, -1)
		}
	}
	return at, api.OK
}

// copied checks what Copies tells of counts, in all kinds of integers that hold them,
// and that it leaves them.
func copied(t *testing.T, counts []float64, n, limit int) {
	t.Helper()
	want, wantedErr := copies(counts, n, limit)
	for _, v := range kindsOf(counts) {
		what := fmt.Sprintf("Copies of %v in kind %d of %d elements, at most %d", counts, v.Kind(), n, limit)
		if len(counts) > 20 {
			what = fmt.Sprintf("Copies of %d counts of kind %d of %d elements, at most %d", len(counts), v.Kind(), n, limit)
		}
		before := told(v)
		at, err := pick.Copies(v, n, limit)
		switch {
		case v.Kind() == api.Float && v.Len() > 0:
			failed(t, what, at, err, api.ErrDomain)
		case wantedErr != api.OK:
			failed(t, what, at, err, wantedErr)
		default:
			if err != api.OK {
				t.Errorf("%s is error %d", what, err)
			}
			placed(t, what, at, want)
		}
		if v.Len() != len(before) || !slices.Equal(told(v), before) {
			t.Errorf("%s changed the counts", what)
		}
	}
}

// sizes sums up the absolute values of counts.
func sizes(counts []float64) int {
	sum := 0.0
	for _, x := range counts {
		sum += math.Abs(x)
	}
	return int(min(sum, 2*most))
}

func TestCopies(t *testing.T) {
	for _, counts := range [][]float64{
		nil, {0}, {1}, {-1}, {2}, {-3}, {127}, {-128}, {128}, {300}, {-1000}, {1, 0, 1}, {0, 0, 0}, {2, -1, 0, 3}, {-2, -1}, {5, 5}, {0, 1, 0, 0, 1}, {-1, 0, 2, -3, 1},
		{300, -200, 0, 1}, {0, -128, 127}, {1000, 1000}, steps([]float64{0, 1}, 64, 1), steps([]float64{0, 1}, 130, 2), steps([]float64{-1, 0, 1, 2}, 65, 3), steps([]float64{-129, 0, 300}, 100, 4),
	} {
		for _, n := range []int{0, 1, 2, 3, 4, 5, 64, 65, 100, 130, len(counts) - 1, len(counts), len(counts) + 1} {
			sum := sizes(counts)
			for _, limit := range []int{0, 1, 9, sum - 1, sum, sum + 1, sum*n - 1, sum * n, sum*n + 1, most} {
				if n >= 0 && limit >= 0 && limit <= most {
					copied(t, counts, n, limit)
				}
			}
		}
	}
}

func TestCopiesOfThePageAreAsItSays(t *testing.T) {
	for _, c := range []struct {
		counts   vec.Vec
		n, limit int
		want     []int
		err      api.Errno
	}{
		{bits(1, 0, 1), 3, 9, []int{0, 2}, api.OK}, {smalls(2), 2, 9, []int{0, 0, 1, 1}, api.OK}, {smalls(5, 5), 2, 9, nil, api.ErrLimit}, {floats(0.5, 1), 2, 9, nil, api.ErrDomain},
		{smalls(2, -1), 2, 3, []int{0, 0, -1}, api.OK}, {smalls(2, -1), 2, 2, nil, api.ErrLimit}, {smalls(-2), 2, 4, []int{-1, -1, -1, -1}, api.OK},
		{smalls(-2), 2, 3, nil, api.ErrLimit}, {smalls(3, -3), 2, 6, []int{0, 0, 0, -1, -1, -1}, api.OK}, {smalls(3, -3), 2, 5, nil, api.ErrLimit}, {smalls(3, -3), 2, 0, nil, api.ErrLimit},
		{bits(1), 4, 4, []int{0, 1, 2, 3}, api.OK}, {bits(1), 4, 3, nil, api.ErrLimit}, {smalls(5), 0, 0, nil, api.OK}, {ints(top), 0, 0, nil, api.OK},
		{bits(1, 0, 1), 2, 9, nil, api.ErrLength}, {bits(1, 0), 1, 9, nil, api.ErrLength}, {bits(), 1, 9, nil, api.ErrLength}, {bits(), 0, 0, nil, api.OK},
		{floats(1, 1), 2, 9, nil, api.ErrDomain}, {floats(), 0, 0, nil, api.OK}, {floats(), 1, 0, nil, api.ErrLength},
	} {
		at, err := pick.Copies(c.counts, c.n, c.limit)
		what := fmt.Sprintf("Copies of %v of kind %d of %d elements, at most %d", c.counts.Nums(), c.counts.Kind(), c.n, c.limit)
		if err != c.err {
			t.Errorf("%s is error %d, not %d", what, err, c.err)
		}
		placed(t, what, at, c.want)
	}
}

func TestCopiesOfGreatCounts(t *testing.T) {
	great := []float64{most, most + 1, -most, -most - 1, 1 << 31, 1 << 32, -1 << 32, 1<<32 + 1, top, -top, top - 1}
	for _, x := range great {
		for _, limit := range []int{0, 1, most - 1, most} {
			copied(t, []float64{x}, 1, limit)
			copied(t, []float64{x}, 0, limit)
			copied(t, []float64{x}, 2, limit)
			copied(t, []float64{0, x}, 2, limit)
			copied(t, []float64{x, -1}, 2, limit)
			copied(t, []float64{x, 0, -x}, 3, limit)
		}
	}
	// The sums of these would come to 0 or less, or nearly so, if they wrapped round.
	for _, n := range []int{1 << 10, 1<<10 + 1, 1 << 11, 1<<11 + 1, 1 << 12, 1 << 19, most} {
		for _, x := range []float64{top, -top, 1 << 52, -1 << 52, 1 << 44, -1 << 44, 1 << 12} {
			copied(t, []float64{x}, n, most)
			copied(t, append(slices.Repeat([]float64{x}, n-1), 0), n, most)
		}
	}
}

func TestCopiesOfMany(t *testing.T) {
	for _, x := range []float64{0, 1, -1, 2} {
		for _, n := range []int{most - 1, most, most / 2, most/2 + 1} {
			for _, limit := range []int{0, most / 2, most - 1, most} {
				copied(t, []float64{x}, n, limit)
			}
		}
	}
	mixed := steps([]float64{0, 1, -1, 0, 2, -2, 0}, most, 5)
	for _, limit := range []int{sizes(mixed) - 1, sizes(mixed), most} {
		copied(t, mixed, most, limit)
		copied(t, mixed, most-1, limit)
	}
	copied(t, steps([]float64{0, 1}, most, 6), most, most)
	copied(t, []float64{most}, 1, most)
	copied(t, []float64{-most}, 1, most)
	copied(t, []float64{0, most - 1, 1, 0}, 4, most)
	copied(t, []float64{0, most - 1, 2, 0}, 4, most)
}

// uncounted lists vectors of n elements that are no counts.
func uncounted(n int) []vec.Vec {
	z := []vec.Vec{{}, vec.Chars(make([]rune, n)), vec.Chars(slices.Repeat([]rune{1}, n)), boxes(slices.Repeat([]vec.Array{array(bits(1))}, n)...)}
	if n > 0 {
		for _, x := range []float64{0, 1, -1, 2, 300, top, 0.5, -0.5, 1e300} {
			z = append(z, floats(slices.Repeat([]float64{x}, n)...), floats(append(make([]float64, n-1), x)...), floats(append([]float64{x}, make([]float64, n-1)...)...))
		}
	}
	return z
}

// What counts are not is told ahead of how many they are, and that ahead of how much
// they sum up to.
func TestTheFirstErrorOfCopies(t *testing.T) {
	for _, m := range []int{0, 1, 2, 3, 64} {
		for _, n := range []int{0, 1, 2, 3, 4, 64, most} {
			for _, limit := range []int{0, 1, 9, most} {
				for _, v := range uncounted(m) {
					at, err := pick.Copies(v, n, limit)
					failed(t, fmt.Sprintf("Copies of %d elements of kind %d of %d elements, at most %d", v.Len(), v.Kind(), n, limit), at, err, api.ErrDomain)
				}
				if m == 1 || m == n {
					continue
				}
				for _, v := range []vec.Vec{smalls(slices.Repeat([]int8{100}, m)...), ints(slices.Repeat([]int64{-top}, m)...), bits(make([]int, m)...), floats()} {
					if v.Len() == n {
						continue
					}
					at, err := pick.Copies(v, n, limit)
					failed(t, fmt.Sprintf("Copies of %d elements of kind %d of %d elements, at most %d", v.Len(), v.Kind(), n, limit), at, err, api.ErrLength)
				}
			}
		}
	}
}

// Beyond what is promised, Copies still ends, and tells no more than it may.
func TestCopiesOfWrongInputs(t *testing.T) {
	for _, x := range []int64{0, 1, -1, 7, top, -top} {
		for _, n := range []int{-1, -2, math.MinInt, most + 1, 1 << 31, 1 << 62, math.MaxInt} {
			for _, limit := range []int{0, 5, most} {
				at, err := pick.Copies(ints(x), n, limit)
				failed(t, fmt.Sprintf("Copies of %d of %d elements, at most %d", x, n, limit), at, err, api.ErrLength)
			}
		}
		for _, limit := range []int{-1, -2, -top, math.MinInt, math.MinInt + 1} {
			for _, l := range [][]int64{{}, {x}, {x, x}} {
				at, err := pick.Copies(ints(l...), len(l), limit)
				failed(t, fmt.Sprintf("Copies of %v, at most %d", l, limit), at, err, api.ErrLimit)
			}
		}
	}
	for _, limit := range []int{most + 1, 1 << 32, math.MaxInt} {
		for _, l := range [][]int64{{most + 1}, {-most, 1}, {top, top}, {-top}} {
			at, err := pick.Copies(ints(l...), len(l), limit)
			failed(t, fmt.Sprintf("Copies of %v, at most %d", l, limit), at, err, api.ErrLimit)
		}
		at, err := pick.Copies(ints(2, -1), 2, limit)
		if err != api.OK {
			t.Errorf("Copies of 2 -1, at most %d, is error %d", limit, err)
		}
		placed(t, "Copies of 2 -1", at, []int{0, 0, -1})
	}
}

// P15.4: Rolled

// numbers lists integers about a few lengths, and the edges of all integers.
func numbers(n int) []int64 {
	l := []int64{
		math.MinInt64, math.MinInt64 + 1, math.MinInt64 + 2, math.MinInt64 + int64(n), -top - 1, -top, -1 << 32, -1<<32 + 1, math.MinInt32, -most - 1, -most, 1 - most, -1000003,
		1000003, most - 1, most, most + 1, math.MaxInt32, 1 << 32, 1<<32 + 1, top, top + 1, math.MaxInt64 - int64(n), math.MaxInt64 - int64(n) + 1, math.MaxInt64 - 2, math.MaxInt64 - 1, math.MaxInt64,
	}
	for _, m := range []int{1, 2, 3} {
		for d := -1; d <= 1; d++ {
			l = append(l, int64(m*n+d), int64(-m*n+d))
		}
	}
	for k := -5; k <= 5; k++ {
		l = append(l, int64(k))
	}
	return l
}

// rolled lists the places that Rolled must tell.
func rolled(n int, by int64) []int {
	length := big.NewInt(int64(max(n, 1)))
	return list(n, func(i int) int {
		sum := new(big.Int).Add(big.NewInt(int64(i)), big.NewInt(by))
		// The remainder of Euclid is 0 or above.
		return int(sum.Mod(sum, length).Int64())
	})
}

func TestRolled(t *testing.T) {
	for n := range 140 {
		for _, by := range numbers(n) {
			placed(t, fmt.Sprintf("Rolled(%d, %d)", n, by), pick.Rolled(n, by), rolled(n, by))
		}
		for by := int64(-2 * n); by <= int64(2*n); by++ {
			placed(t, fmt.Sprintf("Rolled(%d, %d)", n, by), pick.Rolled(n, by), rolled(n, by))
		}
	}
	for _, c := range []struct {
		n    int
		by   int64
		want []int
	}{
		{0, 5, nil}, {1, -9, []int{0}}, {3, 1, []int{1, 2, 0}}, {3, -1, []int{2, 0, 1}}, {4, 2, []int{2, 3, 0, 1}}, {3, 0, []int{0, 1, 2}}, {3, 7, []int{1, 2, 0}}, {3, -7, []int{2, 0, 1}},
		{10, math.MaxInt64, []int{7, 8, 9, 0, 1, 2, 3, 4, 5, 6}}, {10, math.MinInt64, []int{2, 3, 4, 5, 6, 7, 8, 9, 0, 1}},
	} {
		placed(t, fmt.Sprintf("Rolled(%d, %d)", c.n, c.by), pick.Rolled(c.n, c.by), c.want)
	}
}

func TestRolledOfMany(t *testing.T) {
	for _, n := range []int{most - 1, most, 1000003} {
		for _, by := range []int64{0, 1, -1, int64(n) - 1, 12345, -54321, math.MaxInt64, math.MinInt64, top + 1} {
			placed(t, fmt.Sprintf("Rolled(%d, %d)", n, by), pick.Rolled(n, by), rolled(n, by))
		}
	}
}

// What is rolled there and back is as it was.
func TestRolledThereAndBack(t *testing.T) {
	for n := range 70 {
		for _, by := range numbers(n) {
			if by == math.MinInt64 {
				continue
			}
			there, back := pick.Rolled(n, by), pick.Rolled(n, -by)
			for i := range n {
				if there[back[i]] != i || back[there[i]] != i {
					t.Errorf("Rolled(%d, %d) there and back has %d at %d", n, by, there[back[i]], i)
				}
			}
		}
	}
}

// P15.4: Taken and Dropped

// taken lists the places that Taken must tell; -1 stands for any number below 0.
func taken(n int, many int64, limit int) ([]int, bool) {
	size := new(big.Int).Abs(big.NewInt(many))
	if size.Cmp(big.NewInt(int64(limit))) > 0 {
		return nil, false
	}
	all := slices.Concat(slices.Repeat([]int{-1}, int(size.Int64())), list(n, func(i int) int { return i }), slices.Repeat([]int{-1}, int(size.Int64())))
	if many < 0 {
		return all[n:][:-many], true
	}
	return all[many:][:many], true
}

// held checks what Taken tells.
func held(t *testing.T, n int, many int64, limit int) {
	t.Helper()
	what := fmt.Sprintf("Taken(%d, %d, %d)", n, many, limit)
	want, wantedOk := taken(n, many, limit)
	at, ok := pick.Taken(n, many, limit)
	if ok != wantedOk {
		t.Errorf("%s is %v", what, ok)
	}
	placed(t, what, list(len(at), func(i int) int { return max(at[i], -1) }), want)
}

func TestTaken(t *testing.T) {
	for _, n := range []int{0, 1, 2, 3, 4, 5, 63, 64, 65, 130} {
		for many := int64(-140); many <= 140; many++ {
			size := int(max(many, -many))
			for _, limit := range []int{0, 1, 9, size - 1, size, size + 1, n, most} {
				if limit >= 0 {
					held(t, n, many, limit)
				}
			}
		}
		for _, many := range numbers(n) {
			for _, limit := range []int{0, 1, n, 1000003, most - 1, most} {
				held(t, n, many, limit)
			}
		}
	}
}

func TestTakenOfThePageIsAsItSays(t *testing.T) {
	for _, c := range []struct {
		n     int
		many  int64
		limit int
		want  []int
		ok    bool
	}{
		{3, -5, 9, []int{-1, -1, 0, 1, 2}, true}, {3, 5, 9, []int{0, 1, 2, -1, -1}, true}, {3, 2, 2, []int{0, 1}, true}, {3, -2, 2, []int{1, 2}, true}, {3, 2, 1, nil, false}, {3, -2, 1, nil, false},
		{0, 2, 2, []int{-1, -1}, true}, {0, -2, 2, []int{-1, -1}, true}, {3, 0, 0, nil, true}, {0, 0, 0, nil, true}, {3, 1, 0, nil, false}, {3, -1, 0, nil, false}, {3, 3, 3, []int{0, 1, 2}, true},
		{3, -3, 3, []int{0, 1, 2}, true}, {3, math.MinInt64, most, nil, false}, {3, math.MaxInt64, most, nil, false}, {0, math.MinInt64, 0, nil, false},
	} {
		at, ok := pick.Taken(c.n, c.many, c.limit)
		what := fmt.Sprintf("Taken(%d, %d, %d)", c.n, c.many, c.limit)
		if ok != c.ok {
			t.Errorf("%s is %v", what, ok)
		}
		placed(t, what, list(len(at), func(i int) int { return max(at[i], -1) }), c.want)
	}
}

func TestTakenOfMany(t *testing.T) {
	for _, n := range []int{0, 1, most - 1, most} {
		for _, many := range []int64{most - 1, most, most + 1, 1 - most, -most, -most - 1, 5, -5} {
			for _, limit := range []int{4, 5, most - 1, most} {
				held(t, n, many, limit)
			}
		}
	}
}

// Beyond what is promised, Taken still ends, and tells no more than it may.
func TestTakenOfWrongInputs(t *testing.T) {
	for _, limit := range []int{-1, -2, -most, math.MinInt, math.MinInt + 1} {
		for _, many := range numbers(3) {
			if at, ok := pick.Taken(3, many, limit); ok || len(at) != 0 {
				t.Errorf("Taken(3, %d, %d) is %d places, %v", many, limit, len(at), ok)
			}
		}
	}
	for _, limit := range []int{most + 1, 1 << 32, math.MaxInt} {
		for _, many := range []int64{most + 1, -most - 1, 1 << 40, -1 << 40, math.MaxInt64, math.MinInt64} {
			if at, ok := pick.Taken(3, many, limit); ok || len(at) != 0 {
				t.Errorf("Taken(3, %d, %d) is %d places, %v", many, limit, len(at), ok)
			}
		}
		held(t, 3, -5, limit)
		held(t, 3, 5, limit)
	}
	for _, n := range []int{-1, -3, -most, math.MinInt, math.MinInt + 1} {
		for _, many := range []int64{-3, -1, 0, 1, 3} {
			at, ok := pick.Taken(n, many, 9)
			if !ok || int64(len(at)) != max(many, -many) || slices.ContainsFunc(at, func(place int) bool { return place >= 0 }) {
				t.Errorf("Taken(%d, %d, 9) is %v, %v", n, many, at, ok)
			}
		}
	}
}

// dropped lists the places that Dropped must tell.
func dropped(n int, many int64) []int {
	var at []int
	for i := range n {
		ahead, behind := int64(i), int64(n-1-i)
		if many >= 0 && ahead >= many || many < 0 && -behind <= many {
			at = append(at, i)
		}
	}
	return at
}

func TestDropped(t *testing.T) {
	for n := range 140 {
		for _, many := range numbers(n) {
			placed(t, fmt.Sprintf("Dropped(%d, %d)", n, many), pick.Dropped(n, many), dropped(n, many))
		}
		for many := int64(-150); many <= 150; many++ {
			placed(t, fmt.Sprintf("Dropped(%d, %d)", n, many), pick.Dropped(n, many), dropped(n, many))
		}
	}
	for _, c := range []struct {
		n    int
		many int64
		want []int
	}{
		{4, -1, []int{0, 1, 2}}, {4, 1, []int{1, 2, 3}}, {2, 9, nil}, {2, -9, nil}, {2, 2, nil}, {2, -2, nil}, {2, 0, []int{0, 1}}, {2, 1, []int{1}}, {2, -1, []int{0}},
		{0, 0, nil}, {0, 1, nil}, {0, -1, nil}, {3, math.MinInt64, nil}, {3, math.MaxInt64, nil},
	} {
		placed(t, fmt.Sprintf("Dropped(%d, %d)", c.n, c.many), pick.Dropped(c.n, c.many), c.want)
	}
}

func TestDroppedOfMany(t *testing.T) {
	for _, n := range []int{most - 1, most} {
		for _, many := range []int64{0, 1, -1, 7, -7, most - 1, most, most + 1, 1 - most, -most, -most - 1, 1 << 32, -1 << 32, math.MaxInt64, math.MinInt64} {
			placed(t, fmt.Sprintf("Dropped(%d, %d)", n, many), pick.Dropped(n, many), dropped(n, many))
		}
	}
}

// There are no places of so many elements, or of so few.
func TestPlacesOfWrongLengths(t *testing.T) {
	for _, n := range []int{-1, -2, -most, math.MinInt, math.MinInt + 1, most + 1, 1 << 31, 1 << 32, 1 << 62, math.MaxInt} {
		for _, many := range numbers(3) {
			placed(t, fmt.Sprintf("Rolled(%d, %d)", n, many), pick.Rolled(n, many), nil)
			placed(t, fmt.Sprintf("Dropped(%d, %d)", n, many), pick.Dropped(n, many), nil)
		}
	}
}

// P15.5

// together checks that what is taken and what is dropped are all places, each once.
func together(t *testing.T, n int, many int64) {
	t.Helper()
	at, ok := pick.Taken(n, many, n)
	if !ok {
		t.Errorf("Taken(%d, %d, %d) is false", n, many, n)
	}
	rest := pick.Dropped(n, many)
	seen := make([]int, n)
	for _, place := range slices.Concat(at, rest) {
		if place < 0 || place >= n {
			t.Errorf("Taken and Dropped of %d of %d elements tell of %d", many, n, place)
			return
		}
		seen[place]++
	}
	if i := slices.IndexFunc(seen, func(times int) bool { return times != 1 }); i >= 0 {
		t.Errorf("Taken and Dropped of %d of %d elements tell %d times of %d", many, n, seen[i], i)
	}
	// All that is taken is ahead of all that is left, or, from the end, behind it.
	want := slices.Concat(at, rest)
	if many < 0 {
		want = slices.Concat(rest, at)
	}
	placed(t, fmt.Sprintf("Taken and Dropped of %d of %d elements", many, n), want, list(n, func(i int) int { return i }))
}

func TestTakenAndDropped(t *testing.T) {
	for n := range 200 {
		for many := int64(-n); many <= int64(n); many++ {
			together(t, n, many)
		}
	}
	for _, n := range []int{most - 1, most} {
		for _, many := range []int64{0, 1, 2, most / 2, most - 2, most - 1} {
			together(t, n, many)
			together(t, n, -many)
		}
		together(t, n, int64(n))
		together(t, n, -int64(n))
	}
}

// Taking and dropping, each place at a time, tells all elements of a vector.
func TestAlongOfTakenAndDropped(t *testing.T) {
	for _, s := range samples() {
		v := s.of(2 * 9 * 3)
		for many := int64(0); many <= 9; many++ {
			at, _ := pick.Taken(9, many, 9)
			rest := pick.Dropped(9, many)
			wanted(t, fmt.Sprintf("%d taken of %s, with the rest", many, s.name), pick.Along(v, 2, 9, 3, slices.Concat(at, rest)), v.Class(), told(v))
		}
	}
}

// All answers are new memory.
func TestAnswersShareNothing(t *testing.T) {
	mask, counts := bits(1, 0, 1, 1), smalls(2, -1, 0, 1)
	for name, answer := range map[string]func() []int{
		"Where":         func() []int { at, _ := pick.Where(mask); return at },
		"Where small":   func() []int { at, _ := pick.Where(smalls(0, 1, 1)); return at },
		"Expand":        func() []int { at, _ := pick.Expand(mask, 3); return at },
		"Expand of one": func() []int { at, _ := pick.Expand(mask, 1); return at },
		"Copies":        func() []int { at, _ := pick.Copies(counts, 4, 9); return at },
		"Copies of one": func() []int { at, _ := pick.Copies(smalls(2), 4, 9); return at },
		"Rolled":        func() []int { return pick.Rolled(5, 2) },
		"Taken":         func() []int { at, _ := pick.Taken(3, -5, 9); return at },
		"Dropped":       func() []int { return pick.Dropped(5, 2) },
	} {
		first := answer()
		want := slices.Clone(first)
		room := first[:cap(first)]
		for i := range room {
			room[i] = 99
		}
		placed(t, name+" after an answer was changed", answer(), want)
	}
	if !slices.Equal(mask.Nums(), []float64{1, 0, 1, 1}) || !slices.Equal(counts.Nums(), []float64{2, -1, 0, 1}) {
		t.Errorf("the arguments are %v and %v", mask.Nums(), counts.Nums())
	}
}
