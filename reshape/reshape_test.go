package reshape_test

import (
	"fmt"
	"math"
	"math/big"
	"slices"
	"strconv"
	"testing"

	"rebus/api"
	"rebus/bitvec"
	"rebus/flat"
	"rebus/reshape"
	"rebus/squeeze"
	"rebus/value"
	"rebus/vec"
)

// most is the greatest number of elements, and top the greatest whole number.
const (
	most = 1 << 20
	top  = 1 << 53
)

// numeric lists the kinds of numbers, the least one first.
var numeric = []int{api.Bit, api.Small, api.Int, api.Float}

// great lists whole numbers that are no length of any array, some of which come to a
// small one, if all but their last 32 bits is lost, or if they are multiplied.
var great = []int64{most + 1, 1<<31 - 1, 1 << 31, 1<<32 - 1, 1 << 32, 1<<32 + 1, 1<<32 + 2, 1 << 40, 1<<52 + 1, top - 1, top}

// How vectors and arrays of each kind are made.

func flags(l ...int) vec.Vec {
	return vec.Bits(bitvec.Pack(list(len(l), func(i int) bool { return l[i] == 1 })))
}

func smalls(l ...int8) vec.Vec { return vec.Smalls(l) }

func ints(l ...int64) vec.Vec {
	v, ok := vec.Ints(l)
	if !ok {
		panic("no integers of at most 2^53")
	}
	return v
}

func floats(l ...float64) vec.Vec {
	v, ok := vec.Floats(l)
	if !ok {
		panic("no numbers")
	}
	return v
}

func text(s string) vec.Vec { return vec.Chars([]rune(s)) }

func boxes(l ...vec.Array) vec.Vec { return vec.Boxes(l) }

func array(v vec.Vec, s ...int) vec.Array { return vec.Array{Shape: s, V: v} }

// made makes a vector of a kind that numbers fit.
func made(l []float64, kind int) vec.Vec {
	switch kind {
	case api.Bit:
		return vec.Bits(bitvec.Pack(list(len(l), func(i int) bool { return l[i] == 1 })))
	case api.Small:
		return vec.Smalls(list(len(l), func(i int) int8 { return int8(l[i]) }))
	case api.Int:
		return ints(list(len(l), func(i int) int64 { return int64(l[i]) })...)
	}
	return floats(l...)
}

// least tells the least kind that numbers fit.
func least(l []float64) int {
	kind := api.Bit
	for _, x := range l {
		switch {
		case x != math.Trunc(x) || math.Abs(x) > top:
			return api.Float
		case x < -128 || x > 127:
			kind = max(kind, api.Int)
		case x != 0 && x != 1:
			kind = max(kind, api.Small)
		}
	}
	return kind
}

// kindsOf makes vectors of numbers in all kinds that they fit, the least one first.
func kindsOf(l []float64) []vec.Vec {
	var z []vec.Vec
	for _, kind := range numeric {
		if kind >= least(l) {
			z = append(z, made(l, kind))
		}
	}
	return z
}

// counts makes a list of integers, in their least kind.
func counts(l ...int64) vec.Array {
	return array(kindsOf(list(len(l), func(i int) float64 { return float64(l[i]) }))[0], len(l))
}

// lengths makes a list of a shape's lengths.
func lengths(s []int) vec.Array {
	return counts(list(len(s), func(i int) int64 { return int64(s[i]) })...)
}

// list makes n elements by a rule.
func list[T any](n int, rule func(i int) T) []T {
	l := make([]T, n)
	for i := range l {
		l[i] = rule(i)
	}
	return l
}

// steps lists n of the elements of a list, the same ones each time.
func steps[T any](l []T, n, seed int) []T {
	x := uint32(seed)*2654435761 + 1
	return list(n, func(int) T {
		x = x*1664525 + 1013904223
		return l[int(x>>8)%len(l)]
	})
}

// few is the beginning of a list, as much of it as one can read.
func few[T any](l []T) []T { return l[:min(len(l), 40)] }

// element is what an element is, so that elements of all classes can be held against
// each other: a number to its last bit, a character, or what is told of the array in a
// box.
type element struct {
	class int
	plain uint64
	box   string
}

// tell tells what element i of a vector is.
func tell(v vec.Vec, i int) element {
	switch v.Class() {
	case api.Letter:
		return element{class: api.Letter, plain: uint64(uint32(v.Char(i)))}
	case api.Nested:
		return ofBox(v.Box(i))
	}
	return element{class: api.Number, plain: math.Float64bits(v.Num(i))}
}

func ofBox(a vec.Array) element {
	what := strconv.AppendInt(nil, int64(a.V.Kind()), 10)
	for _, n := range a.Shape {
		what = strconv.AppendInt(append(what, ','), int64(n), 10)
	}
	for _, e := range told(a.V) {
		what = strconv.AppendUint(append(what, ' '), e.plain, 16)
		what = append(append(what, ' '), e.box...)
	}
	return element{class: api.Nested, box: "(" + string(what) + ")"}
}

// told lists what all elements of a vector are.
func told(v vec.Vec) []element {
	return list(v.Len(), func(i int) element { return tell(v, i) })
}

// fill tells what the fill element of a class is.
func fill(class int) element {
	switch class {
	case api.Letter:
		return element{class: api.Letter, plain: 0x20}
	case api.Nested:
		return element{class: api.Nested, box: "(1,0)"}
	}
	return element{class: api.Number}
}

// wanted checks that an array is good and has a shape, a class and these elements, in the
// least kind.
func wanted(t *testing.T, what string, a vec.Array, s []int, class int, want []element) bool {
	t.Helper()
	if !slices.Equal(a.Shape, s) || a.V.Class() != class || a.V.Len() != len(want) {
		t.Errorf("%s has the shape %v and %d elements of class %d, not %v and %d of class %d", what, few(a.Shape), a.V.Len(), a.V.Class(), few(s), len(want), class)
		return false
	}
	for i, e := range want {
		if got := tell(a.V, i); got != e {
			t.Errorf("%s: element %d is %v, not %v", what, i, got, e)
			return false
		}
	}
	kind := []int{least(a.V.Nums()), api.Char, api.Box}[class]
	if a.V.Kind() != kind || !squeeze.Tight(a.V) || !value.Good(a) {
		t.Errorf("%s has the kind %d, not %d, or is not good", what, a.V.Kind(), kind)
		return false
	}
	return true
}

// numbered checks that an array is good, and has a shape and these numbers, in the least
// kind.
func numbered(t *testing.T, what string, a vec.Array, s []int, want ...float64) bool {
	t.Helper()
	return wanted(t, what, a, s, api.Number, told(made(want, api.Float)))
}

// failed checks that there is an error, with nothing beside it.
func failed(t *testing.T, what string, a vec.Array, err, want api.Errno) bool {
	t.Helper()
	if err != want || len(a.Shape) != 0 || a.V.Kind() != 0 || a.V.Len() != 0 {
		t.Errorf("%s is error %d with the shape %v and %d elements, not error %d alone", what, err, few(a.Shape), a.V.Len(), want)
		return false
	}
	return true
}

// An answer is what must come of an array: a shape, and what its elements are, or an
// error.
type answer struct {
	shape    []int
	elements []element
	err      api.Errno
}

// answered checks that a call has the answer that it must have, of the class of the array
// that it was given.
func answered(t *testing.T, what string, z vec.Array, err api.Errno, a vec.Array, want answer) bool {
	t.Helper()
	if want.err != api.OK {
		return failed(t, what, z, err, want.err)
	}
	if err != api.OK {
		t.Errorf("%s is error %d", what, err)
		return false
	}
	return wanted(t, what, z, want.shape, a.V.Class(), want.elements)
}

// shapes lists shapes of no axes, of one, of some and of 8, with lengths 0 and 1 anywhere
// among them.
func shapes() [][]int {
	z := [][]int{
		{}, {0}, {1}, {2}, {3}, {5}, {66}, {0, 0}, {0, 1}, {1, 0}, {1, 1}, {0, 3}, {3, 0}, {1, 4}, {4, 1}, {2, 3}, {3, 2}, {2, 2}, {9, 8},
		{0, 2, 3}, {2, 0, 3}, {2, 3, 0}, {0, 0, 2}, {1, 2, 3}, {2, 1, 3}, {2, 3, 1}, {1, 1, 1}, {1, 1, 3}, {3, 1, 1}, {2, 3, 4}, {4, 3, 2}, {2, 3, 2, 2}, {1, 3, 1, 2, 2}, {2, 1, 2, 3, 1, 2},
		{2, 1, 2, 1, 2, 1, 2}, {1, 1, 1, 1, 1, 1, 1, 1}, {2, 1, 2, 1, 2, 1, 2, 1}, {1, 2, 1, 2, 1, 1, 2, 3}, {2, 2, 2, 2, 2, 2, 2, 2}, {0, 0, 0, 0, 0, 0, 0, 0}, {3, 1, 1, 1, 1, 1, 1, 2},
	}
	for axis := range 8 {
		for _, n := range []int{0, 1, 3} {
			s := slices.Repeat([]int{2}, 8)
			s[axis] = n
			z = append(z, s)
		}
	}
	return z
}

// cells tells how many elements an array of a shape has.
func cells(s []int) int {
	z := 1
	for _, n := range s {
		z *= n
	}
	return z
}

// A stock is what arrays are filled with: no two elements of one that follow each other
// are alike, so that it shows where each of them went.
type stock struct {
	name string
	of   func(n int) vec.Vec
}

// stocks lists one of each kind.
func stocks() []stock {
	inside := []vec.Array{
		array(flags(1)), array(text("hi"), 2), array(flags(), 0), array(text(""), 0), array(floats(0.5, -1), 1, 2), array(boxes(array(text("x"))), 1), array(boxes(), 0), array(ints(300), 1),
	}
	numbers := []float64{0.5, 1, -top, 300, 1e300, -2, 0, 0.1, top}
	return []stock{
		{"bits", func(n int) vec.Vec { return flags(list(n, func(i int) int { return i * i % 5 & 1 })...) }},
		{"smalls", func(n int) vec.Vec { return squeezed(list(n, func(i int) float64 { return float64(i%255) - 127 })) }},
		{"ints", func(n int) vec.Vec {
			return squeezed(list(n, func(i int) float64 { return float64(i*i + 1000 - 3*i) }))
		}},
		{"floats", func(n int) vec.Vec { return squeezed(list(n, func(i int) float64 { return numbers[i%len(numbers)] })) }},
		{"mixed", func(n int) vec.Vec {
			return squeezed(list(n, func(i int) float64 { return []float64{1, 0, 5, 1, 0, 300}[i%6] }))
		}},
		{"characters", func(n int) vec.Vec { return vec.Chars(list(n, func(i int) rune { return rune('a' + i%50) })) }},
		{"runes", func(n int) vec.Vec {
			return vec.Chars(list(n, func(i int) rune { return []rune{-1, 0, 0x2374, math.MaxInt32, math.MinInt32, ' '}[i%6] }))
		}},
		{"boxes", func(n int) vec.Vec { return boxes(list(n, func(i int) vec.Array { return inside[i%len(inside)] })...) }},
	}
}

// squeezed makes a vector of numbers in their least kind.
func squeezed(l []float64) vec.Vec { return made(l, least(l)) }

// A sample is an array, with a name.
type sample struct {
	name string
	a    vec.Array
}

// samples lists arrays of all shapes and kinds.
func samples() []sample {
	var z []sample
	for _, s := range shapes() {
		for _, k := range stocks() {
			z = append(z, sample{fmt.Sprintf("%s of the shape %v", k.name, s), array(k.of(cells(s)), slices.Clone(s)...)})
		}
	}
	for _, s := range z {
		if !value.Good(s.a) {
			panic(s.name + " are not good")
		}
	}
	return z
}

// wide lists arrays that are not in their least kind, beside the same ones that are.
func wide() [][2]vec.Array {
	var z [][2]vec.Array
	for _, s := range [][]int{{}, {0}, {1}, {4}, {2, 3}, {3, 0}, {2, 1, 2}, {1, 1, 1, 1, 2, 1, 1, 1}} {
		for _, l := range [][]float64{{1, 0}, {0}, {7, -128, 127}, {1, 300, -top, top}} {
			v := kindsOf(list(cells(s), func(i int) float64 { return l[i%len(l)] }))
			for _, w := range v[1:] {
				z = append(z, [2]vec.Array{array(w, s...), array(v[0], s...)})
			}
		}
	}
	return z
}

// P20.1: Shape, Tally, Ravel and Table

func TestShape(t *testing.T) {
	for _, s := range samples() {
		want := list(len(s.a.Shape), func(i int) float64 { return float64(s.a.Shape[i]) })
		numbered(t, "Shape of "+s.name, reshape.Shape(s.a), []int{len(want)}, want...)
	}
	for _, c := range []struct {
		shape []int
		kind  int
	}{
		{nil, api.Bit}, {[]int{1}, api.Bit}, {[]int{0, 1}, api.Bit}, {[]int{2}, api.Small}, {[]int{127, 0}, api.Small}, {[]int{128, 0}, api.Int}, {[]int{0, most}, api.Int}, {[]int{most}, api.Int},
	} {
		a := array(flags(make([]int, cells(c.shape))...), c.shape...)
		if z := reshape.Shape(a); z.V.Kind() != c.kind {
			t.Errorf("Shape of an array of the shape %v has the kind %d, not %d", c.shape, z.V.Kind(), c.kind)
		}
	}
}

// first tells the first length of a shape, or 1.
func first(s []int) int { return append(slices.Clone(s), 1)[0] }

func TestTally(t *testing.T) {
	for _, s := range samples() {
		want := float64(first(s.a.Shape))
		numbered(t, "Tally of "+s.name, reshape.Tally(s.a), nil, want)
	}
	for _, n := range []int{0, 1, 2, 127, 128, 65536, most - 1, most} {
		for _, v := range []vec.Vec{flags(make([]int, n)...), vec.Chars(make([]rune, n))} {
			numbered(t, fmt.Sprintf("Tally of %d elements", n), reshape.Tally(array(v, n)), nil, float64(n))
			numbered(t, fmt.Sprintf("Tally of %d rows", n), reshape.Tally(array(v, n, 1)), nil, float64(n))
			numbered(t, fmt.Sprintf("Tally of a row of %d elements", n), reshape.Tally(array(v, 1, n)), nil, 1)
			numbered(t, fmt.Sprintf("Tally of %d rows of none", n), reshape.Tally(array(vec.None(v.Class()), n, 0)), nil, float64(n))
		}
	}
}

func TestRavel(t *testing.T) {
	for _, s := range samples() {
		wanted(t, "Ravel of "+s.name, reshape.Ravel(s.a), []int{s.a.V.Len()}, s.a.V.Class(), told(s.a.V))
	}
}

func TestTable(t *testing.T) {
	for _, s := range samples() {
		rest := cells(s.a.Shape[min(1, len(s.a.Shape)):])
		wanted(t, "Table of "+s.name, reshape.Table(s.a), []int{first(s.a.Shape), rest}, s.a.V.Class(), told(s.a.V))
	}
	for _, c := range []struct{ shape, want []int }{
		{nil, []int{1, 1}}, {[]int{0}, []int{0, 1}}, {[]int{5}, []int{5, 1}}, {[]int{1}, []int{1, 1}}, {[]int{2, 3}, []int{2, 3}}, {[]int{2, 3, 4}, []int{2, 12}}, {[]int{0, 3, 4}, []int{0, 12}},
		{[]int{3, 0, 4}, []int{3, 0}}, {[]int{3, 4, 0}, []int{3, 0}}, {[]int{0, 0, 4}, []int{0, 0}}, {[]int{1, 2, 1, 2, 1, 2, 1, 3}, []int{1, 24}}, {[]int{0, 1024, 1024}, []int{0, most}}, {[]int{0, most}, []int{0, most}},
		{[]int{most, 0}, []int{most, 0}}, {[]int{1024, 0, 1024}, []int{1024, 0}}, {[]int{0, 4, 4, 4, 4, 4, 4, 256}, []int{0, most}}, {[]int{1024, 32, 32}, []int{1024, 1024}}, {[]int{1, 1024, 1024}, []int{1, most}}, {[]int{most}, []int{most, 1}},
	} {
		v := vec.Chars(list(cells(c.shape), func(i int) rune { return rune(i) }))
		wanted(t, fmt.Sprintf("Table of an array of the shape %v", c.shape), reshape.Table(array(v, c.shape...)), c.want, api.Letter, told(v))
	}
}

// What comes of an array doesn't hang on the kind that its numbers are kept in.
func TestArraysOfOtherKinds(t *testing.T) {
	for _, both := range wide() {
		a, same := both[0], both[1]
		what := fmt.Sprintf("numbers of kind %d for %d, of the shape %v", a.V.Kind(), same.V.Kind(), a.Shape)
		wanted(t, "Shape of "+what, reshape.Shape(a), []int{len(a.Shape)}, api.Number, told(reshape.Shape(same).V))
		wanted(t, "Ravel of "+what, reshape.Ravel(a), []int{a.V.Len()}, api.Number, told(same.V))
		wanted(t, "Table of "+what, reshape.Table(a), reshape.Table(same).Shape, api.Number, told(same.V))
		for _, by := range [][]int64{nil, {2}, {-2}, {0}, {1}, {3, 1}, {-1, 2}} {
			how := fmt.Sprintf("%v of %s", by, what)
			heldReshape(t, how, counts(list(len(by), func(i int) int64 { return max(by[i], 0) })...), a, most)
			heldTake(t, how, counts(by...), a, most)
			heldDrop(t, how, counts(by...), a, most)
		}
	}
}

// P20.2: Reshape

// whole lists the integers that an array is read as, or tells the error of it.
func whole(a vec.Array) ([]int64, api.Errno) {
	if len(a.Shape) > 1 {
		return nil, api.ErrRank
	}
	if a.V.Kind() > api.Float {
		return nil, api.ErrDomain
	}
	z := []int64{}
	for _, x := range a.V.Nums() {
		if x != math.Trunc(x) || math.Abs(x) > top {
			return nil, api.ErrDomain
		}
		z = append(z, int64(x))
	}
	return z, api.OK
}

// product tells the error that there is of a shape, or its lengths.
func product(s []int64, limit int) ([]int, api.Errno) {
	if len(s) > 8 {
		return nil, api.ErrLimit
	}
	if slices.ContainsFunc(s, func(n int64) bool { return n < 0 }) {
		return nil, api.ErrDomain
	}
	full := big.NewInt(1)
	for _, n := range s {
		full.Mul(full, big.NewInt(max(n, 1)))
	}
	if full.Cmp(big.NewInt(most)) > 0 || !slices.Contains(s, 0) && full.Cmp(big.NewInt(int64(limit))) > 0 || limit < 0 {
		return nil, api.ErrLimit
	}
	return list(len(s), func(i int) int { return int(s[i]) }), api.OK
}

// reshaped tells what Reshape must tell.
func reshaped(s, a vec.Array, limit int) answer {
	l, err := whole(s)
	if err != api.OK {
		return answer{err: err}
	}
	z, err := product(l, limit)
	if err != api.OK {
		return answer{err: err}
	}
	from := told(a.V)
	if len(from) == 0 {
		from = []element{fill(a.V.Class())}
	}
	return answer{shape: z, elements: list(cells(z), func(i int) element { return from[i%len(from)] })}
}

func heldReshape(t *testing.T, what string, s, a vec.Array, limit int) bool {
	t.Helper()
	z, err := reshape.Reshape(s, a, limit)
	return answered(t, "Reshape to "+what, z, err, a, reshaped(s, a, limit))
}

func TestReshape(t *testing.T) {
	for i, a := range samples() {
		for k, s := range shapes() {
			// Of arrays and shapes, some of each with some of the others.
			if (i+k)%5 == 0 || len(s) < 3 && len(a.a.Shape) < 3 {
				heldReshape(t, fmt.Sprintf("%v of %s", s, a.name), lengths(s), a.a, most)
			}
		}
	}
}

// limits lists bounds around a number of elements.
func limits(n int) []int {
	return slices.DeleteFunc([]int{0, 1, n - 1, n, n + 1, most - 1, most}, func(limit int) bool { return limit < 0 || limit > most })
}

func TestReshapeWithinALimit(t *testing.T) {
	for _, k := range stocks() {
		for _, s := range slices.Concat(shapes(), [][]int{{99}, {10, 10}, {100}, {1024, 0, 1024}, {0, most}, {4, 25}}) {
			for _, limit := range limits(cells(s)) {
				for _, n := range []int{0, 1, 7} {
					what := fmt.Sprintf("%v of %d %s, with at most %d", s, n, k.name, limit)
					heldReshape(t, what, lengths(s), array(k.of(n), n), limit)
				}
			}
		}
	}
}

func TestReshapeToManyElements(t *testing.T) {
	for _, k := range stocks() {
		if k.name == "boxes" {
			continue
		}
		for _, s := range [][]int{{most}, {most - 1}, {1024, 1024}, {1, most}, {most, 1}, {2, 1 << 19}, {4, 4, 4, 4, 4, 4, 4, 64}, {1023, 1025}} {
			for _, n := range []int{0, 1, 7} {
				heldReshape(t, fmt.Sprintf("%v of %d %s", s, n, k.name), lengths(s), array(k.of(n), n), most)
			}
		}
		heldReshape(t, "3 of very many "+k.name, counts(3), array(k.of(most), 1024, 1024), most)
		heldReshape(t, "as many as there are of "+k.name, counts(512, 2048), array(k.of(most), most), most)
	}
	heldReshape(t, "very many of a box", counts(2, most/2), array(boxes(array(text("x"))), 1), most)
	heldReshape(t, "very many of no boxes", counts(most), array(boxes(), 0), most)
}

// A shape is read in every kind that its numbers fit, and without axes as one length.
func TestReshapeReadsItsShape(t *testing.T) {
	a := array(smalls(1, 2, 3, 4, 5), 5)
	for _, l := range [][]float64{{}, {0}, {1}, {1, 0}, {0, 1, 1}, {5}, {2, 3}, {100, 1, 2}, {300}, {1, 300, 2}, {most}, {most + 1}, {-1}, {-128}, {-129, 2}, {top}, {-top}, {1, 1, 1, 1, 1, 1, 1, 1}, {1, 1, 1, 1, 1, 1, 1, 1, 1}} {
		for _, v := range kindsOf(l) {
			what := fmt.Sprintf("%v of kind %d", l, v.Kind())
			heldReshape(t, what, array(v, len(l)), a, most)
			if len(l) == 1 {
				heldReshape(t, what+" without axes", array(v), a, most)
			}
		}
	}
	z, err := reshape.Reshape(array(smalls(3)), a, 9)
	if err != api.OK || !numbered(t, "Reshape to 3 without axes", z, []int{3}, 1, 2, 3) {
		t.Errorf("Reshape to 3 without axes is error %d", err)
	}
	z, err = reshape.Reshape(array(flags(), 0), a, 1)
	if err != api.OK || !numbered(t, "Reshape to no axes", z, nil, 1) {
		t.Errorf("Reshape to no axes is error %d", err)
	}
}

// unread lists arrays that are no list of integers, beside the error of each.
func unread() []struct {
	name string
	a    vec.Array
	err  api.Errno
} {
	return []struct {
		name string
		a    vec.Array
		err  api.Errno
	}{
		{"a table", array(smalls(2, 3), 1, 2), api.ErrRank}, {"a table of one number", array(flags(1), 1, 1), api.ErrRank}, {"an empty table", array(flags(), 0, 0), api.ErrRank},
		{"an empty table of one row", array(flags(), 1, 0), api.ErrRank}, {"three axes", array(flags(1, 0), 1, 2, 1), api.ErrRank}, {"eight axes", array(flags(1), 1, 1, 1, 1, 1, 1, 1, 1), api.ErrRank},
		{"a table of characters", array(text("xy"), 2, 1), api.ErrRank}, {"an empty table of characters", array(text(""), 0, 1), api.ErrRank}, {"a table of boxes", array(boxes(array(flags(1))), 1, 1), api.ErrRank},
		{"an empty table of boxes", array(boxes(), 0, 3), api.ErrRank}, {"a table of halves", array(floats(0.5, 1), 1, 2), api.ErrRank}, {"a table below 0", array(smalls(-1, -1), 2, 1), api.ErrRank},
		{"a half", array(floats(0.5)), api.ErrDomain}, {"a list of a half", array(floats(0.5), 1), api.ErrDomain}, {"a half behind integers", array(floats(1, 2, 0.5), 3), api.ErrDomain}, {"a half ahead of integers", array(floats(0.5, 1, 2), 3), api.ErrDomain},
		{"more than 2^53", array(floats(top+2), 1), api.ErrDomain}, {"less than -2^53", array(floats(-top-2), 1), api.ErrDomain}, {"2^53 and more", array(floats(top, top+2), 2), api.ErrDomain}, {"1e300", array(floats(1e300)), api.ErrDomain},
		{"next to 1", array(floats(math.Nextafter(1, 2)), 1), api.ErrDomain}, {"next to 0", array(floats(math.SmallestNonzeroFloat64), 1), api.ErrDomain}, {"a half and less than 0", array(floats(0.5, -1), 2), api.ErrDomain},
		{"nine halves", array(floats(slices.Repeat([]float64{0.5}, 9)...), 9), api.ErrDomain}, {"a character", array(text("x")), api.ErrDomain}, {"characters", array(text("12"), 2), api.ErrDomain}, {"no characters", array(text(""), 0), api.ErrDomain},
		{"nine characters", array(text("123456789"), 9), api.ErrDomain}, {"a box", array(boxes(array(smalls(2)))), api.ErrDomain}, {"boxes", array(boxes(array(smalls(2)), array(smalls(3))), 2), api.ErrDomain}, {"no boxes", array(boxes(), 0), api.ErrDomain},
		{"nine boxes", array(boxes(slices.Repeat([]vec.Array{array(flags(1))}, 9)...), 9), api.ErrDomain},
	}
}

func TestWhatIsNoListOfIntegers(t *testing.T) {
	for _, c := range unread() {
		for _, a := range []vec.Array{array(smalls(5)), array(smalls(5, 6), 2), array(text(""), 0), array(smalls(1, 2, 3, 4, 5, 6), 2, 3), array(boxes(array(text("x"))), 1, 1)} {
			for _, limit := range []int{0, 1, 99, most} {
				z, err := reshape.Reshape(c.a, a, limit)
				failed(t, "Reshape by "+c.name, z, err, c.err)
				z, err = reshape.Take(c.a, a, limit)
				failed(t, "Take by "+c.name, z, err, c.err)
				z, err = reshape.Drop(c.a, a, limit)
				failed(t, "Drop by "+c.name, z, err, c.err)
			}
		}
	}
}

func TestReshapeToWhatIsNoShape(t *testing.T) {
	ones := slices.Repeat([]int64{1}, 8)
	for _, c := range []struct {
		s     []int64
		limit int
		err   api.Errno
	}{
		{[]int64{-1}, most, api.ErrDomain}, {[]int64{-1}, 0, api.ErrDomain}, {[]int64{2, -1}, most, api.ErrDomain}, {[]int64{-1, 0}, most, api.ErrDomain}, {[]int64{0, -1}, most, api.ErrDomain}, {[]int64{-top}, most, api.ErrDomain},
		{[]int64{-1 << 32}, most, api.ErrDomain}, {[]int64{2 - 1<<32}, most, api.ErrDomain}, {[]int64{most, most, -1}, most, api.ErrDomain}, {[]int64{-1, most + 1}, most, api.ErrDomain}, {[]int64{-2, -3}, most, api.ErrDomain},
		{[]int64{most + 1}, most, api.ErrLimit}, {[]int64{top}, most, api.ErrLimit}, {[]int64{1 << 32}, most, api.ErrLimit}, {[]int64{1<<32 + 1}, most, api.ErrLimit}, {[]int64{0, top}, most, api.ErrLimit}, {[]int64{most + 1, 0}, most, api.ErrLimit},
		{[]int64{2048, 0, 1024}, most, api.ErrLimit}, {[]int64{1024, 1025}, most, api.ErrLimit}, {[]int64{1 << 32, 1 << 32}, most, api.ErrLimit}, {[]int64{top, top, top, top, top, top, top, top}, most, api.ErrLimit}, {[]int64{10, 10}, 99, api.ErrLimit},
		{nil, 0, api.ErrLimit}, {[]int64{1}, 0, api.ErrLimit}, {[]int64{6}, 5, api.ErrLimit}, {append(slices.Clone(ones), 1), most, api.ErrLimit}, {append(slices.Clone(ones), 0), most, api.ErrLimit}, {append(slices.Clone(ones), -1), most, api.ErrLimit},
		{[]int64{-1, -1, -1, -1, -1, -1, -1, -1, -1}, most, api.ErrLimit}, {slices.Repeat([]int64{0}, 9), most, api.ErrLimit}, {slices.Repeat([]int64{1}, 1000), most, api.ErrLimit}, {slices.Repeat([]int64{-5}, 70000), most, api.ErrLimit},
	} {
		for _, k := range stocks() {
			for _, a := range []vec.Array{array(k.of(1)), array(k.of(0), 0), array(k.of(6), 2, 3)} {
				z, err := reshape.Reshape(counts(c.s...), a, c.limit)
				what := fmt.Sprintf("%v of %s, with at most %d", few(c.s), k.name, c.limit)
				failed(t, "Reshape to "+what, z, err, c.err)
				heldReshape(t, what, counts(c.s...), a, c.limit)
			}
		}
	}
}

// P20.3 and P20.4: Take and Drop

// along tells which elements along one axis of n stay: so many places, of which those that
// are none of the axis are below 0. A place in the middle of very many is never asked for.
type along func(n int, many int64) (size *big.Int, place func(i int) int)

// takes is the along of Take.
func takes(n int, many int64) (*big.Int, func(i int) int) {
	size := new(big.Int).Abs(big.NewInt(many))
	return size, func(i int) int {
		place := int64(i)
		if many < 0 {
			place = int64(n) + many + int64(i)
		}
		if place < 0 || place >= int64(n) {
			return -1
		}
		return int(place)
	}
}

// drops is the along of Drop.
func drops(n int, many int64) (*big.Int, func(i int) int) {
	var stay []int
	for i := range n {
		if many >= 0 && int64(i) >= many || many < 0 && int64(n-i) > -many {
			stay = append(stay, i)
		}
	}
	return big.NewInt(int64(len(stay))), func(i int) int { return stay[i] }
}

// parted tells what Take or Drop must tell, element by element: the indices of each are
// counted up, and the element that it comes from is looked for along all axes.
func parted(by, a vec.Array, limit int, rule along) answer {
	l, err := whole(by)
	if err != api.OK {
		return answer{err: err}
	}
	from := a.Shape
	if len(from) == 0 {
		if len(l) > 8 {
			return answer{err: api.ErrLimit}
		}
		from = slices.Repeat([]int{1}, len(l))
	}
	if len(l) > len(from) {
		return answer{err: api.ErrLength}
	}
	sizes, places := make([]int64, len(from)), make([]func(i int) int, len(from))
	for axis, n := range from {
		sizes[axis], places[axis] = int64(n), func(i int) int { return i }
		if axis < len(l) {
			size, place := rule(n, l[axis])
			sizes[axis], places[axis] = size.Int64(), place
		}
	}
	z, err := product(sizes, limit)
	if err != api.OK {
		return answer{err: err}
	}
	all := told(a.V)
	return answer{shape: z, elements: list(cells(z), func(i int) element {
		at, stride := 0, 1
		for axis := len(z) - 1; axis >= 0; axis-- {
			place := places[axis](i % z[axis])
			if place < 0 {
				return fill(a.V.Class())
			}
			at += place * stride
			stride *= from[axis]
			i /= z[axis]
		}
		return all[at]
	})}
}

func heldTake(t *testing.T, what string, by, a vec.Array, limit int) bool {
	t.Helper()
	z, err := reshape.Take(by, a, limit)
	return answered(t, "Take "+what, z, err, a, parted(by, a, limit, takes))
}

func heldDrop(t *testing.T, what string, by, a vec.Array, limit int) bool {
	t.Helper()
	z, err := reshape.Drop(by, a, limit)
	return answered(t, "Drop "+what, z, err, a, parted(by, a, limit, drops))
}

// heldBoth checks what Take and Drop tell.
func heldBoth(t *testing.T, by []int64, s sample, limit int) bool {
	t.Helper()
	what := fmt.Sprintf("%v of %s, with at most %d", few(by), s.name, limit)
	return heldTake(t, what, counts(by...), s.a, limit) && heldDrop(t, what, counts(by...), s.a, limit)
}

// manies lists numbers of elements of n, in both directions: none, all of them, fewer and
// more.
func manies(n int) []int64 {
	z := []int64{0, 1, -1, 2, -2}
	for d := int64(-1); d <= 2; d++ {
		z = append(z, int64(n)+d, -int64(n)-d)
	}
	slices.Sort(z)
	return slices.Compact(z)
}

// Along one axis, all numbers there are.
func TestTakeAndDropAlongOneAxis(t *testing.T) {
	for _, k := range stocks() {
		for _, n := range []int{0, 1, 2, 3, 5, 63, 64, 65, 130} {
			s := sample{fmt.Sprintf("%d %s", n, k.name), array(k.of(n), n)}
			for many := int64(-n - 4); many <= int64(n+4); many++ {
				heldBoth(t, []int64{many}, s, most)
			}
			for _, many := range []int64{1000, -1000, 4097, -4097} {
				heldBoth(t, []int64{many}, s, most)
			}
		}
	}
}

// Along two axes, each number along the first one with each along the other.
func TestTakeAndDropOfTables(t *testing.T) {
	for _, k := range stocks() {
		for _, shape := range [][]int{{0, 0}, {0, 1}, {1, 0}, {1, 1}, {0, 3}, {3, 0}, {2, 3}, {3, 2}, {1, 4}, {4, 1}} {
			s := sample{fmt.Sprintf("%s of the shape %v", k.name, shape), array(k.of(cells(shape)), shape...)}
			heldBoth(t, nil, s, most)
			for _, rows := range manies(shape[0]) {
				heldBoth(t, []int64{rows}, s, most)
				for _, columns := range manies(shape[1]) {
					heldBoth(t, []int64{rows, columns}, s, most)
				}
			}
		}
	}
}

// Along some axes of many, and all of them: some numbers of each.
func TestTakeAndDropAlongAxes(t *testing.T) {
	for i, s := range samples() {
		rank := len(s.a.Shape)
		heldBoth(t, nil, s, most)
		for m := range rank + 1 {
			for seed := range 6 {
				by := list(m, func(axis int) int64 { return steps(manies(s.a.Shape[axis]), 9, 97*i+13*m+seed)[axis] })
				heldBoth(t, by, s, most)
			}
		}
		for axis := range rank {
			for _, many := range manies(s.a.Shape[axis]) {
				by := list(axis+1, func(k int) int64 { return int64(s.a.Shape[k]) })
				by[axis] = many
				heldTake(t, fmt.Sprintf("%v of %s", by, s.name), counts(by...), s.a, most)
				by = make([]int64, axis+1)
				by[axis] = many
				heldDrop(t, fmt.Sprintf("%v of %s", by, s.name), counts(by...), s.a, most)
			}
		}
	}
}

// An array without axes counts as one with as many as there are numbers.
func TestTakeAndDropWithoutAxes(t *testing.T) {
	for _, k := range stocks() {
		s := sample{k.name + " without axes", array(k.of(1))}
		for _, by := range [][]int64{
			nil, {0}, {1}, {-1}, {2}, {-2}, {5}, {-5}, {2, 2}, {-2, 2}, {2, -2}, {-2, -2}, {0, 1}, {1, 0}, {0, 0}, {1, 1}, {1, -1}, {3, 1, -2}, {1, 1, 1, 1, 1, 1, 1, 1}, {2, -2, 2, -2, 2, -2, 2, -2}, {0, 0, 0, 0, 0, 0, 0, 0}, {1, 1, 1, 1, 1, 1, 1, 0},
			{-1, 1, -1, 1, -1, 1, -1, 2}, {1, 1, 1, 1, 1, 1, 1, 1, 1}, {0, 0, 0, 0, 0, 0, 0, 0, 0}, {-1, 0, 1, -1, 0, 1, -1, 0, 1, 0}, {top, 0}, {-top, 1}, {top, top, top, top, top, top, top, top, top},
		} {
			for _, limit := range []int{0, 1, 3, 4, 6, 255, 256, most} {
				heldBoth(t, by, s, limit)
			}
		}
		z, err := reshape.Take(counts(2, 2), s.a, 4)
		e, none := tell(s.a.V, 0), fill(s.a.V.Class())
		answered(t, "Take 2 2 of "+s.name, z, err, s.a, answer{shape: []int{2, 2}, elements: []element{e, none, none, none}})
		z, err = reshape.Take(counts(-2, 2), s.a, 4)
		answered(t, "Take -2 2 of "+s.name, z, err, s.a, answer{shape: []int{2, 2}, elements: []element{none, none, e, none}})
		z, err = reshape.Drop(counts(0, 0, 0), s.a, 4)
		answered(t, "Drop 0 0 0 of "+s.name, z, err, s.a, answer{shape: []int{1, 1, 1}, elements: []element{e}})
		z, err = reshape.Drop(counts(0, -1), s.a, 4)
		answered(t, "Drop 0 -1 of "+s.name, z, err, s.a, answer{shape: []int{1, 0}})
	}
}

// Very great numbers are too much to take, and leave nothing to drop.
func TestTakeAndDropOfVeryGreatNumbers(t *testing.T) {
	for _, shape := range [][]int{{}, {0}, {1}, {5}, {2, 3}, {0, 3}, {3, 0}, {2, 1, 2}} {
		for _, k := range stocks() {
			s := sample{fmt.Sprintf("%s of the shape %v", k.name, shape), array(k.of(cells(shape)), shape...)}
			for _, size := range great {
				for _, many := range []int64{size, -size} {
					for axis := range max(len(shape), 1) {
						by := make([]int64, axis+1)
						by[axis] = many
						heldBoth(t, by, s, most)
						z, err := reshape.Take(counts(by...), s.a, most)
						failed(t, fmt.Sprintf("Take %v of %s", by, s.name), z, err, api.ErrLimit)
						if z, err := reshape.Drop(counts(by...), s.a, most); err != api.OK || z.V.Len() != 0 {
							t.Errorf("Drop %v of %s has %d elements, error %d", by, s.name, z.V.Len(), err)
						}
					}
				}
			}
		}
	}
}

// There is the fill element on either side of what is taken.
func TestFillElements(t *testing.T) {
	for _, c := range []struct {
		a    vec.Array
		fill vec.Vec
	}{
		{array(smalls(7, 8), 2), flags(0)}, {array(floats(0.5, 1e300), 2), flags(0)}, {array(flags(1, 1), 2), flags(0)}, {array(ints(300, -300), 2), flags(0)}, {array(text("xy"), 2), text(" ")}, {array(boxes(array(text("x")), array(flags(1))), 2), boxes(flat.Blank())},
	} {
		x, y, none := tell(c.a.V, 0), tell(c.a.V, 1), tell(c.fill, 0)
		for _, e := range []struct {
			by   []int64
			want []element
		}{
			{[]int64{4}, []element{x, y, none, none}}, {[]int64{-4}, []element{none, none, x, y}}, {[]int64{1}, []element{x}}, {[]int64{-1}, []element{y}}, {[]int64{3}, []element{x, y, none}}, {[]int64{-3}, []element{none, x, y}},
		} {
			z, err := reshape.Take(counts(e.by...), c.a, 9)
			answered(t, fmt.Sprintf("Take %v of %d elements of class %d", e.by, c.a.V.Len(), c.a.V.Class()), z, err, c.a, answer{shape: []int{len(e.want)}, elements: e.want})
		}
		nothing := array(vec.None(c.a.V.Class()), 0)
		for _, by := range []int64{2, -2} {
			z, err := reshape.Take(counts(by), nothing, 2)
			answered(t, fmt.Sprintf("Take %d of no elements of class %d", by, c.a.V.Class()), z, err, c.a, answer{shape: []int{2}, elements: []element{none, none}})
		}
		z, err := reshape.Reshape(counts(2, 1), nothing, 2)
		answered(t, fmt.Sprintf("Reshape of no elements of class %d", c.a.V.Class()), z, err, c.a, answer{shape: []int{2, 1}, elements: []element{none, none}})
		z, err = reshape.Drop(counts(5), c.a, 0)
		answered(t, fmt.Sprintf("Drop 5 of 2 elements of class %d", c.a.V.Class()), z, err, c.a, answer{shape: []int{0}})
		z, err = reshape.Take(counts(0), c.a, 0)
		answered(t, fmt.Sprintf("Take 0 of 2 elements of class %d", c.a.V.Class()), z, err, c.a, answer{shape: []int{0}})
	}
}

func TestTakeAndDropWithinALimit(t *testing.T) {
	for i, s := range samples() {
		for seed := range 4 {
			m := steps([]int{0, 1, len(s.a.Shape), len(s.a.Shape)}, 4, i)[seed]
			by := list(min(m, len(s.a.Shape)), func(axis int) int64 { return steps(manies(s.a.Shape[axis]), 9, 31*i+seed)[axis] })
			for _, rule := range []along{takes, drops} {
				want := parted(counts(by...), s.a, most, rule)
				for _, limit := range limits(len(want.elements)) {
					heldBoth(t, by, s, limit)
				}
			}
		}
	}
	for _, c := range []struct {
		by    []int64
		s     []int
		limit int
		take  api.Errno
		drop  api.Errno
	}{
		{[]int64{3}, []int{5}, 3, api.OK, api.OK}, {[]int64{3}, []int{5}, 2, api.ErrLimit, api.OK}, {[]int64{2}, []int{5}, 2, api.OK, api.ErrLimit}, {[]int64{-2, 3}, []int{4, 5}, 6, api.OK, api.OK}, {[]int64{-2, 3}, []int{4, 5}, 5, api.ErrLimit, api.OK},
		{[]int64{-1}, []int{3, 4}, 4, api.OK, api.ErrLimit}, {[]int64{-1}, []int{3, 4}, 3, api.ErrLimit, api.ErrLimit}, {nil, []int{3, 4}, 12, api.OK, api.OK}, {nil, []int{3, 4}, 11, api.ErrLimit, api.ErrLimit}, {nil, nil, 1, api.OK, api.OK}, {nil, nil, 0, api.ErrLimit, api.ErrLimit},
		{[]int64{7, 0}, []int{2, 3}, 0, api.OK, api.OK}, {[]int64{9}, []int{2, 0}, 0, api.OK, api.OK}, {[]int64{0}, []int{2, 3}, 0, api.OK, api.ErrLimit}, {[]int64{2}, []int{2, 3}, 0, api.ErrLimit, api.OK}, {[]int64{0, most}, []int{2, 3}, 0, api.OK, api.OK},
		{[]int64{0, most + 1}, []int{2, 3}, most, api.ErrLimit, api.OK}, {[]int64{0, 1024, 1024}, []int{2, 3, 1}, 0, api.OK, api.OK}, {[]int64{0, 1024, -1025}, []int{2, 3, 1}, most, api.ErrLimit, api.OK}, {[]int64{most, 0}, []int{2, 3}, 0, api.OK, api.OK},
		{[]int64{2}, []int{0, most}, most, api.ErrLimit, api.OK}, {[]int64{1}, []int{0, most}, most, api.OK, api.OK}, {[]int64{1024, 1}, []int{0, 3, 1024}, most, api.OK, api.OK}, {[]int64{1025, 0}, []int{1, 3, 1024}, most, api.ErrLimit, api.OK},
	} {
		for _, k := range stocks() {
			s := sample{fmt.Sprintf("%s of the shape %v", k.name, c.s), array(k.of(cells(c.s)), c.s...)}
			if _, err := reshape.Take(counts(c.by...), s.a, c.limit); err != c.take {
				t.Errorf("Take %v of %s, with at most %d, is error %d", c.by, s.name, c.limit, err)
			}
			if _, err := reshape.Drop(counts(c.by...), s.a, c.limit); err != c.drop {
				t.Errorf("Drop %v of %s, with at most %d, is error %d", c.by, s.name, c.limit, err)
			}
			if cells(c.s) < most && k.name != "boxes" {
				heldBoth(t, c.by, s, c.limit)
			}
		}
	}
}

// What is to be left doesn't hang on how much there would be on the way there: along one
// axis fewer than there are, along another one more.
func TestTakeAndDropOfMany(t *testing.T) {
	for _, c := range []struct {
		s  []int
		by []int64
	}{
		{[]int{1024, 1024}, []int64{most, 1}}, {[]int{1024, 1024}, []int64{-most, -1}}, {[]int{1024, 1024}, []int64{1, most}}, {[]int{1024, 1024}, []int64{1, -most}}, {[]int{1024, 1024}, []int64{0, most}}, {[]int{1024, 1024}, []int64{most, 0}}, {[]int{1024, 1024}, []int64{1024, 1024}},
		{[]int{1024, 1024}, []int64{-1024}}, {[]int{most}, []int64{most}}, {[]int{most}, []int64{-most}}, {[]int{most}, []int64{1 - most}}, {[]int{most}, []int64{5}}, {[]int{5}, []int64{most}}, {[]int{5}, []int64{-most}}, {[]int{0}, []int64{-most}}, {[]int{}, []int64{most}}, {[]int{}, []int64{-1024, 1024}},
		{[]int{8, 8, 8, 8, 8, 8, 2, 2}, []int64{-64, 1, 64, -1, 64, 1, -2, 2}}, {[]int{1, 1, 1, 1, 1, 1, 1, 1}, []int64{-64, 1, 64, -1, 64, 1, -2, 2}}, {[]int{1024, 0, 1024}, []int64{1, 1024, -1024}}, {[]int{0, 1024, 1024}, []int64{most, 1, 1}}, {[]int{most, 0}, []int64{1, most}}, {[]int{2, most / 2}, []int64{1}}, {[]int{2, most / 2}, []int64{4, 1 << 18}},
	} {
		for _, k := range stocks()[2:6:6] {
			s := sample{fmt.Sprintf("%s of the shape %v", k.name, c.s), array(k.of(cells(c.s)), c.s...)}
			heldBoth(t, c.by, s, most)
			if want := parted(counts(c.by...), s.a, most, takes); want.err != api.OK {
				t.Errorf("Take %v of %s must be error %d", c.by, s.name, want.err)
			}
		}
	}
	v := vec.Chars(list(most, func(i int) rune { return rune(i) }))
	for _, by := range []int64{0, 1, -1, most - 1, 1 - most, most, -most, most + 1, -most - 1, top, -top} {
		heldDrop(t, fmt.Sprintf("%d of %d characters", by, most), counts(by), array(v, most), most)
		heldDrop(t, fmt.Sprintf("%d of a column of %d characters", by, most), counts(by), array(v, most, 1), most)
		heldDrop(t, fmt.Sprintf("0 and %d of a row of %d characters", by, most), counts(0, by), array(v, 1, most), most)
	}
}

// Numbers are read in every kind that they fit, and without axes as one of them.
func TestTakeAndDropReadTheirNumbers(t *testing.T) {
	m := array(smalls(1, 2, 3, 4, 5, 6), 2, 3)
	for _, l := range [][]float64{{}, {0}, {1}, {1, 1}, {1, 0}, {2}, {-1}, {-3, 2}, {100, 1}, {-128}, {300}, {-300, 1}, {2, 300}, {most}, {top}, {-top}, {top, 0}, {1, 1, 1}, {1, 1, 1, 1, 1, 1, 1, 1, 1}} {
		for _, v := range kindsOf(l) {
			what := fmt.Sprintf("%v of kind %d", l, v.Kind())
			for _, a := range []vec.Array{m, array(smalls(5)), array(text(""), 0, 2), array(boxes(array(text("x"))), 1)} {
				heldTake(t, what, array(v, len(l)), a, most)
				heldDrop(t, what, array(v, len(l)), a, most)
				if len(l) == 1 {
					heldTake(t, what+" without axes", array(v), a, most)
					heldDrop(t, what+" without axes", array(v), a, most)
				}
			}
		}
	}
	z, err := reshape.Take(array(smalls(-1)), m, 9)
	if err != api.OK || !numbered(t, "Take -1 without axes", z, []int{1, 3}, 4, 5, 6) {
		t.Errorf("Take -1 without axes is error %d", err)
	}
	z, err = reshape.Drop(array(smalls(-1)), m, 9)
	if err != api.OK || !numbered(t, "Drop -1 without axes", z, []int{1, 3}, 1, 2, 3) {
		t.Errorf("Drop -1 without axes is error %d", err)
	}
}

// The first error is told, where several hold.
func TestErrorsOfTakeAndDropInTheirOrder(t *testing.T) {
	nine, table := slices.Repeat([]int64{1}, 9), array(smalls(1, 2, 3, 4, 5, 6), 2, 3)
	for _, c := range []struct {
		name  string
		by, a vec.Array
		limit int
		err   api.Errno
	}{
		{"nine numbers, without axes", counts(nine...), array(smalls(5)), most, api.ErrLimit}, {"nine numbers, without axes, none allowed", counts(nine...), array(smalls(5)), 0, api.ErrLimit}, {"nine great numbers, without axes", counts(slices.Repeat([]int64{top}, 9)...), array(text("x")), most, api.ErrLimit},
		{"very many numbers, without axes", counts(slices.Repeat([]int64{0}, 100000)...), array(text("x")), most, api.ErrLimit}, {"two numbers, one axis", counts(1, 1), array(smalls(5), 1), most, api.ErrLength}, {"two numbers, one axis, none allowed", counts(1, 1), array(smalls(5), 1), 0, api.ErrLength},
		{"three numbers, two axes", counts(1, 1, 1), table, most, api.ErrLength}, {"three great numbers, two axes", counts(top, top, top), table, most, api.ErrLength}, {"three numbers, two axes, none allowed", counts(-9, 5, 1), table, 0, api.ErrLength}, {"three zeros, two axes", counts(0, 0, 0), table, most, api.ErrLength},
		{"two numbers, an empty list", counts(0, 0), array(text(""), 0), 0, api.ErrLength}, {"eight numbers, seven axes", counts(nine[1:]...), array(flags(1), 1, 1, 1, 1, 1, 1, 1), most, api.ErrLength}, {"nine numbers, one axis", counts(nine...), array(smalls(5), 1), most, api.ErrLength},
		{"nine numbers, two axes", counts(nine...), table, most, api.ErrLength}, {"nine numbers, eight axes", counts(nine...), array(flags(1), 1, 1, 1, 1, 1, 1, 1, 1), most, api.ErrLength}, {"nine numbers, eight axes, none allowed", counts(nine...), array(flags(1), 1, 1, 1, 1, 1, 1, 1, 1), 0, api.ErrLength},
		{"a table of nine characters, without axes", array(text("123456789"), 1, 9), array(smalls(5)), 0, api.ErrRank}, {"nine characters, without axes", array(text("123456789"), 9), array(smalls(5)), 0, api.ErrDomain}, {"nine halves, one axis", array(floats(slices.Repeat([]float64{0.5}, 9)...), 9), array(smalls(5), 1), 0, api.ErrDomain},
		{"three halves, two axes", array(floats(0.5, 0.5, 0.5), 3), table, 0, api.ErrDomain}, {"no characters, none allowed", array(text(""), 0), table, 0, api.ErrDomain}, {"no boxes, none allowed", array(boxes(), 0), table, 0, api.ErrDomain}, {"an empty table, none allowed", array(flags(), 0, 2), table, 0, api.ErrRank},
	} {
		z, err := reshape.Take(c.by, c.a, c.limit)
		failed(t, "Take by "+c.name, z, err, c.err)
		z, err = reshape.Drop(c.by, c.a, c.limit)
		failed(t, "Drop by "+c.name, z, err, c.err)
		heldTake(t, "by "+c.name, c.by, c.a, c.limit)
		heldDrop(t, "by "+c.name, c.by, c.a, c.limit)
	}
}

// P20.5

func TestReshapeToItsShape(t *testing.T) {
	for _, s := range samples() {
		z, err := reshape.Reshape(reshape.Shape(s.a), s.a, s.a.V.Len())
		if err != api.OK || !value.Same(z, s.a) || z.V.Kind() != s.a.V.Kind() {
			t.Errorf("Reshape to its shape of %s is another array, error %d", s.name, err)
		}
	}
}

// What is taken and what is dropped, side by side, is all there is.
func TestTakenAndDropped(t *testing.T) {
	for _, s := range samples() {
		if len(s.a.Shape) == 0 {
			continue
		}
		n := int64(s.a.Shape[0])
		for many := -n; many <= n; many++ {
			taken, err := reshape.Take(counts(many), s.a, most)
			dropped, other := reshape.Drop(counts(many), s.a, most)
			if many < 0 {
				taken, dropped = dropped, taken
			}
			all, ok := flat.Join(taken.V, dropped.V)
			if err != api.OK || other != api.OK || !ok || taken.Shape[0]+dropped.Shape[0] != int(n) {
				t.Errorf("Take and Drop %d of %s are errors %d and %d", many, s.name, err, other)
			}
			wanted(t, fmt.Sprintf("Take and Drop %d of %s", many, s.name), array(all, s.a.Shape...), s.a.Shape, s.a.V.Class(), told(s.a.V))
		}
	}
}

// Boxes may be nested as deep as they may be, and stay so.
func TestDeepBoxes(t *testing.T) {
	deep := array(smalls(5))
	for range 39 {
		deep = array(boxes(deep))
	}
	if !value.Good(deep) {
		t.Fatal("39 boxes are not good")
	}
	want := tell(deep.V, 0)
	wanted(t, "Ravel of deep boxes", reshape.Ravel(deep), []int{1}, api.Nested, []element{want})
	wanted(t, "Table of deep boxes", reshape.Table(deep), []int{1, 1}, api.Nested, []element{want})
	z, err := reshape.Reshape(counts(2), deep, 2)
	answered(t, "Reshape of deep boxes", z, err, deep, answer{shape: []int{2}, elements: []element{want, want}})
	z, err = reshape.Take(counts(-2), deep, 2)
	answered(t, "Take of deep boxes", z, err, deep, answer{shape: []int{2}, elements: []element{fill(api.Nested), want}})
	z, err = reshape.Drop(counts(0), deep, 2)
	answered(t, "Drop of deep boxes", z, err, deep, answer{shape: []int{1}, elements: []element{want}})
}

// The examples of the page, and of the whole document.
func TestReshapeOfThePageIsAsItSays(t *testing.T) {
	m, err := reshape.Reshape(counts(2, 3), counts(1, 2, 3, 4, 5, 6), 6)
	if err != api.OK || !numbered(t, "m", m, []int{2, 3}, 1, 2, 3, 4, 5, 6) {
		t.Fatalf("Reshape to 2 3 is error %d", err)
	}
	z, err := reshape.Take(counts(-3, 2), m, 6)
	if numbered(t, "Take -3 2 of m", z, []int{3, 2}, 0, 0, 1, 2, 4, 5); err != api.OK {
		t.Errorf("Take -3 2 of m is error %d", err)
	}
	z, err = reshape.Drop(counts(1, -1), m, 2)
	if numbered(t, "Drop 1 -1 of m", z, []int{1, 2}, 4, 5); err != api.OK {
		t.Errorf("Drop 1 -1 of m is error %d", err)
	}
	z, err = reshape.Take(counts(1, 1, 1), m, 99)
	failed(t, "Take 1 1 1 of m", z, err, api.ErrLength)
	z, err = reshape.Reshape(m, m, 99)
	failed(t, "Reshape by m", z, err, api.ErrRank)
	z, err = reshape.Reshape(array(floats(0.5), 1), m, 99)
	failed(t, "Reshape by 0.5", z, err, api.ErrDomain)
	z, err = reshape.Reshape(counts(10, 10), m, 99)
	failed(t, "Reshape by 10 10", z, err, api.ErrLimit)
	z, err = reshape.Take(counts(2, 2), array(smalls(5)), 4)
	if numbered(t, "Take 2 2 of 5", z, []int{2, 2}, 5, 0, 0, 0); err != api.OK {
		t.Errorf("Take 2 2 of 5 is error %d", err)
	}
	numbered(t, "Shape of m", reshape.Shape(m), []int{2}, 2, 3)
	numbered(t, "Tally of m", reshape.Tally(m), nil, 2)
	numbered(t, "Table of 1 2", reshape.Table(counts(1, 2)), []int{2, 1}, 1, 2)
	z, err = reshape.Reshape(counts(3), array(text(""), 0), 3)
	if wanted(t, "Reshape to 3 of no characters", z, []int{3}, api.Letter, told(text("   "))); err != api.OK {
		t.Errorf("Reshape to 3 of no characters is error %d", err)
	}
}

// What all functions tell of an array, by each of some lists of integers.
func calls(by []vec.Array, a vec.Array) map[string]func() vec.Array {
	z := map[string]func() vec.Array{
		"Shape": func() vec.Array { return reshape.Shape(a) }, "Tally": func() vec.Array { return reshape.Tally(a) },
		"Ravel": func() vec.Array { return reshape.Ravel(a) }, "Table": func() vec.Array { return reshape.Table(a) },
	}
	for i, s := range by {
		for name, f := range map[string]func(s, a vec.Array, most int) (vec.Array, api.Errno){"Reshape": reshape.Reshape, "Take": reshape.Take, "Drop": reshape.Drop} {
			z[fmt.Sprint(name, i)] = func() vec.Array {
				b, _ := f(s, a, most)
				return b
			}
		}
	}
	return z
}

// roomy makes an array whose shape has spare room, in which there are other numbers.
func roomy(v vec.Vec, s ...int) vec.Array {
	shape := append(slices.Clone(s), 77, 78, 79)
	return vec.Array{Shape: shape[:len(s):len(shape)], V: v}
}

// All answers are new memory, and arguments stay as they are.
func TestAnswersShareNothing(t *testing.T) {
	for _, s := range samples() {
		shape := slices.Clone(s.a.Shape)
		a := roomy(s.a.V, shape...)
		by := []vec.Array{roomy(flags(), 0), roomy(flags(1), 1), roomy(smalls(-2), 1), roomy(s.a.V, 1)}
		if len(shape) > 0 {
			by = append(by, roomy(lengths(shape).V, len(shape)))
		}
		want := told(a.V)
		for name, call := range calls(by, a) {
			first := call()
			copied := vec.Array{Shape: slices.Clone(first.Shape), V: first.V}
			room := first.Shape[:cap(first.Shape)]
			for i := range room {
				room[i] = 99
			}
			if !value.Same(call(), copied) {
				t.Errorf("%s of %s is another array after its shape was changed", name, s.name)
			}
			later := call()
			for i := range a.Shape {
				a.Shape[i] = 88
			}
			if !value.Same(later, copied) {
				t.Errorf("%s of %s is another array after the argument's shape was changed", name, s.name)
			}
			copy(a.Shape, shape)
		}
		for _, l := range append(by, a) {
			if spare := l.Shape[:cap(l.Shape)][len(l.Shape):]; !slices.Equal(spare, []int{77, 78, 79}) {
				t.Errorf("the spare room of a shape is %v after calls for %s", spare, s.name)
			}
		}
		if !slices.Equal(a.Shape, shape) || !slices.Equal(told(a.V), want) {
			t.Errorf("%s are others after the calls", s.name)
		}
	}
	by := counts(2, -2)
	for range 2 {
		if z, err := reshape.Drop(by, array(text("abcdefghi"), 3, 3), 9); err != api.OK || string(z.V.Text()) != "g" {
			t.Errorf("Drop 2 -2 is %q, error %d", string(z.V.Text()), err)
		}
		numbered(t, "2 -2 after Drop", by, []int{2}, 2, -2)
	}
}

// The shapes of arrays in boxes are kept apart from those of the boxes that come of them.
func TestBoxesShareNothing(t *testing.T) {
	a := array(boxes(array(smalls(1, 2), 2), array(text("xyz"), 3)), 2)
	for name, call := range calls([]vec.Array{counts(2), counts(-1), counts(4)}, a) {
		z := call()
		want := told(z.V)
		for _, inner := range z.V.Arrays() {
			for i := range inner.Shape {
				inner.Shape[i] = 9
			}
		}
		if !slices.Equal(told(z.V), want) || !slices.Equal(told(a.V), told(boxes(array(smalls(1, 2), 2), array(text("xyz"), 3)))) {
			t.Errorf("%s: arrays in boxes change with what was told of them", name)
		}
	}
}

// Wrong inputs

// crooked lists arrays that are not good: without a kind, with too few elements or too
// many, with shapes that no array has.
func crooked(l ...stock) []sample {
	z := []sample{{"nothing", vec.Array{}}, {"no kind", array(vec.Vec{}, 0)}, {"no kind of two", array(vec.Vec{}, 2)}, {"no kind of a table", array(vec.Vec{}, 2, 3)}}
	for _, s := range [][]int{
		{}, {0}, {1}, {3}, {-1}, {math.MinInt}, {math.MaxInt}, {1 << 32}, {most + 1}, {0, -1}, {-1, -1}, {2, 2}, {most, most}, {math.MaxInt, math.MaxInt}, {math.MinInt, math.MinInt}, {math.MaxInt, 0}, {0, math.MaxInt}, {1 << 62, 4}, {-3, 2, -1},
		{1, 1, 1, 1, 1, 1, 1, 1, 1}, {0, 0, 0, 0, 0, 0, 0, 0, 0}, {2, 2, 2, 2, 2, 2, 2, 2, 2, 2}, {most, most, most, most, most, most, most, most}, slices.Repeat([]int{math.MaxInt}, 8), slices.Repeat([]int{1}, 5000),
	} {
		for _, k := range l {
			z = append(z, sample{fmt.Sprintf("two %s of the shape %v", k.name, few(s)), array(k.of(2), s...)})
		}
	}
	return z
}

// named lists the errors that there are.
var named = []api.Errno{api.OK, api.ErrRank, api.ErrDomain, api.ErrLimit, api.ErrLength}

// Beyond what is promised, all calls still end, and tell no error of which the page doesn't
// speak.
func TestWrongInputs(t *testing.T) {
	by := []vec.Array{counts(), counts(1), counts(-1), counts(0), counts(2, -2), counts(5, 5), counts(top), counts(-top, 1), counts(0, 0, 0), counts(-1, 2, 1, -2, 1, 0, 1, 1), counts(1, 1, 1, 1, 1, 1, 1, 1, 1), counts(most, most), {}, array(vec.Vec{}, 1), array(smalls(1, 2), 9), array(smalls(1, 2))}
	k := stocks()
	for _, s := range crooked(k[0], k[3], k[5]) {
		by = append(by, s.a)
	}
	for _, s := range append(crooked(k[1], k[5], k[7]), sample{"numbers", counts(1, 2)}, sample{"a table", array(text("abcdef"), 2, 3)}) {
		for _, f := range []func(a vec.Array) vec.Array{reshape.Shape, reshape.Tally, reshape.Ravel, reshape.Table} {
			f(s.a)
		}
		for _, limit := range []int{0, 5, 1000, math.MaxInt, -1, math.MinInt} {
			for i, l := range by {
				if limit > most && i%4 > 0 {
					continue
				}
				for name, f := range map[string]func(s, a vec.Array, most int) (vec.Array, api.Errno){"Reshape": reshape.Reshape, "Take": reshape.Take, "Drop": reshape.Drop} {
					z, err := f(l, s.a, limit)
					what := fmt.Sprintf("%s by list %d of %s, with at most %d", name, i, s.name, limit)
					if !slices.Contains(named, err) {
						t.Errorf("%s is error %d", what, err)
					}
					if err != api.OK {
						failed(t, what, z, err, err)
					} else if z.V.Len() > min(max(limit, 0), most) || !value.Good(z) {
						t.Errorf("%s has %d elements, or is not good", what, z.V.Len())
					}
				}
			}
		}
	}
}

// Of more elements than there may be, there are no more than there may be.
func TestLimitsOfNoArray(t *testing.T) {
	for _, limit := range []int{most + 1, 1 << 32, math.MaxInt} {
		for _, s := range []sample{{"numbers", counts(1, 2)}, {"no characters", array(text(""), 0)}} {
			heldReshape(t, "too many of "+s.name, counts(most+1), s.a, limit)
			heldReshape(t, "2 3 of "+s.name, counts(2, 3), s.a, limit)
			heldBoth(t, []int64{most + 1}, s, limit)
			heldBoth(t, []int64{-5}, s, limit)
		}
	}
	for _, limit := range []int{-1, -most, math.MinInt} {
		for _, s := range [][]int64{nil, {0}, {1}, {0, 2}} {
			z, err := reshape.Reshape(counts(s...), counts(1, 2), limit)
			failed(t, fmt.Sprintf("Reshape to %v, with at most %d", s, limit), z, err, api.ErrLimit)
		}
		for _, many := range []int64{0, 1, -2, 9} {
			z, err := reshape.Take(counts(many), counts(1, 2), limit)
			failed(t, fmt.Sprintf("Take %d, with at most %d", many, limit), z, err, api.ErrLimit)
			z, err = reshape.Drop(counts(many), counts(1, 2), limit)
			failed(t, fmt.Sprintf("Drop %d, with at most %d", many, limit), z, err, api.ErrLimit)
		}
	}
}

// A vector without a kind counts as no numbers.
func TestArraysWithoutAKind(t *testing.T) {
	nothing := array(vec.Vec{}, 0)
	numbered(t, "Shape of no kind", reshape.Shape(nothing), []int{1}, 0)
	numbered(t, "Tally of no kind", reshape.Tally(nothing), nil, 0)
	numbered(t, "Ravel of no kind", reshape.Ravel(nothing), []int{0})
	z, err := reshape.Reshape(nothing, array(smalls(7, 8), 2), 1)
	if numbered(t, "Reshape by no kind", z, nil, 7); err != api.OK {
		t.Errorf("Reshape by no kind is error %d", err)
	}
	z, err = reshape.Reshape(counts(2, 1), nothing, 2)
	if numbered(t, "Reshape of no kind", z, []int{2, 1}, 0, 0); err != api.OK {
		t.Errorf("Reshape of no kind is error %d", err)
	}
	z, err = reshape.Take(counts(-2), nothing, 2)
	if numbered(t, "Take -2 of no kind", z, []int{2}, 0, 0); err != api.OK {
		t.Errorf("Take -2 of no kind is error %d", err)
	}
	z, err = reshape.Drop(counts(1), nothing, 2)
	if numbered(t, "Drop 1 of no kind", z, []int{0}); err != api.OK {
		t.Errorf("Drop 1 of no kind is error %d", err)
	}
}
