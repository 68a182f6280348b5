package order_test

import (
	"fmt"
	"math"
	"math/big"
	"slices"
	"testing"

	"rebus/api"
	"rebus/bitvec"
	"rebus/order"
	"rebus/squeeze"
	"rebus/vec"
)

// most is the greatest number of elements, and top the greatest whole number.
const (
	most = 1 << 20
	top  = 1 << 53
)

// numeric lists the kinds of numbers, the least one first.
var numeric = []int{api.Bit, api.Small, api.Int, api.Float}

// far lists numbers that are no places, though some of them, many times over, come to
// less than an int holds, or to less than 2^32 or 256 in their lowest bits.
var far = []int{
	math.MinInt, math.MinInt + 1, -1 << 62, -1 << 32, math.MinInt32, -most, -257, -256, -65, -64, -3, -2, -1,
	most + 1, math.MaxInt32, math.MaxUint32, 1 << 32, 1<<32 + 1, 1 << 60, 1 << 61, 1 << 62, 1<<62 + 1, 1 << 56, 1<<56 + 1, math.MaxInt - 1, math.MaxInt,
}

// ups lists both directions: upwards and downwards.
var ups = []bool{false, true}

// How vectors of each kind are made.

func bits(l ...int) vec.Vec {
	return vec.Bits(bitvec.Pack(list(len(l), func(i int) bool { return l[i] == 1 })))
}

func smalls(l ...int8) vec.Vec { return vec.Smalls(l) }

func ints(l ...int64) vec.Vec {
	v, ok := vec.Ints(l)
	if !ok {
		panic("no integers of at most 2^53")
	}
	return v
}

func floats(l ...float64) vec.Vec {
	v, ok := vec.Floats(l)
	if !ok {
		panic("no numbers")
	}
	return v
}

func text(s string) vec.Vec { return vec.Chars([]rune(s)) }

func boxes(l ...vec.Array) vec.Vec { return vec.Boxes(l) }

func array(v vec.Vec, s ...int) vec.Array { return vec.Array{Shape: s, V: v} }

// made makes a vector of a kind that numbers fit.
func made(l []float64, kind int) vec.Vec {
	switch kind {
	case api.Bit:
		return vec.Bits(bitvec.Pack(list(len(l), func(i int) bool { return l[i] == 1 })))
	case api.Small:
		return vec.Smalls(list(len(l), func(i int) int8 { return int8(l[i]) }))
	case api.Int:
		return ints(list(len(l), func(i int) int64 { return int64(l[i]) })...)
	}
	return floats(l...)
}

// least tells the least kind that numbers fit.
func least(l []float64) int {
	kind := api.Bit
	for _, x := range l {
		switch {
		case x != math.Trunc(x) || math.Abs(x) > top:
			return api.Float
		case x < -128 || x > 127:
			kind = max(kind, api.Int)
		case x != 0 && x != 1 || len(l) > most:
			kind = max(kind, api.Small)
		}
	}
	return kind
}

// kindsOf makes vectors of numbers in all kinds that they fit.
func kindsOf(l []float64) []vec.Vec {
	var z []vec.Vec
	for _, kind := range numeric {
		if kind >= least(l) {
			z = append(z, made(l, kind))
		}
	}
	return z
}

// list makes n elements by a rule.
func list[T any](n int, rule func(i int) T) []T {
	l := make([]T, n)
	for i := range l {
		l[i] = rule(i)
	}
	return l
}

// steps lists n of the elements of a list, the same ones each time.
func steps[T any](l []T, n, seed int) []T {
	x := uint32(seed)
	return list(n, func(int) T {
		x = x*1664525 + 1013904223
		return l[int(x>>8)%len(l)]
	})
}

// ascending lists the places from 0 to below n.
func ascending(n int) []int { return list(n, func(i int) int { return i }) }

// ladder lists numbers that ascend, each of them greater than the one before it, many of
// them by the least step that there is.
func ladder() []float64 {
	inf := math.Inf(1)
	return []float64{
		-math.MaxFloat64, math.Nextafter(-math.MaxFloat64, 0), -1e300, -1 << 63, -top - 2, -top, -top + 1, -1<<32 - 1, -1 << 32, -1 << 31, -300,
		math.Nextafter(-129, -inf), -129, -128.5, math.Nextafter(-128, -inf), -128, -127, -100, -2, math.Nextafter(-1, -inf), -1, math.Nextafter(-1, 0), -0.5,
		-0x1p-1022, -2 * math.SmallestNonzeroFloat64, -math.SmallestNonzeroFloat64, 0, math.SmallestNonzeroFloat64, 2 * math.SmallestNonzeroFloat64, 0x1p-1022,
		0.1, 0.5, math.Nextafter(1, 0), 1, math.Nextafter(1, inf), 1.5, 2, 100, 126, 127, math.Nextafter(127, inf), 127.5, 128, 255, 256, 257,
		1 << 31, 1<<32 - 1, 1 << 32, 1<<32 + 1, top/2 - 0.5, top / 2, top - 1, top, top + 2, 1 << 63, 1e300, math.Nextafter(math.MaxFloat64, 0), math.MaxFloat64,
	}
}

// alphabet lists runes that ascend: of one to four bytes, and such as are none of
// Unicode's.
func alphabet() []rune {
	return []rune{
		math.MinInt32, math.MinInt32 + 1, -65536, -256, -2, -1, 0, 1, '\t', ' ', '0', '9', 'A', 'Z', 'a', 'b', 'z', 0x7f, 0x80, 0xe9, 0xff, 0x100, 0x17f, 0x7ff, 0x800,
		0x2190, 0x2374, 0xd7ff, 0xd800, 0xdfff, 0xe000, 0xfffd, 0xffff, 0x10000, 0x1f600, 0x10ffff, 0x110000, math.MaxInt32 - 1, math.MaxInt32,
	}
}

// inner lists arrays of all kinds, for boxes.
func inner() []vec.Array {
	return []vec.Array{
		array(smalls(-7)), array(text("hi"), 2), array(bits(), 0), array(text(""), 0), array(boxes(), 0, 3), array(bits(1, 0, 1, 1), 2, 2),
		array(ints(300, -top), 1, 2), array(floats(0.5)), {}, array(boxes(array(boxes(array(text("deep"), 1, 4))), array(smalls(1, 0), 2)), 2),
	}
}

// of tells which of two ranks is the greater one, as Compare tells it of elements.
func of(a, b int) int {
	switch {
	case a < b:
		return -1
	case a > b:
		return 1
	}
	return 0
}

// A store is a way to make a vector of ranks: one whose elements have the order that the
// ranks have, which are from 0 to below 3.
type store struct {
	name string
	made func(ranks []int) vec.Vec
}

// numbersBy makes vectors of a kind by numbers that ascend.
func numbersBy(name string, kind int, low, middle, high float64) store {
	return store{name, func(ranks []int) vec.Vec {
		return made(list(len(ranks), func(i int) float64 { return []float64{low, middle, high}[ranks[i]] }), kind)
	}}
}

func runesBy(name string, low, middle, high rune) store {
	return store{name, func(ranks []int) vec.Vec {
		return vec.Chars(list(len(ranks), func(i int) rune { return []rune{low, middle, high}[ranks[i]] }))
	}}
}

// stores lists ways to make vectors of ranks, in all kinds but those of bits, which have
// no third rank, and of boxes, which have no order.
func stores() []store {
	return []store{
		numbersBy("smalls", api.Small, -1, 0, 1), numbersBy("all smalls", api.Small, -128, 1, 127), numbersBy("small ints", api.Int, 0, 1, 2),
		numbersBy("ints", api.Int, -top, -top+1, top), numbersBy("great ints", api.Int, 255, 256, 257), numbersBy("whole floats", api.Float, -3, 0, 4),
		numbersBy("floats", api.Float, -0.5, 0.25, 0.5), numbersBy("near floats", api.Float, 1, math.Nextafter(1, 2), math.Nextafter(1.5, 2)),
		numbersBy("least floats", api.Float, -math.SmallestNonzeroFloat64, 0, math.SmallestNonzeroFloat64),
		numbersBy("great floats", api.Float, -math.MaxFloat64, math.Nextafter(math.MaxFloat64, 0), math.MaxFloat64),
		runesBy("letters", 'a', 'b', 'c'), runesBy("runes", -1, 0xe9, 0x1f600), runesBy("all runes", math.MinInt32, 0, math.MaxInt32),
	}
}

// flags makes bits of ranks that are 0 or 1.
func flags(ranks []int) vec.Vec { return bits(ranks...) }

// allOf makes vectors of ranks in all stores that have so many.
func allOf(ranks []int) map[string]vec.Vec {
	z := map[string]vec.Vec{}
	for _, s := range stores() {
		z[s.name] = s.made(ranks)
	}
	if slices.Max(append([]int{0}, ranks...)) < 2 {
		z["bits"] = flags(ranks)
	}
	return z
}

// ranking lists all lists of n ranks below m.
func ranking(n, m int) [][]int {
	z := [][]int{{}}
	for range n {
		var longer [][]int
		for _, l := range z {
			for rank := range m {
				longer = append(longer, append(slices.Clone(l), rank))
			}
		}
		z = longer
	}
	return z
}

// cell tells what ranks a cell has.
func cell(ranks []int, size, i int) []int { return ranks[i*size : (i+1)*size] }

// cells tells which of two cells is the greater one: the first ranks that differ tell.
func cells(ranks []int, size, i, k int) int {
	a, b := cell(ranks, size, i), cell(ranks, size, k)
	for len(a) > 0 && a[0] == b[0] {
		a, b = a[1:], b[1:]
	}
	if len(a) == 0 {
		return 0
	}
	return of(a[0], b[0])
}

// ahead tells whether a cell comes ahead of another one.
func ahead(ranks []int, size, i, k int, down bool) bool {
	c := cells(ranks, size, i, k)
	return c == 0 && i < k || c < 0 && !down || c > 0 && down
}

// graded tells the list that is sorted: for each cell, it counts those ahead of it.
func graded(ranks []int, size int, down bool) []int {
	n := len(ranks) / size
	at := make([]int, n)
	for i := range n {
		before := 0
		for k := range n {
			if ahead(ranks, size, k, i, down) {
				before++
			}
		}
		at[before] = i
	}
	return at
}

// spare makes a list of the same places with room behind it, and what the room holds.
func spare(at []int) []int {
	room := append(slices.Clone(at), 0, 1, 2)
	return room[:len(at):len(room)]
}

// unchanged checks that a list that was made by spare is as it was.
func unchanged(t *testing.T, what string, given, at []int) {
	t.Helper()
	if !slices.Equal(given, at) || !slices.Equal(given[:cap(given)][len(at):], []int{0, 1, 2}) {
		t.Errorf("%s left %v", what, given[:cap(given)])
	}
}

// P16.1: Compare, Has

// compared holds what Compare tells, in both orders, against what it must tell.
func compared(t *testing.T, a vec.Vec, i int, b vec.Vec, k int, want int) {
	t.Helper()
	if c, ok := order.Compare(a, i, b, k); c != want || !ok {
		t.Errorf("element %d of kind %d and element %d of kind %d: %d, %t, not %d", i, a.Kind(), k, b.Kind(), c, ok, want)
	}
	if c, ok := order.Compare(b, k, a, i); c != -want || !ok {
		t.Errorf("element %d of kind %d and element %d of kind %d: %d, %t, not %d", k, b.Kind(), i, a.Kind(), c, ok, -want)
	}
}

// without checks that Compare tells nothing, in both orders.
func without(t *testing.T, a vec.Vec, i int, b vec.Vec, k int) {
	t.Helper()
	if c, ok := order.Compare(a, i, b, k); c != 0 || ok {
		t.Errorf("element %d of kind %d and element %d of kind %d: %d, %t", i, a.Kind(), k, b.Kind(), c, ok)
	}
	if c, ok := order.Compare(b, k, a, i); c != 0 || ok {
		t.Errorf("element %d of kind %d and element %d of kind %d: %d, %t", k, b.Kind(), i, a.Kind(), c, ok)
	}
}

func TestLadderAscends(t *testing.T) {
	l := ladder()
	for i := range len(l) - 1 {
		if new(big.Float).SetFloat64(l[i]).Cmp(new(big.Float).SetFloat64(l[i+1])) >= 0 {
			t.Errorf("%v is not below %v", l[i], l[i+1])
		}
	}
}

// Each number of the ladder is held against each other one, in all kinds that hold them,
// alone and among other elements.
func TestCompareNumbers(t *testing.T) {
	l := ladder()
	for i, x := range l {
		for k, y := range l {
			for _, a := range kindsOf([]float64{x}) {
				for _, b := range kindsOf([]float64{y}) {
					compared(t, a, 0, b, 0, of(i, k))
				}
			}
			for _, a := range kindsOf([]float64{0, 1, x}) {
				for _, b := range kindsOf([]float64{1, y, 0, 0}) {
					compared(t, a, 2, b, 1, of(i, k))
				}
			}
		}
	}
}

func TestCompareWithinOneVector(t *testing.T) {
	l := ladder()
	var whole, small []float64
	for _, x := range l {
		if least([]float64{x}) <= api.Int {
			whole = append(whole, x)
		}
		if least([]float64{x}) <= api.Small {
			small = append(small, x)
		}
	}
	if len(whole) < 20 || len(small) < 8 {
		t.Fatal("too few whole numbers, or small ones")
	}
	for _, numbers := range [][]float64{l, whole, small, {0, 1}} {
		for _, v := range kindsOf(numbers) {
			for i := range numbers {
				for k := range numbers {
					compared(t, v, i, v, k, of(i, k))
				}
			}
		}
	}
}

// Bits at places about 64 are held against each other, and against numbers next to them.
func TestCompareBits(t *testing.T) {
	ranks := make([]int, 200)
	for _, i := range []int{0, 2, 63, 64, 66, 127, 199} {
		ranks[i] = 1
	}
	v := flags(ranks)
	for i := range 200 {
		for k := range 200 {
			compared(t, v, i, v, k, of(ranks[i], ranks[k]))
		}
		compared(t, v, i, smalls(0, 1), 1, of(ranks[i], 1))
		compared(t, v, i, floats(0, 0.5), 1, of(2*ranks[i], 1))
		compared(t, v, i, ints(-300, 0), 1, of(ranks[i], 0))
	}
}

func TestCompareAllSmalls(t *testing.T) {
	l := list(256, func(i int) float64 { return float64(i - 128) })
	kinds := kindsOf(l)
	for i := range l {
		for k := range l {
			for _, v := range kinds {
				compared(t, v, i, kinds[0], k, of(i, k))
			}
		}
	}
}

func TestCompareEqualInOtherKinds(t *testing.T) {
	for _, l := range [][]float64{{1, 0, 1, 1}, {-128, 0, 127, 1}, {top, -top, 300, top - 1}} {
		for _, a := range kindsOf(l) {
			for _, b := range kindsOf(l) {
				for i := range l {
					compared(t, a, i, b, i, 0)
				}
			}
		}
	}
}

// A zero with a sign is kept as 0.
func TestCompareZeros(t *testing.T) {
	v := floats(math.Copysign(0, -1), 0)
	compared(t, v, 0, v, 1, 0)
	compared(t, v, 0, bits(0), 0, 0)
	compared(t, v, 0, floats(math.SmallestNonzeroFloat64), 0, -1)
	compared(t, v, 0, floats(-math.SmallestNonzeroFloat64), 0, 1)
}

// By exact fractions, numbers that are near each other or far apart.
func TestCompareNumbersByFractions(t *testing.T) {
	var l []float64
	for _, x := range ladder() {
		for _, y := range []float64{x, math.Nextafter(x, math.Inf(1)), math.Nextafter(x, math.Inf(-1)), x / 3, -x} {
			if !math.IsInf(y, 0) {
				l = append(l, y)
			}
		}
	}
	exact := list(len(l), func(i int) *big.Rat { return new(big.Rat).SetFloat64(l[i]) })
	v := floats(l...)
	for i := range l {
		for k := range l {
			if c, ok := order.Compare(v, i, v, k); c != exact[i].Cmp(exact[k]) || !ok {
				t.Fatalf("%v and %v: %d, %t", l[i], l[k], c, ok)
			}
		}
	}
}

func TestCompareCharacters(t *testing.T) {
	l := alphabet()
	v := vec.Chars(l)
	for i, x := range l {
		for k, y := range l {
			compared(t, v, i, v, k, of(i, k))
			compared(t, vec.Chars([]rune{x}), 0, vec.Chars([]rune{' ', y}), 1, of(i, k))
		}
	}
	for x := range rune(300) {
		compared(t, vec.Chars([]rune{x}), 0, vec.Chars([]rune{x + 1}), 0, -1)
		compared(t, vec.Chars([]rune{-x}), 0, vec.Chars([]rune{-x - 1}), 0, 1)
		compared(t, vec.Chars([]rune{x}), 0, text("x"), 0, of(int(x), 'x'))
	}
}

// byClass lists vectors of each class with three elements each.
func byClass() map[int][]vec.Vec {
	return map[int][]vec.Vec{
		api.Number: {bits(0, 1, 1), smalls(0, 1, 97), ints(0, 300, 97), floats(0, 0.5, 97)},
		api.Letter: {text("abc"), vec.Chars([]rune{0, 1, 97})},
		api.Nested: {boxes(inner()[:3]...), boxes(inner()[2:5]...), boxes(array(bits(0)), array(bits(1)), array(text("a")))},
	}
}

func TestCompareOfClasses(t *testing.T) {
	for class, l := range byClass() {
		for other, m := range byClass() {
			for _, a := range l {
				for _, b := range m {
					for i := range 9 {
						c, ok := order.Compare(a, i/3, b, i%3)
						if want := class == other && class != api.Nested; ok != want || !ok && c != 0 {
							t.Errorf("an element of kind %d and one of kind %d: %d, %t", a.Kind(), b.Kind(), c, ok)
						}
					}
				}
			}
		}
	}
}

func TestCompareBoxes(t *testing.T) {
	l := inner()
	v := boxes(l...)
	for i, a := range l {
		for k := range l {
			without(t, v, i, v, k)
			without(t, boxes(a), 0, v, k)
		}
		if a.V.Len() > 0 {
			without(t, v, i, a.V, 0)
		}
	}
}

// There is no promise for elements that do not exist, but that there is an end to it.
func TestCompareOfNoElements(t *testing.T) {
	for _, v := range []vec.Vec{{}, bits(), smalls(), ints(), floats(), text(""), boxes(), bits(1, 0), smalls(2, 0), ints(5, 0), floats(0.5, 0), text("x "), boxes(inner()[:2]...)} {
		for _, i := range slices.Concat(far, []int{2, 3, 64}) {
			without(t, v, i, v, i)
			without(t, v, i, v, 0)
			without(t, v, i, smalls(1, 2), 1)
			without(t, v, i, text("ab"), 1)
		}
	}
}

func TestHas(t *testing.T) {
	for class := -70; class < 300; class++ {
		if order.Has(class) != (class == 0 || class == 1) {
			t.Errorf("class %d: %t", class, order.Has(class))
		}
	}
	for _, class := range far {
		if order.Has(class) {
			t.Errorf("class %d has an order", class)
		}
	}
	if !order.Has(api.Number) || !order.Has(api.Letter) || order.Has(api.Nested) {
		t.Error("the classes")
	}
}

// P16.2: Cells, Less

// held checks Cells and Less of all pairs of cells of a vector of ranks.
func held(t *testing.T, name string, v vec.Vec, ranks []int, size int) {
	t.Helper()
	n := len(ranks) / size
	for i := range n {
		for k := range n {
			want := cells(ranks, size, i, k)
			if c := order.Cells(v, size, i, k); c != want {
				t.Fatalf("%s, ranks %v, size %d: cells %d and %d are %d, not %d", name, ranks, size, i, k, c, want)
			}
			for _, down := range ups {
				want := ahead(ranks, size, i, k, down)
				if order.Less(v, size, i, k, down) != want {
					t.Fatalf("%s, ranks %v, size %d, down %t: %d less than %d is not %t", name, ranks, size, down, i, k, want)
				}
			}
		}
	}
}

// All cells of a few elements, in every store, held against each other.
func TestCellsOfAFew(t *testing.T) {
	for size := 1; size <= 3; size++ {
		ranks := slices.Concat(ranking(size, 3)...)
		ranks = append(ranks, ranks...)
		for name, v := range allOf(ranks) {
			held(t, name, v, ranks, size)
		}
		ranks = slices.Concat(ranking(size, 2)...)
		ranks = append(ranks, ranks...)
		for name, v := range allOf(ranks) {
			held(t, name, v, ranks, size)
		}
	}
}

// Cells that differ from each other in one element, or in one and all that come after
// it, the other way round.
func TestCellsThatDiffer(t *testing.T) {
	for _, size := range []int{1, 2, 3, 5, 8, 63, 64, 65, 130} {
		low, high := slices.Repeat([]int{0}, size), slices.Repeat([]int{1}, size)
		for e := range size {
			lesser := slices.Concat(slices.Repeat([]int{1}, e), []int{0}, high[e+1:])
			greater := slices.Concat(slices.Repeat([]int{1}, e), []int{1}, low[e+1:])
			ranks := slices.Concat(lesser, greater, lesser, high, low)
			for name, v := range allOf(ranks) {
				held(t, fmt.Sprintf("%s that differ in element %d", name, e), v, ranks, size)
			}
		}
	}
}

func TestCellsOfElementsLeftOver(t *testing.T) {
	for size := 2; size <= 5; size++ {
		for left := 1; left < size; left++ {
			ranks := steps([]int{0, 1}, 6*size+left, size)
			for name, v := range allOf(ranks) {
				held(t, name, v, ranks, size)
			}
		}
	}
}

// The first elements that differ are told by Compare, whatever else is in the vector.
func TestCellsAreCompare(t *testing.T) {
	for _, v := range kindsOf(ladder()) {
		for i := range v.Len() {
			for k := range v.Len() {
				if c, _ := order.Compare(v, i, v, k); c != order.Cells(v, 1, i, k) {
					t.Errorf("cells %d and %d of one element are not as the elements", i, k)
				}
			}
		}
	}
	// In cells of size 3, the first two elements are equal.
	l := alphabet()
	v := vec.Chars(list(3*len(l), func(i int) rune { return []rune{'x', -9, l[i/3]}[i%3] }))
	for i := range l {
		for k := range l {
			if c := order.Cells(v, 3, i, k); c != of(i, k) {
				t.Errorf("cells %d and %d are %d", i, k, c)
			}
		}
	}
}

// Cells are the same in all kinds that hold the numbers.
func TestCellsInAllKinds(t *testing.T) {
	for _, numbers := range [][]float64{{0, 1}, {-128, -1, 0, 1, 127}, {-top, -top + 1, -1, 0, 300, top - 1, top}} {
		for size := 1; size <= 4; size++ {
			l := steps(numbers, 12*size, size)
			ranks := list(len(l), func(i int) int { return slices.Index(numbers, l[i]) })
			for _, v := range kindsOf(l) {
				held(t, fmt.Sprintf("kind %d", v.Kind()), v, ranks, size)
			}
		}
	}
}

func TestCellsOfMany(t *testing.T) {
	ranks := make([]int, most)
	ranks[most-1] = 1
	for name, v := range allOf(ranks) {
		for _, size := range []int{1, 2, 3, 64, most / 2, most} {
			n := most / size
			if want := cells(ranks, size, 0, n-1); order.Cells(v, size, 0, n-1) != want || order.Cells(v, size, n-1, 0) != -want {
				t.Errorf("%s: cells of size %d", name, size)
			}
			if n > 1 && most%size == 0 {
				if !order.Less(v, size, 0, n-1, false) || order.Less(v, size, 0, n-1, true) || !order.Less(v, size, n-1, 0, true) {
					t.Errorf("%s: less in cells of size %d", name, size)
				}
			}
		}
	}
	if v := smalls(slices.Repeat([]int8{7}, most)...); order.Cells(v, most/2, 0, 1) != 0 || !order.Less(v, most/2, 0, 1, true) || order.Less(v, most/2, 1, 0, true) {
		t.Error("two equal cells")
	}
}

// Of two cells that are not one, exactly one is less than the other, and no cell is less
// than itself.
func TestLessIsOneWay(t *testing.T) {
	for seed := range 20 {
		ranks := steps([]int{0, 1, 2}, 24, seed)
		for name, v := range allOf(ranks) {
			for size := 1; size <= 4; size++ {
				for i := range 24 / size {
					for k := range 24 / size {
						for _, down := range ups {
							one, other := order.Less(v, size, i, k, down), order.Less(v, size, k, i, down)
							if one && other || (one || other) != (i != k) {
								t.Errorf("%s, ranks %v, size %d, down %t: %d and %d are %t, %t", name, ranks, size, down, i, k, one, other)
							}
						}
					}
				}
			}
		}
	}
}

// There is no promise for cells that do not exist and for boxes, but that there is an
// end to it.
func TestCellsOfNoCells(t *testing.T) {
	sizes := slices.Concat(far, []int{0, 1, 2, 3, 4})
	for _, v := range []vec.Vec{{}, bits(), smalls(), ints(), floats(), text(""), boxes(), bits(1, 0, 1), smalls(2, 0, 1), ints(5, 0, 6), floats(0.5, 0, 1), text("xay"), boxes(inner()[:3]...)} {
		for _, size := range sizes {
			for _, i := range sizes {
				for _, k := range []int{0, 1, 2, i} {
					if size > 0 && i >= 0 && i < v.Len()/size && k >= 0 && k < v.Len()/size && v.Class() != api.Nested {
						continue
					}
					if c := order.Cells(v, size, i, k); c != 0 {
						t.Errorf("cells %d and %d of size %d, of kind %d: %d", i, k, size, v.Kind(), c)
					}
					for _, down := range ups {
						if order.Less(v, size, i, k, down) != (i < k) || order.Less(v, size, k, i, down) != (k < i) {
							t.Errorf("cells %d and %d of size %d, of kind %d, down %t", i, k, size, v.Kind(), down)
						}
					}
				}
			}
		}
	}
}

// P16.3: Sorted, Invert

// isSorted checks whether Sorted tells what it must.
func isSorted(t *testing.T, what string, v vec.Vec, size int, at []int, down, want bool) {
	t.Helper()
	given := spare(at)
	if order.Sorted(v, size, given, down) != want {
		if len(at) > 100 {
			at = at[:100]
		}
		t.Errorf("%s, size %d, down %t: that %v is sorted is not %t", what, size, down, at, want)
	}
	unchanged(t, what, given, at)
}

// sorts checks that a list is sorted, and that none is with a fault in one place.
func sorts(t *testing.T, what string, v vec.Vec, size int, at []int, down bool) {
	t.Helper()
	n := len(at)
	isSorted(t, what, v, size, at, down, true)
	isSorted(t, what+", one more", v, size, append(slices.Clone(at), n), down, false)
	isSorted(t, what+", one below 0 ahead", v, size, append([]int{-1}, at...), down, false)
	for j := range n {
		isSorted(t, what+", one missing", v, size, slices.Delete(slices.Clone(at), j, j+1), down, false)
		isSorted(t, what+", one twice", v, size, slices.Insert(slices.Clone(at), j, at[j]), down, false)
		for _, place := range slices.Concat(at, far, []int{-n, n, n + 1}) {
			wrong := slices.Clone(at)
			wrong[j] = place
			isSorted(t, what+", one exchanged", v, size, wrong, down, place == at[j])
		}
	}
	for j := range max(n-1, 0) {
		swapped := slices.Clone(at)
		swapped[j], swapped[j+1] = swapped[j+1], swapped[j]
		isSorted(t, what+", two swapped", v, size, swapped, down, false)
		// Only behind the last one of what was ahead, the next one is not greater.
		isSorted(t, what+", turned", v, size, slices.Concat(at[j+1:], at[:j+1]), down, false)
	}
}

func TestSorted(t *testing.T) {
	for n := range 10 {
		for size := 1; size <= 3; size++ {
			for left := range size {
				ranks := steps([]int{0, 1, 2}, n*size+left, 7*n+size)
				for name, v := range allOf(ranks) {
					for _, down := range ups {
						sorts(t, name, v, size, graded(ranks, size, down), down)
					}
				}
			}
		}
	}
}

func TestSortedOfEqualCells(t *testing.T) {
	for _, n := range []int{2, 3, 7, 20} {
		for _, size := range []int{1, 2, 5} {
			ranks := slices.Repeat([]int{1}, n*size)
			for name, v := range allOf(ranks) {
				for _, down := range ups {
					sorts(t, name, v, size, ascending(n), down)
				}
			}
		}
	}
}

// Numbers and characters that ascend, from the least to the greatest one, are sorted
// upwards only as they are, and downwards only the other way round.
func TestSortedOfTheLadder(t *testing.T) {
	vectors := append(kindsOf(ladder()), vec.Chars(alphabet()), smalls(-128, -1, 0, 1, 127), ints(-top, -top+1, 0, 300, top-1, top), bits(0, 1))
	for _, v := range vectors {
		up := ascending(v.Len())
		sorts(t, fmt.Sprintf("kind %d", v.Kind()), v, 1, up, false)
		slices.Reverse(up)
		sorts(t, fmt.Sprintf("kind %d", v.Kind()), v, 1, up, true)
	}
}

func TestSortedOfOneCellAndNone(t *testing.T) {
	for _, v := range []vec.Vec{bits(1), smalls(-5), ints(-top), floats(0.5), text("x"), boxes(inner()[1])} {
		what := fmt.Sprintf("one element of kind %d", v.Kind())
		for _, down := range ups {
			sorts(t, what, v, 1, []int{0}, down)
			for _, size := range []int{2, 3, most, 1 << 32, 1<<32 + 1, 1 << 62, math.MaxInt} {
				sorts(t, what, v, size, nil, down)
			}
		}
	}
	for _, v := range []vec.Vec{{}, bits(), smalls(), ints(), floats(), text(""), boxes()} {
		what := fmt.Sprintf("no element of kind %d", v.Kind())
		for _, down := range ups {
			for _, size := range []int{1, 2, 3, most, 1 << 62, math.MaxInt} {
				sorts(t, what, v, size, nil, down)
				sorts(t, what, v, size, []int{}, down)
				isSorted(t, what, v, size, []int{0}, down, false)
			}
		}
	}
}

func TestSortedOfNoSize(t *testing.T) {
	sizes := []int{0, -1, -2, -3, -6, -64, -most, math.MinInt32, -1 << 32, -1 << 62, math.MinInt + 1, math.MinInt}
	for _, v := range []vec.Vec{{}, bits(), bits(0, 1), smalls(1, 2, 3), ints(1), floats(0.5, 1), text(""), text("abc"), boxes(), boxes(inner()...)} {
		for _, size := range sizes {
			for _, at := range [][]int{nil, {}, {0}, {0, 1}, {1, 0}, ascending(v.Len()), {-1}, {0, -1}, {0, -1, -2}} {
				for _, down := range ups {
					isSorted(t, fmt.Sprintf("%d elements of kind %d", v.Len(), v.Kind()), v, size, at, down, false)
				}
			}
		}
	}
}

// Elements behind the last complete cell are in no cell, whatever they are.
func TestSortedWithElementsLeftOver(t *testing.T) {
	for _, left := range []float64{-5, 0, 1, 2, 9} {
		l := []float64{2, 1, 2, 0, 1, 5, left}
		for _, v := range kindsOf(l) {
			for _, down := range ups {
				at := []int{2, 1, 0}
				if down {
					slices.Reverse(at)
				}
				sorts(t, "one left over", v, 2, at, down)
				isSorted(t, "with the cell left over", v, 2, append(slices.Clone(at), 3), down, false)
				isSorted(t, "with the cell left over", v, 2, append([]int{3}, at...), down, false)
				at = []int{0, 1}
				if !down {
					slices.Reverse(at)
				}
				sorts(t, "one left over", v, 3, at, down)
				sorts(t, "three left over", v, 4, []int{0}, down)
				sorts(t, "seven left over", v, 8, nil, down)
			}
		}
	}
}

func TestSortedOfMany(t *testing.T) {
	swapped := func(at []int, j int) []int {
		z := slices.Clone(at)
		z[j], z[j+1] = z[j+1], z[j]
		return z
	}
	up := ascending(most)
	down := slices.Clone(up)
	slices.Reverse(down)
	for _, v := range []vec.Vec{
		ints(list(most, func(i int) int64 { return int64(i) - 1000 })...), floats(list(most, func(i int) float64 { return float64(i) / 8 })...),
		vec.Chars(list(most, func(i int) rune { return rune(i - 5000) })),
	} {
		what := fmt.Sprintf("2^20 elements of kind %d", v.Kind())
		isSorted(t, what, v, 1, up, false, true)
		isSorted(t, what, v, 1, down, true, true)
		isSorted(t, what, v, 1, up, true, false)
		isSorted(t, what, v, 1, down, false, false)
		for _, j := range []int{0, 1, most / 2, most - 2} {
			isSorted(t, what, v, 1, swapped(up, j), false, false)
			isSorted(t, what, v, 1, swapped(down, j), true, false)
		}
		isSorted(t, what, v, 1, up[:most-1], false, false)
		isSorted(t, what, v, 2, up[:most/2], false, true)
		isSorted(t, what, v, most, []int{0}, false, true)
	}
	flags := vec.Bits(bitvec.Make(most, false))
	isSorted(t, "2^20 zeros", flags, 1, up, false, true)
	isSorted(t, "2^20 zeros", flags, 1, up, true, true)
	isSorted(t, "2^20 zeros", flags, 1, swapped(up, most-2), true, false)
	longer := smalls(make([]int8, most+2)...)
	isSorted(t, "2^20 and two zeros", longer, 1, ascending(most+2), false, true)
	isSorted(t, "2^20 and two zeros", longer, 1, up, false, false)
}

// inverted checks what Invert tells.
func inverted(t *testing.T, at []int, want bool) {
	t.Helper()
	given := spare(at)
	z, ok := order.Invert(given)
	what := fmt.Sprintf("Invert of %d places", len(at))
	unchanged(t, what, given, at)
	switch {
	case ok != want:
		t.Errorf("%s, %v: %t", what, at[:min(len(at), 20)], ok)
	case !ok && len(z) != 0:
		t.Errorf("%s, %v: %d places beside false", what, at[:min(len(at), 20)], len(z))
	case ok && len(z) != len(at):
		t.Errorf("%s: %d places", what, len(z))
	case ok:
		for j, place := range at {
			if z[place] != j {
				t.Fatalf("%s, %v: place %d stands at %d, not %d", what, at[:min(len(at), 20)], place, z[place], j)
			}
		}
	}
}

// permutation tells whether places are all below their number, each once.
func permutation(at []int) bool {
	l := slices.Clone(at)
	slices.Sort(l)
	return slices.Equal(l, ascending(len(l)))
}

// placesBelow lists all lists of n places from -1 to n.
func placesBelow(n int) [][]int {
	lists := ranking(n, n+2)
	for _, l := range lists {
		for i := range l {
			l[i]--
		}
	}
	return lists
}

func TestInvertOfAFew(t *testing.T) {
	for n := range 6 {
		many := 0
		for _, at := range placesBelow(n) {
			inverted(t, at, permutation(at))
			if permutation(at) {
				many++
			}
		}
		if want := []int{1, 1, 2, 6, 24, 120}[n]; many != want {
			t.Errorf("%d lists of %d places, not %d", many, n, want)
		}
	}
	inverted(t, nil, true)
	inverted(t, []int{}, true)
}

func TestInvertOfWrongPlaces(t *testing.T) {
	for _, n := range []int{1, 2, 3, 10, 64, 65, 300} {
		for _, at := range [][]int{ascending(n), list(n, func(i int) int { return n - 1 - i })} {
			inverted(t, at, true)
			for j := range at {
				for _, place := range slices.Concat(far, []int{-n, -n - 1, n, n + 1, 2 * n, at[(j+1)%n], at[(j+n-1)%n], at[0], at[n-1]}) {
					wrong := slices.Clone(at)
					wrong[j] = place
					inverted(t, wrong, place == at[j])
				}
			}
		}
	}
}

func TestInvertOfMany(t *testing.T) {
	for _, n := range []int{1000, 4096, most, most + 1} {
		// The factor has no divisor in common with any of these.
		at := list(n, func(i int) int { return (i*7919 + 13) % n })
		inverted(t, at, true)
		at[n/2] = at[n/2+1]
		inverted(t, at, false)
		at[n/2] = n
		inverted(t, at, false)
		at[n/2] = -1
		inverted(t, at, false)
	}
}

func TestInvertTwice(t *testing.T) {
	for n := range 6 {
		for _, at := range placesBelow(n) {
			if z, ok := order.Invert(at); ok {
				if back, again := order.Invert(z); !again || !slices.Equal(back, at) {
					t.Errorf("%v inverted twice is %v", at, back)
				}
			}
		}
	}
}

// P16.4: the property

// onlyOne checks that of all lists of so many places, one more and one less, exactly
// that one is sorted that must be.
func onlyOne(t *testing.T, what string, v vec.Vec, size, n int, want []int, down bool) {
	t.Helper()
	many := 0
	for length := max(n-1, 0); length <= n+1; length++ {
		for _, at := range placesBelow(length) {
			if !order.Sorted(v, size, at, down) {
				continue
			}
			many++
			if !slices.Equal(at, want) {
				t.Errorf("%s, size %d, down %t: %v is sorted, not %v", what, size, down, at, want)
			}
		}
	}
	if many != 1 {
		t.Errorf("%s, size %d, down %t: %d lists are sorted", what, size, down, many)
	}
}

func TestExactlyOneListIsSorted(t *testing.T) {
	for n := range 4 {
		for _, ranks := range ranking(n, 3) {
			for name, v := range allOf(ranks) {
				for _, down := range ups {
					onlyOne(t, fmt.Sprintf("%s %v", name, ranks), v, 1, n, graded(ranks, 1, down), down)
				}
			}
		}
	}
}

func TestExactlyOneListIsSortedOfCells(t *testing.T) {
	for size := 2; size <= 3; size++ {
		for seed := range 12 {
			n := 2 + seed%2
			ranks := steps([]int{0, 1, 1, 2}[:3+seed%2], n*size+seed%size, seed)
			for name, v := range allOf(ranks) {
				for _, down := range ups {
					onlyOne(t, fmt.Sprintf("%s %v", name, ranks), v, size, n, graded(ranks, size, down), down)
				}
			}
		}
	}
}

// Of more places, only the orders of them can be sorted, as others are no places.
func TestExactlyOneOrderIsSorted(t *testing.T) {
	var orders func(ahead, left []int, call func(at []int))
	orders = func(ahead, left []int, call func(at []int)) {
		if len(left) == 0 {
			call(ahead)
		}
		for i, place := range left {
			orders(append(slices.Clone(ahead), place), slices.Delete(slices.Clone(left), i, i+1), call)
		}
	}
	for seed := range 6 {
		ranks := steps([]int{0, 1, 2}, 12, seed)
		for size := 2; size <= 3; size++ {
			for name, v := range allOf(ranks) {
				for _, down := range ups {
					many := 0
					orders(nil, ascending(12/size), func(at []int) {
						if order.Sorted(v, size, at, down) {
							many++
						}
					})
					if many != 1 {
						t.Errorf("%s %v, size %d, down %t: %d orders are sorted", name, ranks, size, down, many)
					}
				}
			}
		}
	}
}

// Cells that nothing tells apart have one order, too: that of their places.
func TestExactlyOneListOfBoxesIsSorted(t *testing.T) {
	for n := range 4 {
		v := boxes(inner()[:n]...)
		for _, down := range ups {
			onlyOne(t, "boxes", v, 1, n, ascending(n), down)
			onlyOne(t, "boxes", v, 2, n/2, ascending(n/2), down)
		}
	}
}

// Arguments and results

func TestInvertSharesNothing(t *testing.T) {
	at := []int{2, 0, 1}
	given := spare(at)
	first, _ := order.Invert(given)
	second, _ := order.Invert(given)
	for i := range first[:cap(first)] {
		first[:cap(first)][i] = 99
	}
	if !slices.Equal(second, []int{1, 2, 0}) {
		t.Error("two results share memory")
	}
	unchanged(t, "Invert", given, at)
	for i := range given[:cap(given)] {
		given[:cap(given)][i] = 88
	}
	if !slices.Equal(second, []int{1, 2, 0}) {
		t.Error("a result shares memory with its argument")
	}
}

// Nothing is kept of a list that was sorted, or not.
func TestSortedRetainsNothing(t *testing.T) {
	v := smalls(3, 1, 2)
	at := []int{1, 2, 0}
	for range 3 {
		if !order.Sorted(v, 1, at, false) || order.Sorted(v, 1, at, true) {
			t.Error("1 2 0")
		}
		at[0], at[2] = 0, 1
		if order.Sorted(v, 1, at, false) || !order.Sorted(v, 1, []int{0, 2, 1}, true) || !order.Sorted(v, 1, at, true) {
			t.Error("0 2 1")
		}
		at[0], at[2] = 1, 0
	}
}

// Vectors are as they were, whatever was asked of them, and the answers are, too.
func TestVectorsAreLeft(t *testing.T) {
	ranks := steps([]int{0, 1, 2}, 12, 3)
	for name, v := range allOf(ranks) {
		numbers, letters, kind := v.Nums(), v.Text(), v.Kind()
		for range 2 {
			held(t, name, v, ranks, 2)
			sorts(t, name, v, 2, graded(ranks, 2, true), true)
		}
		if v.Kind() != kind || !slices.Equal(v.Nums(), numbers) || !slices.Equal(v.Text(), letters) {
			t.Errorf("%s is not as it was", name)
		}
	}
}

// The examples of the chapter

func TestExamples(t *testing.T) {
	v, ok := squeeze.Numbers([]float64{2, 1, 2, 0, 1, 5})
	if !ok || order.Cells(v, 2, 0, 1) != 1 {
		t.Error("cells 0 and 1")
	}
	for _, c := range []struct {
		size int
		at   []int
		down bool
	}{
		{2, []int{2, 1, 0}, false}, {2, []int{0, 1, 2}, true}, {1, []int{3, 1, 4, 0, 2, 5}, false}, {1, []int{5, 0, 2, 1, 4, 3}, true},
	} {
		isSorted(t, "the example", v, c.size, c.at, c.down, true)
		isSorted(t, "the example", v, c.size, c.at, !c.down, false)
	}
	a, b := text("a"), text("b")
	compared(t, a, 0, b, 0, -1)
	without(t, a, 0, v, 0)
	if z, ok := order.Invert([]int{2, 0, 1}); !ok || !slices.Equal(z, []int{1, 2, 0}) {
		t.Error("Invert of 2 0 1:", z, ok)
	}
	if z, ok := order.Invert([]int{0, 0}); ok || len(z) != 0 {
		t.Error("Invert of 0 0:", z, ok)
	}
}
