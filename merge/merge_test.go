package merge_test

import (
	"fmt"
	"math"
	"math/bits"
	"slices"
	"testing"

	"rebus/api"
	"rebus/bitvec"
	"rebus/merge"
	"rebus/order"
	"rebus/radix"
	"rebus/squeeze"
	"rebus/vec"
)

// most is the greatest number of elements, and top the greatest whole number.
const (
	most = 1 << 20
	top  = 1 << 53
)

// numeric lists the kinds of numbers, the least one first.
var numeric = []int{api.Bit, api.Small, api.Int, api.Float}

// ups lists both directions: upwards and downwards.
var ups = []bool{false, true}

// below and above list numbers that are none of elements: less than 0, and more than there
// can be.
var below = []int{math.MinInt, math.MinInt + 1, -1 << 62, -1 << 32, math.MinInt32, -most - 1, -most, -257, -256, -65, -64, -3, -2, -1}

var above = []int{most + 1, most + 2, 2 * most, math.MaxInt32, math.MaxUint32, 1 << 32, 1<<32 + 1, 1 << 60, 1 << 62, 1<<62 + 1, math.MaxInt - 1, math.MaxInt}

// How vectors of each kind are made.

func flags(l ...int) vec.Vec {
	return vec.Bits(bitvec.Pack(list(len(l), func(i int) bool { return l[i] == 1 })))
}

func smalls(l ...int8) vec.Vec { return vec.Smalls(l) }

func ints(l ...int64) vec.Vec {
	v, ok := vec.Ints(l)
	if !ok {
		panic("no integers of at most 2^53")
	}
	return v
}

func floats(l ...float64) vec.Vec {
	v, ok := vec.Floats(l)
	if !ok {
		panic("no numbers")
	}
	return v
}

func text(s string) vec.Vec { return vec.Chars([]rune(s)) }

func boxes(l ...vec.Array) vec.Vec { return vec.Boxes(l) }

func array(v vec.Vec, s ...int) vec.Array { return vec.Array{Shape: s, V: v} }

// made makes a vector of a kind that numbers fit.
func made(l []float64, kind int) vec.Vec {
	switch kind {
	case api.Bit:
		return vec.Bits(bitvec.Pack(list(len(l), func(i int) bool { return l[i] == 1 })))
	case api.Small:
		return vec.Smalls(list(len(l), func(i int) int8 { return int8(l[i]) }))
	case api.Int:
		return ints(list(len(l), func(i int) int64 { return int64(l[i]) })...)
	}
	return floats(l...)
}

// least tells the least kind that numbers fit.
func least(l []float64) int {
	kind := api.Bit
	for _, x := range l {
		switch {
		case x != math.Trunc(x) || math.Abs(x) > top:
			return api.Float
		case x < -128 || x > 127:
			kind = max(kind, api.Int)
		case x != 0 && x != 1 || len(l) > most:
			kind = max(kind, api.Small)
		}
	}
	return kind
}

// kindsOf makes vectors of numbers in all kinds that they fit.
func kindsOf(l []float64) []vec.Vec {
	var z []vec.Vec
	for _, kind := range numeric {
		if kind >= least(l) {
			z = append(z, made(l, kind))
		}
	}
	return z
}

// list makes n elements by a rule.
func list[T any](n int, rule func(i int) T) []T {
	l := make([]T, n)
	for i := range l {
		l[i] = rule(i)
	}
	return l
}

// steps lists n of the elements of a list, the same ones each time.
func steps[T any](l []T, n, seed int) []T {
	x := uint32(seed)
	return list(n, func(int) T {
		x = x*1664525 + 1013904223
		return l[int(x>>8)%len(l)]
	})
}

// mixed lists n numbers of 64 bits, the same ones each time.
func mixed(n int, seed uint64) []uint64 {
	x := seed
	return list(n, func(int) uint64 {
		x += 0x9e3779b97f4a7c15
		z := (x ^ x>>30) * 0xbf58476d1ce4e5b9
		z = (z ^ z>>27) * 0x94d049bb133111eb
		return z ^ z>>31
	})
}

// ascending lists the places from 0 to below n, and descending the other way round.
func ascending(n int) []int { return list(n, func(i int) int { return i }) }

func descending(n int) []int { return list(n, func(i int) int { return n - 1 - i }) }

// few is the beginning of a list, as much of it as one can read.
func few[T any](l []T) []T { return l[:min(len(l), 40)] }

// ladder lists numbers that ascend, each of them greater than the one before it, many of
// them by the least step that there is.
func ladder() []float64 {
	inf := math.Inf(1)
	return []float64{
		-math.MaxFloat64, math.Nextafter(-math.MaxFloat64, 0), -1e300, -1 << 63, -top - 2, -top, -top + 1, -1<<32 - 1, -1 << 32, -1 << 31, -300,
		math.Nextafter(-129, -inf), -129, -128.5, math.Nextafter(-128, -inf), -128, -127, -100, -2, math.Nextafter(-1, -inf), -1, math.Nextafter(-1, 0), -0.5,
		-0x1p-1022, -2 * math.SmallestNonzeroFloat64, -math.SmallestNonzeroFloat64, 0, math.SmallestNonzeroFloat64, 2 * math.SmallestNonzeroFloat64, 0x1p-1022,
		0.1, 0.5, math.Nextafter(1, 0), 1, math.Nextafter(1, inf), 1.5, 2, 100, 126, 127, math.Nextafter(127, inf), 127.5, 128, 255, 256, 257, 2047, 2048,
		1 << 31, 1<<32 - 1, 1 << 32, 1<<32 + 1, top/2 - 0.5, top / 2, top - 1, top, top + 2, 1 << 63, 1e300, math.Nextafter(math.MaxFloat64, 0), math.MaxFloat64,
	}
}

// rungs lists the numbers of the ladder that fit a kind.
func rungs(kind int) []float64 {
	return slices.DeleteFunc(ladder(), func(x float64) bool { return least([]float64{x}) > kind })
}

// alphabet lists runes that ascend: of one to four bytes, and such as are none of
// Unicode's.
func alphabet() []rune {
	return []rune{
		math.MinInt32, math.MinInt32 + 1, -65536, -256, -2, -1, 0, 1, '\t', ' ', '0', '9', 'A', 'Z', 'a', 'b', 'z', 0x7f, 0x80, 0xe9, 0xff, 0x100, 0x17f, 0x7ff, 0x800,
		0x2190, 0x2374, 0xd7ff, 0xd800, 0xdfff, 0xe000, 0xfffd, 0xffff, 0x10000, 0x1f600, 0x10ffff, 0x110000, math.MaxInt32 - 1, math.MaxInt32,
	}
}

// boxed lists vectors of boxes, which have no order.
func boxed() []vec.Vec {
	inner := array(smalls(1, 2), 2)
	return []vec.Vec{
		boxes(), vec.None(api.Nested), boxes(inner), boxes(inner, inner), boxes(array(flags(1)), array(flags(0))), boxes(array(text("b")), array(text("a")), array(text("c"))),
		boxes(vec.Array{}), boxes(array(boxes(inner, inner), 2), array(floats(0.5)), array(flags(), 0), array(ints(300, -top), 1, 2)),
	}
}

// A store is a way to make a vector of ranks: one whose elements have the order that the
// ranks have, which are from 0 to below 3.
type store struct {
	name string
	made func(ranks []int) vec.Vec
}

// numbersBy makes vectors of a kind by numbers that ascend.
func numbersBy(name string, kind int, low, middle, high float64) store {
	return store{name, func(ranks []int) vec.Vec {
		return made(list(len(ranks), func(i int) float64 { return []float64{low, middle, high}[ranks[i]] }), kind)
	}}
}

func runesBy(name string, low, middle, high rune) store {
	return store{name, func(ranks []int) vec.Vec {
		return vec.Chars(list(len(ranks), func(i int) rune { return []rune{low, middle, high}[ranks[i]] }))
	}}
}

// stores lists ways to make vectors of ranks, in all kinds but those of bits, which have
// no third rank, and of boxes, which have no order.
func stores() []store {
	return []store{
		numbersBy("smalls", api.Small, -1, 0, 1), numbersBy("all smalls", api.Small, -128, 1, 127), numbersBy("small ints", api.Int, 0, 1, 2),
		numbersBy("ints", api.Int, -top, -top+1, top), numbersBy("great ints", api.Int, 255, 256, 257), numbersBy("whole floats", api.Float, -3, 0, 4),
		numbersBy("floats", api.Float, -0.5, 0.25, 0.5), numbersBy("near floats", api.Float, 1, math.Nextafter(1, 2), math.Nextafter(1.5, 2)),
		numbersBy("least floats", api.Float, -math.SmallestNonzeroFloat64, 0, math.SmallestNonzeroFloat64),
		numbersBy("great floats", api.Float, -math.MaxFloat64, math.Nextafter(math.MaxFloat64, 0), math.MaxFloat64),
		runesBy("letters", 'a', 'b', 'c'), runesBy("runes", -1, 0xe9, 0x1f600), runesBy("all runes", math.MinInt32, 0, math.MaxInt32),
	}
}

// allOf makes vectors of ranks in all stores that have so many.
func allOf(ranks []int) map[string]vec.Vec {
	z := map[string]vec.Vec{}
	for _, s := range stores() {
		z[s.name] = s.made(ranks)
	}
	if slices.Max(append([]int{0}, ranks...)) < 2 {
		z["bits"] = flags(ranks...)
		z["bits as floats"] = made(list(len(ranks), func(i int) float64 { return float64(ranks[i]) }), api.Float)
	}
	return z
}

// ranking lists all lists of n ranks below m.
func ranking(n, m int) [][]int {
	z := [][]int{{}}
	for range n {
		var longer [][]int
		for _, l := range z {
			for rank := range m {
				longer = append(longer, append(slices.Clone(l), rank))
			}
		}
		z = longer
	}
	return z
}

// placed tells the places from 0 to below n in order: each of them stands behind those
// that are ahead of it, and behind lesser ones that it isn't ahead of.
func placed(n int, ahead func(i, k int) bool) []int {
	z := make([]int, n)
	for i := range n {
		before := 0
		for k := range n {
			if ahead(k, i) || k < i && !ahead(i, k) {
				before++
			}
		}
		z[before] = i
	}
	return z
}

// byRank is an ahead by which the lesser rank comes first.
func byRank(ranks []int) func(i, k int) bool {
	return func(i, k int) bool { return ranks[i] < ranks[k] }
}

// P18.1: Sort

// sorts checks what Sort tells of ranks.
func sorts(t *testing.T, what string, ranks []int) {
	t.Helper()
	if at, want := merge.Sort(len(ranks), byRank(ranks)), placed(len(ranks), byRank(ranks)); !slices.Equal(at, want) {
		t.Errorf("%s: %d ranks %v: %v, not %v", what, len(ranks), few(ranks), few(at), few(want))
	}
}

// Each strict weak order of a few places is one by ranks.
func TestSortOfAFew(t *testing.T) {
	for n := range 7 {
		for _, ranks := range ranking(n, n) {
			sorts(t, "a few", ranks)
		}
	}
	for n := 7; n <= 9; n++ {
		for _, ranks := range ranking(n, 3) {
			sorts(t, "a few of three", ranks)
		}
	}
	for n := 10; n <= 12; n++ {
		for _, ranks := range ranking(n, 2) {
			sorts(t, "a few of two", ranks)
		}
	}
}

// lengths lists numbers of places: all small ones, and powers of two with those next to
// them.
func lengths() []int {
	z := ascending(70)
	for _, n := range []int{100, 127, 128, 129, 192, 255, 256, 257, 511, 512, 513, 600, 1023, 1024, 1025} {
		z = append(z, n)
	}
	return z
}

func TestSortOfLengths(t *testing.T) {
	for _, n := range lengths() {
		sorts(t, "in order", ascending(n))
		sorts(t, "backwards", descending(n))
		sorts(t, "alike", make([]int, n))
		sorts(t, "two ranks, in order", list(n, func(i int) int { return 2 * i / max(n, 1) }))
		sorts(t, "two ranks, backwards", list(n, func(i int) int { return 1 - 2*i/max(n, 1) }))
		sorts(t, "two ranks", steps([]int{0, 1}, n, n))
		sorts(t, "three ranks", steps([]int{-9, 0, 5}, n, n))
		sorts(t, "by turns", list(n, func(i int) int { return i % 2 }))
		sorts(t, "up and down", list(n, func(i int) int { return min(i, n-1-i) }))
		sorts(t, "down and up", list(n, func(i int) int { return max(i, n-1-i) }))
		sorts(t, "many ranks", list(n, func(i int) int { return i * 7919 % 1009 }))
		sorts(t, "the least ones last", list(n, func(i int) int { return (i + 1) % max(n, 1) }))
		sorts(t, "the greatest one first", list(n, func(i int) int { return (i + n - 1) % max(n, 1) }))
	}
}

// One place stands where it doesn't belong, or two have changed places.
func TestSortOfAlmostOrdered(t *testing.T) {
	for _, n := range []int{2, 3, 7, 8, 9, 16, 17} {
		for i := range n {
			for k := range n {
				ranks := ascending(n)
				ranks[i], ranks[k] = ranks[k], ranks[i]
				sorts(t, "two changed", ranks)
				sorts(t, "one moved", slices.Insert(slices.Delete(ascending(n), i, i+1), k, i))
				one := make([]int, n)
				one[i], one[k] = -1, 1
				sorts(t, "alike but two", one)
			}
		}
	}
}

func TestSortOfNoneIsAhead(t *testing.T) {
	for _, n := range slices.Concat(lengths(), []int{most - 1, most}) {
		if at := merge.Sort(n, func(i, k int) bool { return false }); !slices.Equal(at, ascending(n)) {
			t.Errorf("%d places, none is ahead: %v", n, few(at))
		}
	}
}

func TestSortByOrdersOfPlaces(t *testing.T) {
	for _, n := range lengths() {
		if at := merge.Sort(n, func(i, k int) bool { return i < k }); !slices.Equal(at, ascending(n)) {
			t.Errorf("%d places, the lesser one is ahead: %v", n, few(at))
		}
		if at := merge.Sort(n, func(i, k int) bool { return i > k }); !slices.Equal(at, descending(n)) {
			t.Errorf("%d places, the greater one is ahead: %v", n, few(at))
		}
		// By several criteria, one after the other.
		byTwo := func(i, k int) bool { return i%5 > k%5 || i%5 == k%5 && i/10 < k/10 }
		if at, want := merge.Sort(n, byTwo), placed(n, byTwo); !slices.Equal(at, want) {
			t.Errorf("%d places, by two criteria: %v, not %v", n, few(at), few(want))
		}
	}
}

// A number below 0 counts as 0, and ahead is not asked then.
func TestSortOfNone(t *testing.T) {
	for _, n := range append(slices.Clone(below), 0) {
		at := merge.Sort(n, func(i, k int) bool {
			t.Errorf("%d places: ahead is asked of %d and %d", n, i, k)
			return false
		})
		if len(at) != 0 {
			t.Errorf("%d places: %v", n, few(at))
		}
	}
}

// packed tells what placed does, by ranks below 2^31, for many of them.
func packed(ranks []int) []int {
	l := list(len(ranks), func(i int) int { return ranks[i]<<32 + i })
	slices.Sort(l)
	return list(len(l), func(j int) int { return int(uint32(l[j])) })
}

func TestSortOfMany(t *testing.T) {
	noise := mixed(most, 1)
	for what, ranks := range map[string][]int{
		"backwards":   descending(most),
		"a few ranks": list(most, func(i int) int { return int(noise[i] % 5) }),
		"many ranks":  list(most-1, func(i int) int { return int(noise[i] >> 40) }),
	} {
		if at := merge.Sort(len(ranks), byRank(ranks)); !slices.Equal(at, packed(ranks)) {
			t.Errorf("%d places, %s: %v", len(ranks), what, few(at))
		}
	}
}

// A number above 2^20 counts as 2^20.
func TestSortOfTooMany(t *testing.T) {
	want := ascending(most)
	for _, n := range above {
		if at := merge.Sort(n, func(i, k int) bool { return false }); !slices.Equal(at, want) {
			t.Errorf("%d places: %d of them, %v", n, len(at), few(at))
		}
	}
	ranks := list(most, func(i int) int { return i * 7919 % 5 })
	if at := merge.Sort(most+1, byRank(ranks)); !slices.Equal(at, packed(ranks)) {
		t.Errorf("one too many: %d of them, %v", len(at), few(at))
	}
}

// Only places that there are, and two different ones, are held against each other.
func TestSortAsksOfPlaces(t *testing.T) {
	for _, n := range lengths() {
		for seed := range 3 {
			ranks := steps([]int{0, 1, 2, 3}, n, seed)
			merge.Sort(n, func(i, k int) bool {
				if i < 0 || i >= n || k < 0 || k >= n || i == k {
					t.Errorf("of %d places, ahead is asked of %d and %d", n, i, k)
				}
				return ranks[i] < ranks[k]
			})
		}
	}
}

// The places are put in order by few questions: for each of them, no more than its
// number has digits in base 2.
func TestSortAsksSeldom(t *testing.T) {
	for _, n := range lengths() {
		for seed := range 3 {
			asked := 0
			ranks := steps(ascending(n+1), n, seed)
			merge.Sort(n, func(i, k int) bool {
				asked++
				return ranks[i] < ranks[k]
			})
			if asked > n*bits.Len(uint(n)) {
				t.Errorf("%d places: asked %d times", n, asked)
			}
		}
	}
}

// There is no promise for an ahead that is no strict weak order, but that there is an end
// to it; each place is told once then, too.
func TestSortWithoutOrder(t *testing.T) {
	for _, n := range slices.Concat(lengths(), []int{most, most + 1}) {
		noise, next := mixed(1000, uint64(n)), 0
		for what, ahead := range map[string]func(i, k int) bool{
			"all are ahead": func(i, k int) bool { return true },
			"by turns": func(i, k int) bool {
				next++
				return next%2 == 0
			},
			"whatever": func(i, k int) bool {
				next++
				return noise[next%1000]%2 == 0
			},
			"in a circle": func(i, k int) bool { return (k-i+6)%3 == 1 },
			"by sums":     func(i, k int) bool { return (i+k)%3 == 0 },
		} {
			at := merge.Sort(n, ahead)
			if _, each := order.Invert(at); !each || len(at) != min(n, most) {
				t.Errorf("%d places, %s: %v", n, what, few(at))
			}
		}
	}
}

// An ahead that panics, or is none, leaves nothing.
func TestSortOfAheadThatPanics(t *testing.T) {
	for _, n := range []int{2, 3, 64, most, most + 1, math.MaxInt} {
		if at := merge.Sort(n, nil); len(at) != 0 {
			t.Errorf("%d places without an ahead: %v", n, few(at))
		}
		if at := merge.Sort(n, func(i, k int) bool { panic("ahead") }); len(at) != 0 {
			t.Errorf("%d places, ahead panics: %v", n, few(at))
		}
	}
	for _, n := range append(slices.Clone(below), 0) {
		if at := merge.Sort(n, nil); len(at) != 0 {
			t.Errorf("%d places without an ahead: %v", n, few(at))
		}
	}
	// The last question only.
	asked := 0
	count := func(i, k int) bool {
		asked++
		return i > k
	}
	merge.Sort(100, count)
	last := asked
	asked = 0
	at := merge.Sort(100, func(i, k int) bool {
		if asked == last-1 {
			panic("ahead")
		}
		return count(i, k)
	})
	if len(at) != 0 || asked != last-1 {
		t.Errorf("ahead panics in the end: %v, asked %d times of %d", few(at), asked, last)
	}
	sorts(t, "afterwards", []int{3, 1, 2})
}

// A list that is changed changes no other list, and an ahead that sorts places itself
// does not disturb the one that asks it.
func TestSortIsNewMemory(t *testing.T) {
	for _, n := range []int{1, 2, 3, 4, 5, 8, 100} {
		ranks := steps([]int{0, 1, 2}, n, n)
		want := placed(n, byRank(ranks))
		one, other := merge.Sort(n, byRank(ranks)), merge.Sort(n, byRank(ranks))
		for j := range one {
			one[j] = -9
		}
		for j := range one[:cap(one)] {
			one[:cap(one)][j] = -9
		}
		if again := merge.Sort(n, byRank(ranks)); !slices.Equal(other, want) || !slices.Equal(again, want) {
			t.Errorf("%d places: %v and %v, not %v", n, few(other), few(again), few(want))
		}
		inside := merge.Sort(n, func(i, k int) bool {
			at := merge.Sort(2, func(a, b int) bool { return ranks[[]int{k, i}[a]] < ranks[[]int{k, i}[b]] })
			return at[0] == 1
		})
		if !slices.Equal(inside, want) {
			t.Errorf("%d places, an ahead that sorts: %v, not %v", n, few(inside), few(want))
		}
	}
}

// P18.2: Cells, Grade

// cells tells which of two cells is the greater one: the first ranks that differ tell.
func cells(ranks []int, size, i, k int) int {
	return slices.Compare(ranks[i*size:(i+1)*size], ranks[k*size:(k+1)*size])
}

// graded tells the list that is sorted, of a vector of ranks.
func graded(ranks []int, size int, down bool) []int {
	return placed(len(ranks)/size, func(i, k int) bool {
		if down {
			return cells(ranks, size, i, k) > 0
		}
		return cells(ranks, size, i, k) < 0
	})
}

// grades checks that Cells and Grade tell a list, if it is Sorted.
func grades(t *testing.T, what string, v vec.Vec, size int, down bool, want []int) {
	t.Helper()
	one, ok := merge.Cells(v, size, down)
	if !ok || !slices.Equal(one, want) {
		t.Errorf("%s: Cells of kind %d, size %d, down %t: %v, %t, not %v", what, v.Kind(), size, down, few(one), ok, few(want))
	}
	other, ok := merge.Grade(v, size, down)
	if !ok || !slices.Equal(other, want) {
		t.Errorf("%s: Grade of kind %d, size %d, down %t: %v, %t, not %v", what, v.Kind(), size, down, few(other), ok, few(want))
	}
	if !order.Sorted(v, size, want, down) {
		t.Errorf("%s: of kind %d, size %d, down %t, %v is not sorted", what, v.Kind(), size, down, few(want))
	}
}

// gradesOf checks Cells and Grade of ranks in all stores, in both directions.
func gradesOf(t *testing.T, what string, ranks []int, size int) {
	t.Helper()
	for name, v := range allOf(ranks) {
		for _, down := range ups {
			grades(t, what+" "+name, v, size, down, graded(ranks, size, down))
		}
	}
}

// isSorted checks that Cells and Grade tell one list, and that it is Sorted.
func isSorted(t *testing.T, what string, v vec.Vec, size int, down bool) {
	t.Helper()
	one, ok := merge.Cells(v, size, down)
	other, too := merge.Grade(v, size, down)
	if !ok || !too || !slices.Equal(one, other) || !order.Sorted(v, size, one, down) {
		t.Errorf("%s: of %d elements of kind %d, size %d, down %t, %v, %t and %v, %t", what, v.Len(), v.Kind(), size, down, few(one), ok, few(other), too)
	}
}

// ungraded checks that Cells and Grade tell nothing.
func ungraded(t *testing.T, what string, v vec.Vec, size int) {
	t.Helper()
	for _, down := range ups {
		if at, ok := merge.Cells(v, size, down); ok || len(at) != 0 {
			t.Errorf("%s: Cells of %d elements of kind %d, size %d, down %t: %v, %t", what, v.Len(), v.Kind(), size, down, few(at), ok)
		}
		if at, ok := merge.Grade(v, size, down); ok || len(at) != 0 {
			t.Errorf("%s: Grade of %d elements of kind %d, size %d, down %t: %v, %t", what, v.Len(), v.Kind(), size, down, few(at), ok)
		}
	}
}

// All lists of a few ranks, in cells of every size that they have.
func TestGradeOfAFew(t *testing.T) {
	for n := range 5 {
		for _, ranks := range ranking(n, 3) {
			for size := 1; size <= n+1; size++ {
				gradesOf(t, "a few", ranks, size)
			}
		}
	}
	for n := 5; n <= 6; n++ {
		for _, ranks := range ranking(n, 2) {
			for size := 1; size <= n+1; size++ {
				gradesOf(t, "a few", ranks, size)
			}
		}
	}
}

// The size divides the length, or leaves some elements that are in no cell.
func TestGradeOfLengths(t *testing.T) {
	for _, n := range []int{7, 8, 9, 31, 63, 64, 65, 66, 128, 130, 200} {
		for _, size := range []int{1, 2, 3, 4, 5, 7, 63, 64, 65, 100, 199, 200, 201} {
			gradesOf(t, "two ranks", steps([]int{0, 1}, n, n+size), size)
			gradesOf(t, "three ranks", steps([]int{0, 1, 2}, n, n-size), size)
			gradesOf(t, "few great ones", steps([]int{0, 0, 0, 0, 0, 0, 1}, n, n), size)
		}
	}
}

// What is left over is in no cell, however little or great it is.
func TestGradeLeavesTheRest(t *testing.T) {
	for size := 2; size <= 5; size++ {
		for left := 1; left < size; left++ {
			ranks := steps([]int{1}, 4*size, 0)
			for _, rank := range []int{0, 1, 2} {
				gradesOf(t, "left over", slices.Concat(ranks, slices.Repeat([]int{rank}, left)), size)
			}
		}
	}
}

func TestGradeOfNoCells(t *testing.T) {
	for _, size := range slices.Concat([]int{1, 2, 3, 64, most}, above) {
		for _, v := range []vec.Vec{{}, flags(), smalls(), ints(), floats(), text(""), vec.None(api.Number), vec.None(api.Letter), vec.Bits(bitvec.Bits{})} {
			for _, down := range ups {
				grades(t, "no elements", v, size, down, nil)
			}
		}
	}
	for _, size := range slices.Concat([]int{6, 7, 64, most}, above) {
		gradesOf(t, "less than one cell", []int{1, 0, 1, 1, 0}, size)
		for _, v := range slices.Concat(kindsOf(rungs(api.Small)[:5]), []vec.Vec{vec.Chars(alphabet()[:5])}) {
			for _, down := range ups {
				grades(t, "less than one cell", v, size, down, nil)
			}
		}
	}
}

func TestGradeOfOneCell(t *testing.T) {
	for size := 1; size <= 5; size++ {
		for left := range size {
			gradesOf(t, "one cell", steps([]int{0, 1}, size+left, size), size)
		}
	}
	for _, x := range ladder() {
		for _, v := range kindsOf([]float64{x}) {
			for _, down := range ups {
				grades(t, "one number", v, 1, down, []int{0})
			}
		}
	}
	for _, r := range alphabet() {
		for _, down := range ups {
			grades(t, "one character", vec.Chars([]rune{r}), 1, down, []int{0})
		}
	}
}

// A size of 0 and less is none, for all kinds.
func TestGradeWithoutASize(t *testing.T) {
	vectors := []vec.Vec{{}, flags(), smalls(), ints(), floats(), text(""), flags(1, 0, 1), smalls(2, 0, 1), ints(300, 0, 1), floats(0.5, 0, 1), text("cab")}
	for _, size := range append(slices.Clone(below), 0) {
		for _, v := range append(vectors, boxed()...) {
			ungraded(t, "no size", v, size)
		}
	}
}

func TestGradeOfBoxes(t *testing.T) {
	for _, v := range boxed() {
		for _, size := range slices.Concat([]int{0, 1, 2, 3, 9}, below, above) {
			ungraded(t, "boxes", v, size)
		}
	}
}

// Cells that differ from each other in one element, or in one and all that come after
// it, the other way round.
func TestGradeOfCellsThatDiffer(t *testing.T) {
	for _, size := range []int{1, 2, 3, 5, 8, 63, 64, 65, 130} {
		low, high := slices.Repeat([]int{0}, size), slices.Repeat([]int{1}, size)
		for _, e := range []int{0, size / 2, size - 1} {
			lesser := slices.Concat(slices.Repeat([]int{1}, e), []int{0}, high[e+1:])
			greater := slices.Concat(slices.Repeat([]int{1}, e), []int{1}, low[e+1:])
			gradesOf(t, fmt.Sprintf("cells that differ in element %d", e), slices.Concat(greater, lesser, high, greater, lesser, low), size)
		}
	}
}

// Alike cells stay as they stand, in both directions.
func TestGradeOfAlikeCells(t *testing.T) {
	for size := 1; size <= 4; size++ {
		for _, n := range []int{2, 3, 4, 5, 17, 64, 65} {
			for _, one := range [][]int{{0, 0, 0, 0}, {1, 1, 1, 1}, {0, 1, 0, 1}, {1, 0, 0, 1}} {
				ranks := slices.Repeat(one[:size], n)
				for name, v := range allOf(ranks) {
					for _, down := range ups {
						grades(t, "alike "+name, v, size, down, ascending(n))
					}
				}
			}
		}
	}
}

// In order already, and backwards.
func TestGradeOfOrderedNumbers(t *testing.T) {
	for _, kind := range numeric {
		l := rungs(kind)
		back := slices.Clone(l)
		slices.Reverse(back)
		for _, given := range [][]float64{l, back} {
			for _, v := range kindsOf(given) {
				grades(t, "numbers", v, 1, false, placesIf(given[0] == l[0], len(l)))
				grades(t, "numbers", v, 1, true, placesIf(given[0] != l[0], len(l)))
			}
		}
	}
	runes := alphabet()
	grades(t, "characters", vec.Chars(runes), 1, false, ascending(len(runes)))
	grades(t, "characters", vec.Chars(runes), 1, true, descending(len(runes)))
	slices.Reverse(runes)
	grades(t, "characters", vec.Chars(runes), 1, false, descending(len(runes)))
	grades(t, "characters", vec.Chars(runes), 1, true, ascending(len(runes)))
}

// placesIf lists n places upwards, or else downwards.
func placesIf(upwards bool, n int) []int {
	if upwards {
		return ascending(n)
	}
	return descending(n)
}

// ranked tells the ranks of elements in a list that ascends.
func ranked[T comparable](l, ladder []T) []int {
	return list(len(l), func(i int) int { return slices.Index(ladder, l[i]) })
}

// The least and the greatest numbers and characters, mixed with equal ones, in cells of
// every size, in all kinds that hold the numbers.
func TestGradeOfExtremes(t *testing.T) {
	for _, size := range []int{1, 2, 3, 7} {
		for _, kind := range numeric {
			l := steps(rungs(kind), 130*size/2+1, size)
			ranks := ranked(l, ladder())
			for _, v := range kindsOf(l) {
				for _, down := range ups {
					grades(t, "numbers", v, size, down, graded(ranks, size, down))
				}
			}
		}
		runes := steps(alphabet(), 130*size/2+1, size)
		ranks := ranked(runes, alphabet())
		for _, down := range ups {
			grades(t, "characters", vec.Chars(runes), size, down, graded(ranks, size, down))
		}
	}
}

// A zero with a sign is kept as 0, and so it doesn't come ahead of 0.
func TestGradeOfZeros(t *testing.T) {
	zero := math.Copysign(0, -1)
	for _, down := range ups {
		grades(t, "zeros", floats(0, zero, 0, zero), 1, down, []int{0, 1, 2, 3})
		grades(t, "zeros", floats(0, zero, zero, 0), 2, down, []int{0, 1})
	}
	grades(t, "zeros", floats(zero, 1, 0, -1), 1, false, []int{3, 0, 2, 1})
}

// The same numbers have the same lists in all kinds.
func TestGradeInAllKinds(t *testing.T) {
	for _, l := range [][]float64{{1, 0, 1, 1, 0, 0}, {30, -5, 30, 7}, steps([]float64{0, 1}, 200, 5), steps([]float64{-128, -1, 0, 127}, 200, 6), steps([]float64{-top, -1, 0, 300, top}, 200, 7)} {
		for size := 1; size <= 5; size++ {
			for _, down := range ups {
				want, _ := merge.Cells(floats(l...), size, down)
				for _, v := range kindsOf(l) {
					grades(t, "numbers", v, size, down, want)
				}
			}
		}
	}
}

// Characters go by their code points, and not by what they mean.
func TestGradeOfCharacters(t *testing.T) {
	grades(t, "characters", text("bBaA b"), 1, false, []int{4, 3, 1, 2, 0, 5})
	grades(t, "characters", text("bBaA b"), 1, true, []int{0, 5, 2, 1, 3, 4})
	grades(t, "words", text("catcabcabbat"), 3, false, []int{3, 1, 2, 0})
	grades(t, "words", text("catcabcabbat"), 3, true, []int{0, 1, 2, 3})
	grades(t, "characters", vec.Chars([]rune{0x1f600, 0xe9, 'z', 0x2374, -1}), 1, false, []int{4, 2, 1, 3, 0})
}

// manyOf makes vectors of many elements of each kind, some of them with a few more than
// 2^20; but of bits, there are no more than that.
func manyOf() map[string]vec.Vec {
	noise := mixed(most+3, 3)
	return map[string]vec.Vec{
		"bits":          vec.Bits(bitvec.Pack(list(most, func(i int) bool { return noise[i]&1 == 1 }))),
		"smalls":        smalls(list(1<<17, func(i int) int8 { return int8(noise[i]) })...),
		"ints":          ints(list(1<<17-1, func(i int) int64 { return int64(noise[i])>>11 + int64(noise[i]&1) })...),
		"floats":        floats(list(most+3, func(i int) float64 { return float64(int64(noise[i])>>50) / 4 })...),
		"whole floats":  floats(list(1<<17+1, func(i int) float64 { return float64(int64(noise[i]) >> 11) })...),
		"characters":    vec.Chars(list(most+3, func(i int) rune { return rune(uint32(noise[i])) })),
		"few different": vec.Chars(list(1<<17, func(i int) rune { return rune('a' + noise[i]%3) })),
		"backwards":     floats(list(1<<17, func(i int) float64 { return float64(most-i) + 0.5 })...),
	}
}

func TestGradeOfMany(t *testing.T) {
	for what, v := range manyOf() {
		isSorted(t, what, v, 1, v.Kind() != api.Float)
		for _, size := range []int{5, 64, most / 2, most} {
			isSorted(t, what, v, size, size == 64)
		}
	}
}

// vectors lists vectors of each kind that has an order, and what numbers they keep.
func vectors() map[string]vec.Vec {
	return map[string]vec.Vec{
		"bits": flags(1, 0, 0, 1, 0), "smalls": smalls(3, -128, 127, 0, 3), "ints": ints(300, -top, top, 300, 0), "floats": floats(0.5, -1, 0.5, 1e300, -1e300),
		"whole floats": floats(3, 1, 2, 1, 3), "text": text("abbac"), "runes": vec.Chars([]rune{0x1f600, -1, 0xe9, -1, 0}),
	}
}

// A list that is changed changes neither the vector nor the next list.
func TestGradeIsNewMemory(t *testing.T) {
	for what, v := range vectors() {
		for size := 1; size <= 2; size++ {
			for _, down := range ups {
				for name, tell := range map[string]func(v vec.Vec, size int, down bool) ([]int, bool){"Cells": merge.Cells, "Grade": merge.Grade} {
					nums, runes, kind := v.Nums(), v.Text(), v.Kind()
					at, _ := tell(v, size, down)
					before := slices.Clone(at)
					for j := range at[:cap(at)] {
						at[:cap(at)][j] = -9
					}
					if again, ok := tell(v, size, down); !ok || !slices.Equal(again, before) {
						t.Errorf("%s, %s, size %d, down %t: %v, then %v", what, name, size, down, before, again)
					}
					if !slices.Equal(v.Nums(), nums) || !slices.Equal(v.Text(), runes) || v.Kind() != kind {
						t.Errorf("%s, %s, size %d, down %t: the vector has changed", what, name, size, down)
					}
				}
			}
		}
	}
}

// P18.3: Ordered

// ordersNumbers checks what Ordered tells of numbers, in all kinds that they fit.
func ordersNumbers(t *testing.T, what string, l []float64) {
	t.Helper()
	for _, v := range kindsOf(l) {
		for _, down := range ups {
			want := slices.Sorted(slices.Values(l))
			if down {
				slices.Reverse(want)
			}
			z, ok := merge.Ordered(v, down)
			if !ok || z.Class() != api.Number || !slices.Equal(z.Nums(), want) {
				t.Errorf("%s: Ordered of %v of kind %d, down %t: %v, %t, not %v", what, few(l), v.Kind(), down, few(z.Nums()), ok, few(want))
			}
			if z.Kind() != least(l) || !squeeze.Tight(z) {
				t.Errorf("%s: Ordered of %v of kind %d, down %t, is of kind %d", what, few(l), v.Kind(), down, z.Kind())
			}
			if !slices.Equal(v.Nums(), l) {
				t.Errorf("%s: Ordered has changed %v", what, few(l))
			}
		}
	}
}

// ordersRunes checks what Ordered tells of characters.
func ordersRunes(t *testing.T, what string, l []rune) {
	t.Helper()
	v := vec.Chars(l)
	for _, down := range ups {
		want := slices.Sorted(slices.Values(l))
		if down {
			slices.Reverse(want)
		}
		z, ok := merge.Ordered(v, down)
		if !ok || z.Kind() != api.Char || !slices.Equal(z.Text(), want) {
			t.Errorf("%s: Ordered of %v, down %t: %v of kind %d, %t, not %v", what, few(l), down, few(z.Text()), z.Kind(), ok, few(want))
		}
		if !slices.Equal(v.Text(), l) {
			t.Errorf("%s: Ordered has changed %v", what, few(l))
		}
	}
}

func TestOrderedOfAFew(t *testing.T) {
	for n := range 6 {
		for _, ranks := range ranking(n, 3) {
			for _, l := range [][]float64{{-1, 0, 1}, {0, 1, 2}, {-128, 1, 127}, {255, 256, 257}, {-top, -top + 1, top}, {-0.5, 0, 1}, {1, 1.5, 300}, {-math.MaxFloat64, 0, math.SmallestNonzeroFloat64}} {
				ordersNumbers(t, "a few", list(n, func(i int) float64 { return l[ranks[i]] }))
			}
			for _, l := range [][]rune{{'a', 'b', 'c'}, {-1, 0xe9, 0x1f600}, {math.MinInt32, 0, math.MaxInt32}} {
				ordersRunes(t, "a few", list(n, func(i int) rune { return l[ranks[i]] }))
			}
		}
	}
	for n := range 9 {
		for _, ranks := range ranking(n, 2) {
			ordersNumbers(t, "a few bits", list(n, func(i int) float64 { return float64(ranks[i]) }))
		}
	}
}

func TestOrderedOfNoneAndOne(t *testing.T) {
	for _, v := range []vec.Vec{flags(), smalls(), ints(), floats(), vec.None(api.Number), vec.Bits(bitvec.Bits{}), {}} {
		for _, down := range ups {
			if z, ok := merge.Ordered(v, down); !ok || z.Kind() != api.Bit || z.Len() != 0 {
				t.Errorf("no numbers of kind %d, down %t: %d of kind %d, %t", v.Kind(), down, z.Len(), z.Kind(), ok)
			}
		}
	}
	for _, v := range []vec.Vec{text(""), vec.None(api.Letter)} {
		for _, down := range ups {
			if z, ok := merge.Ordered(v, down); !ok || z.Kind() != api.Char || z.Len() != 0 {
				t.Errorf("no characters, down %t: %d of kind %d, %t", down, z.Len(), z.Kind(), ok)
			}
		}
	}
	for _, x := range ladder() {
		ordersNumbers(t, "one number", []float64{x})
	}
	for _, r := range alphabet() {
		ordersRunes(t, "one character", []rune{r})
	}
}

func TestOrderedOfBoxes(t *testing.T) {
	for _, v := range boxed() {
		for _, down := range ups {
			if z, ok := merge.Ordered(v, down); ok || z.Kind() != 0 || z.Len() != 0 {
				t.Errorf("%d boxes, down %t: %d elements of kind %d, %t", v.Len(), down, z.Len(), z.Kind(), ok)
			}
		}
	}
}

// In order already, backwards, and mixed with equal ones.
func TestOrderedOfExtremes(t *testing.T) {
	for _, kind := range numeric {
		l := rungs(kind)
		back := slices.Clone(l)
		slices.Reverse(back)
		for _, numbers := range [][]float64{l, back, slices.Concat(l, l), slices.Concat(back, l), steps(l, 300, 1), steps(l, 1000, 2)} {
			ordersNumbers(t, "numbers", numbers)
		}
	}
	l := alphabet()
	back := slices.Clone(l)
	slices.Reverse(back)
	for _, runes := range [][]rune{l, back, slices.Concat(l, l), slices.Concat(back, l), steps(l, 300, 1), []rune("abracadabra")} {
		ordersRunes(t, "characters", runes)
	}
	for _, n := range []int{2, 3, 64, 65, 1000} {
		for _, x := range []float64{0, 1, -1, 127, -128, 300, top, 0.5} {
			ordersNumbers(t, "alike", slices.Repeat([]float64{x}, n))
		}
		ordersRunes(t, "alike", slices.Repeat([]rune{'x'}, n))
	}
}

func TestOrderedOfMany(t *testing.T) {
	for what, v := range manyOf() {
		if v.Class() == api.Letter {
			ordersRunes(t, what, v.Text())
			continue
		}
		l := v.Nums()
		want := slices.Sorted(slices.Values(l))
		z, ok := merge.Ordered(v, false)
		if !ok || !slices.Equal(z.Nums(), want) || !squeeze.Tight(z) {
			t.Errorf("%s: %d elements of kind %d, %t", what, z.Len(), z.Kind(), ok)
		}
		slices.Reverse(want)
		z, ok = merge.Ordered(v, true)
		if !ok || !slices.Equal(z.Nums(), want) || !squeeze.Tight(z) {
			t.Errorf("%s, down: %d elements of kind %d, %t", what, z.Len(), z.Kind(), ok)
		}
	}
}

// The elements are those at the places of Grade.
func TestOrderedIsByGrade(t *testing.T) {
	for what, v := range vectors() {
		for _, down := range ups {
			at, _ := merge.Grade(v, 1, down)
			z, ok := merge.Ordered(v, down)
			if !ok || z.Len() != len(at) || z.Class() != v.Class() {
				t.Errorf("%s, down %t: %d elements of kind %d, %t", what, down, z.Len(), z.Kind(), ok)
			}
			for j, place := range at {
				if z.Num(j) != v.Num(place) || z.Char(j) != v.Char(place) {
					t.Errorf("%s, down %t: element %d is not the one at %d", what, down, j, place)
				}
			}
		}
	}
}

// What Ordered tells shares nothing with the vector it was given.
func TestOrderedIsNewMemory(t *testing.T) {
	for what, v := range vectors() {
		nums, runes, kind := v.Nums(), v.Text(), v.Kind()
		for _, down := range ups {
			one, _ := merge.Ordered(v, down)
			other, _ := merge.Ordered(v, !down)
			again, _ := merge.Ordered(one, down)
			if !slices.Equal(again.Nums(), one.Nums()) || !slices.Equal(again.Text(), one.Text()) || again.Kind() != one.Kind() {
				t.Errorf("%s, down %t: ordered again, it is another one", what, down)
			}
			l, m := one.Nums(), other.Nums()
			slices.Reverse(m)
			if !slices.Equal(l, m) {
				t.Errorf("%s: upwards and downwards are %v, %v", what, l, m)
			}
			if !slices.Equal(v.Nums(), nums) || !slices.Equal(v.Text(), runes) || v.Kind() != kind {
				t.Errorf("%s, down %t: the vector has changed", what, down)
			}
		}
	}
}

// P18.4: the property

// By digits, by holding elements against each other, and by either, there is one list.
func TestDigitsAndComparisonsAgree(t *testing.T) {
	given := vectors()
	for n, x := range map[string][]float64{"bits": {0, 1}, "smalls": rungs(api.Small), "ints": rungs(api.Int)} {
		for i, v := range kindsOf(steps(x, 500, 4)) {
			given[fmt.Sprintf("many %s %d", n, i)] = v
		}
	}
	given["many runes"] = vec.Chars(steps(alphabet(), 500, 4))
	for what, v := range given {
		for _, down := range ups {
			compared, ok := merge.Cells(v, 1, down)
			either, too := merge.Grade(v, 1, down)
			if !ok || !too || !slices.Equal(compared, either) {
				t.Errorf("%s, down %t: %v, %t and %v, %t", what, down, few(compared), ok, few(either), too)
			}
			digits, ok := radix.Grade(v, down)
			if ok == (v.Kind() == api.Float) || ok && !slices.Equal(digits, compared) {
				t.Errorf("%s, down %t: by digits, %v, %t, not %v", what, down, few(digits), ok, few(compared))
			}
		}
	}
}

// Whole numbers that are kept as floats have no digits, but the same list.
func TestFloatsAgreeWithDigits(t *testing.T) {
	for _, kind := range []int{api.Bit, api.Small, api.Int} {
		l := steps(rungs(kind), 700, kind)
		for _, down := range ups {
			digits, ok := radix.Grade(made(l, kind), down)
			if !ok {
				t.Fatalf("kind %d has no digits", kind)
			}
			grades(t, "floats", floats(l...), 1, down, digits)
		}
	}
}

// By Sort, the comparisons of order make the same list.
func TestSortAgreesWithDigits(t *testing.T) {
	for what, v := range vectors() {
		for _, down := range ups {
			want, _ := merge.Grade(v, 1, down)
			at := merge.Sort(v.Len(), func(i, k int) bool {
				c, _ := order.Compare(v, i, v, k)
				return c < 0 && !down || c > 0 && down
			})
			if !slices.Equal(at, want) {
				t.Errorf("%s, down %t: %v, not %v", what, down, at, want)
			}
		}
	}
}

// The chapter's examples.

func TestExamples(t *testing.T) {
	if at := merge.Sort(5, func(i, k int) bool { return i%2 < k%2 }); !slices.Equal(at, []int{0, 2, 4, 1, 3}) {
		t.Error("by remainders:", at)
	}
	if at := merge.Sort(-1, func(i, k int) bool { return i < k }); len(at) != 0 {
		t.Error("none:", at)
	}
	if z, ok := merge.Ordered(text("cab"), true); !ok || string(z.Text()) != "cba" {
		t.Error("cab:", string(z.Text()), ok)
	}
	if z, ok := merge.Ordered(floats(0.5, 3, -1), false); !ok || !slices.Equal(z.Nums(), []float64{-1, 0.5, 3}) || z.Kind() != api.Float {
		t.Error("0.5 3 -1:", z.Nums(), ok)
	}
	if at, ok := merge.Grade(boxes(array(text("x")), array(text("y"))), 1, false); ok || len(at) != 0 {
		t.Error("boxes:", at, ok)
	}
}
