package relate_test

import (
	"cmp"
	"fmt"
	"math"
	"math/big"
	"slices"
	"testing"
	"unicode/utf8"

	"rebus/api"
	"rebus/arith"
	"rebus/bitvec"
	"rebus/relate"
	"rebus/vec"
)

// most is the greatest number of booleans, top the greatest whole number, tiny
// the least number above 0, and huge the greatest one.
const (
	most = 1 << 20
	top  = 1 << 53
	tiny = math.SmallestNonzeroFloat64
	huge = math.MaxFloat64
)

// kinds lists the kinds of numbers, the least one first.
var kinds = []int{api.Bit, api.Small, api.Int, api.Float}

// relations lists all relations.
var relations = []int{relate.Less, relate.NotMore, relate.Equal, relate.NotLess, relate.More, relate.Unequal}

// ordering lists the relations that ask for an order.
var ordering = []int{relate.Less, relate.NotMore, relate.NotLess, relate.More}

// pairs lists the relations of which just one holds.
var pairs = [][2]int{{relate.Less, relate.NotLess}, {relate.NotMore, relate.More}, {relate.Equal, relate.Unequal}}

// strange lists numbers that are no relation's.
var strange = []int{
	0, 1, 2, 3, 4, 5, 6, 7, 8, 9, 10, 17, 18, 21, 22, 23, 24, -1, -11, -16, 27, 64 + 11, 128 + 13, 256 + 11, 256 + 16,
	1<<16 + 13, 1<<32 + 11, 1<<32 + 16, 1 << 62, math.MaxInt, math.MinInt, math.MinInt + 11, math.MinInt + 16,
}

// edges lists, for each kind, numbers that fit it, but none that is less.
func edges() map[int][]float64 {
	return map[int][]float64{
		api.Bit:   {0, 1},
		api.Small: {-1, 2, -2, 3, 63, 64, -64, 126, 127, -127, -128},
		api.Int: {
			128, -129, 255, 256, 257, -255, -256, -300, 65535, 65536, 65537, 1<<31 - 1, 1 << 31, -1 << 31, -1<<31 - 1,
			1 << 32, 1<<32 + 1, -1 << 32, top / 2, top, top - 1, -top, 1 - top,
		},
		api.Float: {
			tiny, -tiny, 2 * tiny, math.Nextafter(1, 0), math.Nextafter(1, 2), -math.Nextafter(1, 0), -math.Nextafter(1, 2),
			0.5, -0.5, 0.25, 1.5, -1.5, 0.1, 0.3, 0.1 + 0.2 + tiny, 0.30000000000000004, 1.0 / 3, 126.5, 127.5, -128.5,
			math.Nextafter(128, 0), math.Nextafter(256, 300), 0x1p52 - 0.5, top + 2, -top - 2, 1 << 54, 1 << 62, 1 << 63, -1 << 63, 1 << 64,
			1e100, -1e100, 0x1p-1022, 0x1p-1022 - tiny, 0x1p1023, math.Nextafter(huge, 0), huge, -huge, 1e-300, -1e-300, math.Pi,
		},
	}
}

// numbers lists all edges.
func numbers() []float64 {
	var l []float64
	for _, kind := range kinds {
		l = append(l, edges()[kind]...)
	}
	return l
}

// strangers lists what is no number.
func strangers() []float64 {
	return []float64{
		math.Inf(1), math.Inf(-1), math.NaN(), math.Float64frombits(0x7ff0000000000001),
		math.Float64frombits(0xffffffffffffffff), math.Copysign(0, -1),
	}
}

// runes lists characters, among them such as are none of Unicode's.
func runes() []rune {
	return []rune{
		0, 1, 'a', 'b', 'A', 'B', ' ', '0', '1', 0x61 + 1<<8, 0x61 + 1<<16, 0x61 - 1<<31, 0x7f, 0x80, 0xff, 0x100, 0xe9, 0x2260, 0xd800, 0xdfff,
		0xfffd, 0xffff, 0x10000, utf8.MaxRune, utf8.MaxRune + 1, -1, -2, math.MaxInt32, math.MinInt32,
	}
}

// alike tells whether two float64s are the same, in the sign of a zero too.
func alike(x, y float64) bool { return math.Float64bits(x) == math.Float64bits(y) }

// model is whether a relation holds of two things, of which the first one is less
// (-1), the same (0) or greater (1).
func model(f, order int) bool {
	switch f {
	case relate.Less:
		return order == -1
	case relate.NotMore:
		return order == -1 || order == 0
	case relate.Equal:
		return order == 0
	case relate.NotLess:
		return order == 0 || order == 1
	case relate.More:
		return order == 1
	}
	return f == relate.Unequal && (order == -1 || order == 1)
}

// ordered tells how two numbers stand, by fractions.
func ordered(a, b float64) int {
	return new(big.Rat).SetFloat64(a).Cmp(new(big.Rat).SetFloat64(b))
}

// of is the element i of a list, or its only one.
func of[T any](l []T, i int) T { return l[i%max(len(l), 1)] }

// models is what Apply must tell of two lists whose lengths go together.
func models[T any](a, b []T, rule func(x, y T) bool) []bool {
	n := max(len(a), len(b))
	if len(a) == 0 || len(b) == 0 {
		n = 0
	}
	return list(n, func(i int) bool { return rule(of(a, i), of(b, i)) })
}

// ofNumbers is what Apply must tell of two lists of numbers. Those of One are held
// against fractions.
func ofNumbers(f int, a, b []float64) []bool {
	return models(a, b, func(x, y float64) bool { return model(f, cmp.Compare(x, y)) })
}

// ofText is what Apply must tell of two lists of characters.
func ofText(f int, a, b []rune) []bool {
	return models(a, b, func(x, y rune) bool { return (x == y) == (f == relate.Equal) })
}

// least tells the least kind that numbers fit.
func least(l []float64) int {
	kind := api.Bit
	for _, x := range l {
		switch {
		case x != math.Trunc(x) || math.Abs(x) > top:
			return api.Float
		case x < -128 || x > 127:
			kind = max(kind, api.Int)
		case x != 0 && x != 1 || len(l) > most:
			kind = max(kind, api.Small)
		}
	}
	return kind
}

// made makes a vector of a kind that numbers fit.
func made(t *testing.T, l []float64, kind int) vec.Vec {
	t.Helper()
	ok := true
	var v vec.Vec
	switch kind {
	case api.Bit:
		v = vec.Bits(bitvec.Pack(list(len(l), func(i int) bool { return l[i] == 1 })))
	case api.Small:
		v = vec.Smalls(list(len(l), func(i int) int8 { return int8(l[i]) }))
	case api.Int:
		v, ok = vec.Ints(list(len(l), func(i int) int64 { return int64(l[i]) }))
	default:
		v, ok = vec.Floats(l)
	}
	if !ok || v.Kind() != kind || !slices.EqualFunc(v.Nums(), l, alike) {
		t.Fatalf("the test can't make kind %d of %g", kind, l)
	}
	return v
}

// list makes n elements by a rule.
func list[T any](n int, rule func(i int) T) []T {
	l := make([]T, n)
	for i := range l {
		l[i] = rule(i)
	}
	return l
}

// told tells a vector, for a report.
func told(v vec.Vec) string {
	switch {
	case v.Len() > 12:
		return fmt.Sprintf("%d elements of kind %d", v.Len(), v.Kind())
	case v.Class() == api.Letter:
		return fmt.Sprintf("%x of kind %d", v.Text(), v.Kind())
	case v.Class() == api.Nested:
		return fmt.Sprintf("%v of kind %d", v, v.Kind())
	}
	return fmt.Sprintf("%g of kind %d", v.Nums(), v.Kind())
}

// name tells a relation and what it is asked of, for a report.
func name(f int, a, b vec.Vec) string {
	return fmt.Sprintf("relation %d of %s and %s", f, told(a), told(b))
}

// wanted holds a result of Apply against booleans.
func wanted(t *testing.T, f int, a, b, v vec.Vec, err api.Errno, want []bool) {
	t.Helper()
	if err != api.OK {
		t.Errorf("%s is error %d", name(f, a, b), err)
		return
	}
	p, ok := v.Packed()
	if !ok || !p.Tidy() || v.Kind() != api.Bit || v.Class() != api.Number {
		t.Errorf("%s is of kind %d and class %d, or not tidy", name(f, a, b), v.Kind(), v.Class())
		return
	}
	got := p.Unpack()
	if v.Len() != len(want) || len(got) != len(want) {
		t.Errorf("%s has %d elements, not %d", name(f, a, b), v.Len(), len(want))
		return
	}
	for i, x := range want {
		if got[i] != x {
			t.Errorf("%s is %v at %d, not %v", name(f, a, b), got[i], i, x)
			return
		}
	}
}

// refused checks an error of Apply, and that there is nothing beside it.
func refused(t *testing.T, f int, a, b vec.Vec, want api.Errno) {
	t.Helper()
	v, err := relate.Apply(f, a, b)
	if err != want || v.Kind() != 0 || v.Class() != api.Number || v.Len() != 0 {
		t.Errorf("%s is error %d with %d elements of kind %d, not error %d alone", name(f, a, b), err, v.Len(), v.Kind(), want)
	}
}

// held holds Apply of two vectors against what is wanted.
func held(t *testing.T, f int, a, b vec.Vec, want []bool) {
	t.Helper()
	v, err := relate.Apply(f, a, b)
	wanted(t, f, a, b, v, err, want)
}

// applied checks what Apply tells of two lists of numbers, in each pair of kinds
// that hold them, and that it leaves them.
func applied(t *testing.T, f int, l, m []float64, want []bool) {
	t.Helper()
	for first := least(l); first <= api.Float; first++ {
		for second := least(m); second <= api.Float; second++ {
			a, b := made(t, l, first), made(t, m, second)
			held(t, f, a, b, want)
			if a.Kind() != first || b.Kind() != second || !slices.EqualFunc(a.Nums(), l, alike) || !slices.EqualFunc(b.Nums(), m, alike) {
				t.Errorf("%g and %g became %s and %s", l, m, told(a), told(b))
			}
		}
	}
}

// modelled checks all relations of two lists of numbers against the model.
func modelled(t *testing.T, l, m []float64) {
	t.Helper()
	for _, f := range relations {
		applied(t, f, l, m, ofNumbers(f, l, m))
	}
}

// steps lists n of the elements of a list, the same ones each time.
func steps[T any](l []T, n, seed int) []T {
	x := uint32(seed)
	return list(n, func(int) T {
		x = x*1664525 + 1013904223
		return l[int(x>>8)%len(l)]
	})
}

// flags makes n booleans, the same ones each time.
func flags(n, seed int) []bool { return steps([]bool{false, true}, n, seed) }

// ofFlags makes numbers of booleans.
func ofFlags(l []bool) []float64 {
	return list(len(l), func(i int) float64 {
		if l[i] {
			return 1
		}
		return 0
	})
}

// digits makes booleans of a text of 0s and 1s.
func digits(s string) []bool { return list(len(s), func(i int) bool { return s[i] == '1' }) }

// The relations have the numbers of the chapter.
func TestNumbersOfTheRelations(t *testing.T) {
	for i, f := range relations {
		if f != i+11 {
			t.Errorf("relation %d has the number %d, not %d", i, f, i+11)
		}
	}
}

// P11.1

// one holds what One tells against what is wanted.
func one(t *testing.T, f int, a, b float64, want bool, wantedErr api.Errno) {
	t.Helper()
	if got, err := relate.One(f, a, b); got != want || err != wantedErr {
		t.Errorf("One(%d, %g, %g) is %v, %d, not %v, %d", f, a, b, got, err, want, wantedErr)
	}
}

func TestOne(t *testing.T) {
	for _, f := range relations {
		for _, a := range numbers() {
			for _, b := range numbers() {
				one(t, f, a, b, model(f, ordered(a, b)), api.OK)
			}
		}
	}
}

// What each relation tells, written out.
func TestOneOfSome(t *testing.T) {
	cases := []struct {
		a, b float64
		// want tells of Less, NotMore, Equal, NotLess, More, Unequal.
		want string
	}{
		{1, 2, "110001"}, {2, 1, "000111"}, {2, 2, "011100"}, {0, 0, "011100"}, {0, 1, "110001"}, {1, 0, "000111"}, {1, 1, "011100"},
		{-1, 1, "110001"}, {1, -1, "000111"}, {-2, -1, "110001"}, {-1, -2, "000111"}, {-3, -3, "011100"}, {-1, 0, "110001"}, {0, -1, "000111"},
		{0.5, 1, "110001"}, {1, 0.5, "000111"}, {0.5, 0.5, "011100"}, {-0.5, 0.5, "110001"}, {0, tiny, "110001"}, {0, -tiny, "000111"}, {-tiny, tiny, "110001"},
		{300, 300, "011100"}, {300, 300.5, "110001"}, {300, 299.5, "000111"}, {top, top, "011100"}, {top - 1, top, "110001"}, {-top, 1 - top, "110001"},
		{top, top + 2, "110001"}, {huge, huge, "011100"}, {huge, -huge, "000111"}, {-huge, huge, "110001"}, {1, math.Nextafter(1, 2), "110001"},
		// No two numbers are taken for equal because they are near each other.
		{0.3, 0.30000000000000004, "110001"}, {0.1, math.Nextafter(0.1, 0), "000111"}, {tiny, 2 * tiny, "110001"}, {huge, math.Nextafter(huge, 0), "000111"},
	}
	for _, c := range cases {
		for i, f := range relations {
			one(t, f, c.a, c.b, digits(c.want)[i], api.OK)
		}
	}
}

func TestOneOfMany(t *testing.T) {
	x := uint64(11)
	next := func() uint64 {
		x = x*6364136223846793005 + 1442695040888963407
		return x >> 11
	}
	for i := range 4000 {
		a := math.Ldexp(float64(next()), int(next()%120)-113)
		if i%2 == 0 {
			a = -a + 0
		}
		others := []float64{a, -a + 0, math.Nextafter(a, huge), math.Nextafter(a, -huge), math.Trunc(a) + 0, math.Ldexp(float64(next()), int(next()%120)-113)}
		for _, b := range others {
			for _, f := range relations {
				one(t, f, a, b, model(f, ordered(a, b)), api.OK)
				one(t, f, b, a, model(f, ordered(b, a)), api.OK)
			}
		}
	}
}

// Where there is no such relation, the numbers do not matter.
func TestOneOfNoRelation(t *testing.T) {
	all := append([]float64{0, 1, -1, 2, 0.5, 300, top, top + 2, tiny, huge, -huge}, strangers()...)
	for _, f := range strange {
		for _, a := range all {
			for _, b := range all {
				one(t, f, a, b, false, api.ErrArg)
			}
		}
	}
}

// What is no number is compared, too; just one relation of each pair holds of it.
func TestOneOfWhatIsNoNumber(t *testing.T) {
	for _, a := range append(strangers(), 0, 1, -3, 0.5, huge) {
		for _, b := range append(strangers(), 0, 1, -3, 0.5, huge) {
			oneOfEachPair(t, a, b)
		}
	}
	zero := math.Copysign(0, -1)
	for i, f := range relations {
		one(t, f, zero, 0, digits("011100")[i], api.OK)
		one(t, f, 0, zero, digits("011100")[i], api.OK)
	}
}

// P11.2

// Each number with each other one, alone: as it is in each kind that holds it.
func TestApplyOfPairs(t *testing.T) {
	for _, a := range numbers() {
		for _, b := range numbers() {
			modelled(t, []float64{a}, []float64{b})
		}
	}
}

// lists makes lists of n numbers for each least kind, and for those of all kinds.
func lists(n, seed int) [][]float64 {
	all := edges()
	near := []float64{-2, -1, 0, 1, 2, 3}
	ints := slices.Concat(all[api.Bit], all[api.Small], all[api.Int])
	halves := []float64{-1, -0.5, 0, 0.5, 1}
	return [][]float64{
		steps(all[api.Bit], n, seed), steps(all[api.Small], n, seed+1), steps(near, n, seed+2), steps(ints, n, seed+3), steps(halves, n, seed+4),
		steps(all[api.Float], n, seed+5), steps(numbers(), n, seed+6),
		make([]float64, n), slices.Repeat([]float64{1}, n), slices.Repeat([]float64{0.5}, n), steps([]float64{top, top - 1, -top, 1 - top, 0, 1, -1}, n, seed+7),
	}
}

func TestApply(t *testing.T) {
	for _, n := range []int{1, 2, 3, 5, 8, 64, 65} {
		for _, a := range lists(n, n) {
			for _, b := range lists(n, 100+n) {
				modelled(t, a, b)
			}
		}
	}
}

// One element goes with each of the others, on both sides.
func TestApplyOfOneAndMany(t *testing.T) {
	for _, x := range numbers() {
		for _, kind := range kinds {
			l := append(slices.Clone(edges()[kind]), 0, 1, x)
			modelled(t, []float64{x}, l)
			modelled(t, l, []float64{x})
		}
	}
}

// What stands left and what stands right are told apart.
func TestSides(t *testing.T) {
	cases := []struct {
		f    int
		a, b []float64
		want string
	}{
		{relate.Less, []float64{2}, []float64{1, 2, 3}, "001"}, {relate.Less, []float64{1, 2, 3}, []float64{2}, "100"},
		{relate.NotMore, []float64{2}, []float64{1, 2, 3}, "011"}, {relate.NotMore, []float64{1, 2, 3}, []float64{2}, "110"},
		{relate.Equal, []float64{2}, []float64{1, 2, 3}, "010"}, {relate.Equal, []float64{1, 2, 3}, []float64{2}, "010"},
		{relate.NotLess, []float64{2}, []float64{1, 2, 3}, "110"}, {relate.NotLess, []float64{1, 2, 3}, []float64{2}, "011"},
		{relate.More, []float64{2}, []float64{1, 2, 3}, "100"}, {relate.More, []float64{1, 2, 3}, []float64{2}, "001"},
		{relate.Unequal, []float64{2}, []float64{1, 2, 3}, "101"}, {relate.Unequal, []float64{1, 2, 3}, []float64{2}, "101"},
		{relate.Less, []float64{0}, []float64{0, 1, 1, 0}, "0110"}, {relate.Less, []float64{0, 1, 1, 0}, []float64{1}, "1001"}, {relate.Less, []float64{1}, []float64{0, 1}, "00"},
		{relate.More, []float64{1}, []float64{0, 1, 1, 0}, "1001"}, {relate.More, []float64{0, 1, 1, 0}, []float64{0}, "0110"}, {relate.More, []float64{0}, []float64{0, 1}, "00"},
		{relate.NotMore, []float64{1}, []float64{0, 1, 0}, "010"}, {relate.NotLess, []float64{0, 1, 0}, []float64{1}, "010"},
		{relate.Less, []float64{0.5, -0.5, 300}, []float64{0, 0, 300.5}, "011"}, {relate.More, []float64{0.5, -0.5, 300}, []float64{0, 0, 300.5}, "100"},
	}
	for _, c := range cases {
		applied(t, c.f, c.a, c.b, digits(c.want))
	}
}

// No elements go with none and with one, whatever it is.
func TestApplyOfNoElements(t *testing.T) {
	modelled(t, nil, nil)
	for _, x := range numbers() {
		modelled(t, nil, []float64{x})
		modelled(t, []float64{x}, nil)
	}
	text := []vec.Vec{vec.Chars(nil), vec.Chars([]rune{'a'})}
	for _, f := range []int{relate.Equal, relate.Unequal} {
		for _, a := range text {
			held(t, f, vec.Chars(nil), a, nil)
			held(t, f, a, vec.Chars(nil), nil)
			for _, kind := range kinds {
				held(t, f, made(t, nil, kind), a, nil)
				held(t, f, a, made(t, nil, kind), nil)
			}
		}
		for _, kind := range kinds {
			held(t, f, made(t, []float64{1}, kind), vec.Chars(nil), nil)
			held(t, f, vec.Chars(nil), made(t, []float64{1}, kind), nil)
		}
	}
}

// The chapter speaks of vectors that have a kind; a call ends all the same, with
// what it tells of no numbers.
func TestApplyOfTheZeroValue(t *testing.T) {
	var none vec.Vec
	for _, f := range relations {
		held(t, f, none, none, nil)
		for _, kind := range kinds {
			held(t, f, none, made(t, nil, kind), nil)
			held(t, f, made(t, nil, kind), none, nil)
			held(t, f, none, made(t, []float64{1}, kind), nil)
			held(t, f, made(t, []float64{0}, kind), none, nil)
			refused(t, f, none, made(t, []float64{1, 0}, kind), api.ErrLength)
			refused(t, f, made(t, []float64{1, 0}, kind), none, api.ErrLength)
		}
		refused(t, f, vec.Boxes(nil), none, api.ErrDomain)
		refused(t, f, none, vec.Boxes(make([]vec.Array, 1)), api.ErrDomain)
	}
	for _, f := range ordering {
		refused(t, f, none, vec.Chars(nil), api.ErrDomain)
		refused(t, f, vec.Chars([]rune{'a'}), none, api.ErrDomain)
	}
	held(t, relate.Equal, none, vec.Chars(nil), nil)
	held(t, relate.Unequal, vec.Chars([]rune{'a'}), none, nil)
}

// longLengths lists the lengths about the edges of 64 and of its multiples.
func longLengths() []int {
	l := list(200, func(i int) int { return i })
	for _, n := range []int{256, 320, 512, 1024, 4096, 65536} {
		l = append(l, n-1, n, n+1)
	}
	return l
}

// flagged checks all relations of two lists of booleans, as bits.
func flagged(t *testing.T, a, b []bool) {
	t.Helper()
	x, y := vec.Bits(bitvec.Pack(a)), vec.Bits(bitvec.Pack(b))
	for _, f := range relations {
		want := models(a, b, func(x, y bool) bool {
			switch {
			case x == y:
				return model(f, 0)
			case x:
				return model(f, 1)
			}
			return model(f, -1)
		})
		held(t, f, x, y, want)
	}
}

func TestApplyOfLongBooleans(t *testing.T) {
	for _, n := range longLengths() {
		zeros, ones := make([]bool, n), slices.Repeat([]bool{true}, n)
		mixed := [][]bool{flags(n, n), flags(n, n+1), zeros, ones}
		for _, a := range mixed {
			for _, b := range mixed {
				flagged(t, a, b)
			}
			for _, x := range []bool{false, true} {
				flagged(t, []bool{x}, a)
				flagged(t, a, []bool{x})
			}
		}
	}
}

// Each place of two long lists counts, wherever it is.
func TestApplyOfLongBooleansUnlikeInOnePlace(t *testing.T) {
	for _, n := range []int{2, 63, 64, 65, 127, 128, 129, 200} {
		for at := range n {
			for _, x := range []bool{false, true} {
				a, b := slices.Repeat([]bool{x}, n), slices.Repeat([]bool{x}, n)
				b[at] = !x
				flagged(t, a, b)
				flagged(t, b, a)
			}
		}
	}
}

// Long lists of booleans beside numbers, and booleans in greater kinds.
func TestApplyOfLongNumbers(t *testing.T) {
	for _, n := range []int{63, 64, 65, 127, 128, 129, 191, 192, 193, 1000} {
		a, b := ofFlags(flags(n, n+2)), ofFlags(flags(n, n+3))
		modelled(t, a, b)
		for _, m := range [][]float64{steps([]float64{-1, 0, 1, 2}, n, n), steps([]float64{0, 0.5, 1}, n, n), steps([]float64{0, 1, 300, -300}, n, n)} {
			modelled(t, a, m)
			modelled(t, m, b)
		}
		for _, x := range []float64{0, 1, -1, 2, 300, 0.5} {
			modelled(t, a, []float64{x})
			modelled(t, []float64{x}, b)
		}
	}
}

func TestApplyOfMany(t *testing.T) {
	for _, n := range []int{most - 1, most} {
		a, b := flags(n, 3), flags(n, 4)
		flagged(t, a, b)
		flagged(t, a, []bool{true})
		flagged(t, []bool{false}, b)
		l := steps([]float64{-1, 0, 1, 0.5}, n, 5)
		m := steps([]float64{0, 1, 300}, n, 6)
		for _, f := range relations {
			held(t, f, made(t, l, api.Float), made(t, m, api.Int), ofNumbers(f, l, m))
			held(t, f, made(t, m, api.Int), made(t, []float64{1}, api.Bit), ofNumbers(f, m, []float64{1}))
		}
		text, other := steps([]rune("ab"), n, 7), steps([]rune("ba"), n, 8)
		for _, f := range []int{relate.Equal, relate.Unequal} {
			held(t, f, vec.Chars(text), vec.Chars(other), ofText(f, text, other))
			held(t, f, vec.Chars(text), made(t, []float64{1}, api.Bit), slices.Repeat([]bool{f == relate.Unequal}, n))
		}
	}
}

// A bit vector holds no more than 2^20 booleans: those of the first elements.
func TestApplyOfMoreThanMost(t *testing.T) {
	n := most + 70
	l := slices.Repeat([]float64{-3, 5}, n/2)
	a, b := made(t, l, api.Small), made(t, []float64{1}, api.Bit)
	text := vec.Chars(slices.Repeat([]rune("xy"), n/2))
	for _, f := range relations {
		held(t, f, a, b, ofNumbers(f, l[:most], []float64{1}))
		held(t, f, b, a, ofNumbers(f, []float64{1}, l[:most]))
		held(t, f, a, a, ofNumbers(f, l[:most], l[:most]))
	}
	held(t, relate.Equal, text, vec.Chars([]rune("y")), slices.Repeat([]bool{false, true}, most/2))
	held(t, relate.Unequal, text, b, slices.Repeat([]bool{true}, most))
	held(t, relate.Equal, a, text, make([]bool, most))
}

func TestApplyOfCharacters(t *testing.T) {
	all := runes()
	for _, f := range []int{relate.Equal, relate.Unequal} {
		for _, x := range all {
			for _, y := range all {
				held(t, f, vec.Chars([]rune{x}), vec.Chars([]rune{y}), ofText(f, []rune{x}, []rune{y}))
			}
			held(t, f, vec.Chars([]rune{x}), vec.Chars(all), ofText(f, []rune{x}, all))
			held(t, f, vec.Chars(all), vec.Chars([]rune{x}), ofText(f, all, []rune{x}))
		}
		for _, n := range []int{0, 1, 2, 3, 63, 64, 65, 128, 129, 500} {
			for seed, of := range [][]rune{all, []rune("ab"), {0, 1}, {-1, 0xffff}} {
				a, b := steps(of, n, seed), steps(of, n, seed+9)
				held(t, f, vec.Chars(a), vec.Chars(b), ofText(f, a, b))
				held(t, f, vec.Chars(a), vec.Chars(a), slices.Repeat([]bool{f == relate.Equal}, n))
			}
		}
	}
}

// No character equals a number, though the numbers may be what stands for the
// characters.
func TestApplyOfCharactersAndNumbers(t *testing.T) {
	for _, f := range []int{relate.Equal, relate.Unequal} {
		for _, n := range []int{0, 1, 2, 5, 63, 64, 65, 130} {
			for _, c := range []rune{0, 1, '0', '1', 'a', 97, -1, 300} {
				text := slices.Repeat([]rune{c}, n)
				unlike(t, f, text, slices.Repeat([]float64{float64(c)}, n))
				unlike(t, f, text, slices.Repeat([]float64{1}, n))
				unlike(t, f, text, slices.Repeat([]float64{0}, n))
				unlike(t, f, text, slices.Repeat([]float64{0.5}, n))
				unlike(t, f, text, []float64{float64(c)})
				unlike(t, f, []rune{c}, slices.Repeat([]float64{float64(c)}, n))
			}
		}
	}
}

// unlike checks a relation of characters and numbers, in each kind that holds
// them, on either side.
func unlike(t *testing.T, f int, text []rune, l []float64) {
	t.Helper()
	n := max(len(text), len(l))
	if len(text) == 0 || len(l) == 0 {
		n = 0
	}
	want := slices.Repeat([]bool{f == relate.Unequal}, n)
	for kind := least(l); kind <= api.Float; kind++ {
		held(t, f, vec.Chars(text), made(t, l, kind), want)
		held(t, f, made(t, l, kind), vec.Chars(text), want)
	}
}

// texts lists vectors of n characters.
func texts(n int) []vec.Vec {
	return []vec.Vec{vec.Chars(make([]rune, n)), vec.Chars(slices.Repeat([]rune{'1'}, n)), vec.Chars(steps(runes(), n, n))}
}

// boxes lists vectors of n boxes.
func boxes(n int) []vec.Vec {
	single := vec.Smalls([]int8{1})
	return []vec.Vec{
		vec.Boxes(make([]vec.Array, n)), vec.Boxes(slices.Repeat([]vec.Array{{V: single}}, n)),
		vec.Boxes(slices.Repeat([]vec.Array{{Shape: []int{1}, V: single}}, n)), vec.Boxes(slices.Repeat([]vec.Array{{V: vec.Chars([]rune{'1'})}}, n)),
	}
}

// digitsOf lists vectors of n numbers, in all kinds.
func digitsOf(t *testing.T, n int) []vec.Vec {
	var l []vec.Vec
	for _, x := range []float64{0, 1, -1, 300, 0.5} {
		for kind := least([]float64{x}); kind <= api.Float; kind++ {
			l = append(l, made(t, slices.Repeat([]float64{x}, n), kind))
		}
	}
	return l
}

// all lists vectors of n elements, of all classes.
func all(t *testing.T, n int) []vec.Vec {
	return slices.Concat(texts(n), boxes(n), digitsOf(t, n))
}

// alongside lists the lengths that go together with one.
func alongside(n int) []int {
	if n == 1 {
		return []int{0, 1, 2, 3}
	}
	return []int{1, n}
}

// Boxes are not compared, even where there are none of them.
func TestApplyOfBoxes(t *testing.T) {
	for _, f := range relations {
		for _, n := range []int{0, 1, 2, 3} {
			for _, m := range alongside(n) {
				for _, a := range boxes(n) {
					for _, b := range all(t, m) {
						refused(t, f, a, b, api.ErrDomain)
						refused(t, f, b, a, api.ErrDomain)
					}
				}
			}
		}
	}
}

// Characters have no order, even where there are none of them.
func TestApplyOfOrderAmongCharacters(t *testing.T) {
	for _, f := range ordering {
		for _, n := range []int{0, 1, 2, 3} {
			for _, m := range alongside(n) {
				for _, a := range texts(n) {
					for _, b := range slices.Concat(texts(m), digitsOf(t, m)) {
						refused(t, f, a, b, api.ErrDomain)
						refused(t, f, b, a, api.ErrDomain)
					}
				}
			}
		}
	}
}

// That the lengths don't go together is told ahead of what the elements are.
func TestApplyOfLengthsThatDontGoTogether(t *testing.T) {
	lengths := []int{0, 2, 3, 4, 6, 63, 64, 65, 128}
	for _, f := range relations {
		for _, n := range lengths {
			for _, m := range lengths {
				if n == m {
					continue
				}
				for i, a := range all(t, n) {
					for j, b := range all(t, m) {
						if n < 5 && m < 5 || i == j {
							refused(t, f, a, b, api.ErrLength)
						}
					}
				}
			}
		}
	}
}

// That there is no such relation is told ahead of all other errors.
func TestApplyOfNoRelation(t *testing.T) {
	for _, f := range strange {
		for _, n := range []int{0, 1, 2, 3} {
			for _, m := range []int{0, 1, 2, 3} {
				for _, a := range all(t, n) {
					for _, b := range all(t, m) {
						refused(t, f, a, b, api.ErrArg)
					}
				}
			}
		}
		refused(t, f, vec.Vec{}, vec.Vec{}, api.ErrArg)
		refused(t, f, vec.Vec{}, vec.Chars([]rune("xy")), api.ErrArg)
	}
}

// Each error, beside all those that come after it.
func TestOrderOfErrors(t *testing.T) {
	two, three := vec.Smalls([]int8{1, 5}), vec.Smalls([]int8{0, 0, 0})
	text, none, box := vec.Chars([]rune("xy")), vec.None(api.Nested), vec.Boxes([]vec.Array{{}})
	cases := []struct {
		f    int
		a, b vec.Vec
		want api.Errno
	}{
		{0, box, none, api.ErrArg}, {10, none, text, api.ErrArg}, {17, text, three, api.ErrArg}, {17, two, three, api.ErrArg}, {17, text, text, api.ErrArg}, {17, box, box, api.ErrArg}, {-11, two, two, api.ErrArg},
		{relate.Less, none, text, api.ErrLength}, {relate.Less, text, none, api.ErrLength}, {relate.Equal, none, text, api.ErrLength}, {relate.Less, text, three, api.ErrLength}, {relate.More, three, text, api.ErrLength},
		{relate.Equal, text, three, api.ErrLength}, {relate.Unequal, three, text, api.ErrLength}, {relate.Unequal, vec.Chars(nil), text, api.ErrLength}, {relate.Equal, vec.None(api.Number), two, api.ErrLength},
		{relate.NotMore, two, three, api.ErrLength}, {relate.NotLess, vec.Boxes(make([]vec.Array, 3)), vec.Boxes(make([]vec.Array, 2)), api.ErrLength},
		{relate.Equal, box, text, api.ErrDomain}, {relate.Unequal, text, box, api.ErrDomain}, {relate.Equal, none, vec.Chars([]rune{'a'}), api.ErrDomain}, {relate.Less, two, text, api.ErrDomain}, {relate.More, none, box, api.ErrDomain},
		{relate.Equal, none, none, api.ErrDomain}, {relate.Unequal, box, box, api.ErrDomain}, {relate.Less, vec.Chars(nil), vec.Chars(nil), api.ErrDomain}, {relate.NotLess, vec.Chars(nil), vec.None(api.Number), api.ErrDomain},
	}
	for _, c := range cases {
		refused(t, c.f, c.a, c.b, c.want)
	}
}

// Apply goes by arith.Length, and tells what One tells of each pair.
func TestApplyIsOneOfEach(t *testing.T) {
	for _, n := range []int{0, 1, 2, 3, 64, 65} {
		for _, m := range []int{0, 1, 2, 3, 64, 65} {
			length, ok := arith.Length(n, m)
			for seed := range 8 {
				l, r := of(lists(n, seed), seed), of(lists(m, seed+3), seed+5)
				for _, f := range relations {
					a, b := made(t, l, least(l)), made(t, r, least(r))
					if !ok {
						refused(t, f, a, b, api.ErrLength)
						continue
					}
					held(t, f, a, b, list(length, func(i int) bool {
						z, _ := relate.One(f, of(l, i), of(r, i))
						return z
					}))
				}
			}
		}
	}
}

// samples lists vectors of three elements and of one, and of all kinds but boxes.
func samples(t *testing.T) []vec.Vec {
	z := []vec.Vec{vec.Chars([]rune("aba")), vec.Chars([]rune{'a'})}
	for _, l := range [][]float64{{1, 0, 1}, {0, 0, 1}, {1}, {-1, 2, 5}, {300, 1, -top}, {0.5, 1, -2}, {2}} {
		for kind := least(l); kind <= api.Float; kind++ {
			z = append(z, made(t, l, kind))
		}
	}
	return z
}

// Neither the arguments nor an earlier result change with what is done later.
func TestArgumentsAndResultsAreLeft(t *testing.T) {
	for _, a := range samples(t) {
		for _, b := range samples(t) {
			before := told(a) + told(b)
			for _, f := range relations {
				z, err := relate.Apply(f, a, b)
				first, _ := z.Packed()
				want := first.Unpack()
				if err != api.OK {
					continue
				}
				clear(z.Nums())
				clear(first.Words())
				for _, g := range relations {
					relate.Apply(g, a, b)
					relate.Apply(g, z, a)
					relate.Apply(g, b, z)
					relate.Apply(g, z, z)
				}
				wanted(t, f, a, b, z, err, want)
			}
			if after := told(a) + told(b); after != before {
				t.Errorf("%s became %s", before, after)
			}
		}
	}
}

// The lists that arguments were made of are their maker's, before and afterwards.
func TestListsOfArgumentsAreLeft(t *testing.T) {
	smalls, ints, floats := []int8{1, 2, -3, 99}, []int64{1, 2, -3, 99}, []float64{1, 2, -3, 99}
	text, bools := []rune{1, 2, 3, 99}, []bool{true, false, true, true}
	a := vec.Smalls(smalls[:3])
	b, _ := vec.Ints(ints[:3])
	c, _ := vec.Floats(floats[:3])
	d, e := vec.Chars(text[:3]), vec.Bits(bitvec.Pack(bools[:3]))
	for _, v := range []vec.Vec{a, b, c, d, e} {
		for _, w := range []vec.Vec{a, b, c, d, e} {
			z, err := relate.Apply(relate.Equal, v, w)
			if !slices.Equal(smalls, []int8{1, 2, -3, 99}) || !slices.Equal(ints, []int64{1, 2, -3, 99}) || !slices.Equal(floats, []float64{1, 2, -3, 99}) {
				t.Fatalf("Apply left %d, %d, %g", smalls, ints, floats)
			}
			if !slices.Equal(text, []rune{1, 2, 3, 99}) || !slices.Equal(bools, []bool{true, false, true, true}) {
				t.Fatalf("Apply left %x, %v", text, bools)
			}
			want := list(3, func(i int) bool { return v.Class() == w.Class() && v.Num(i) == w.Num(i) && v.Char(i) == w.Char(i) })
			clear(smalls)
			clear(ints)
			clear(floats)
			clear(text)
			clear(bools)
			wanted(t, relate.Equal, v, w, z, err, want)
			smalls, ints, floats = append(smalls[:0], 1, 2, -3, 99), append(ints[:0], 1, 2, -3, 99), append(floats[:0], 1, 2, -3, 99)
			text, bools = append(text[:0], 1, 2, 3, 99), append(bools[:0], true, false, true, true)
		}
	}
}

// One vector may stand on both sides.
func TestApplyToItself(t *testing.T) {
	for _, v := range samples(t) {
		for _, f := range relations {
			if v.Class() == api.Number {
				held(t, f, v, v, slices.Repeat([]bool{model(f, 0)}, v.Len()))
			}
		}
		held(t, relate.Equal, v, v, slices.Repeat([]bool{true}, v.Len()))
		held(t, relate.Unequal, v, v, make([]bool, v.Len()))
	}
}

// P11.3

func TestKindsHaveOneAnswer(t *testing.T) {
	for seed := range 12 {
		for _, l := range lists(70, seed) {
			for _, m := range lists([]int{1, 70}[seed%2], seed+70) {
				for _, f := range relations {
					sameInAllKinds(t, f, l, m)
					sameInAllKinds(t, f, m, l)
				}
			}
		}
	}
}

// sameInAllKinds holds what Apply tells of two lists in all pairs of kinds
// against what it tells in floating point.
func sameInAllKinds(t *testing.T, f int, l, m []float64) {
	t.Helper()
	float, floatErr := relate.Apply(f, made(t, l, api.Float), made(t, m, api.Float))
	p, _ := float.Packed()
	for first := least(l); first <= api.Float; first++ {
		for second := least(m); second <= api.Float; second++ {
			a, b := made(t, l, first), made(t, m, second)
			z, err := relate.Apply(f, a, b)
			q, ok := z.Packed()
			if err != floatErr || !ok || !bitvec.Equal(p, q) {
				t.Errorf("%s is %s, %d; in floating point, it is %s, %d", name(f, a, b), told(z), err, told(float), floatErr)
			}
		}
	}
}

// oneOfEachPair checks that just one relation of each pair holds of two numbers.
func oneOfEachPair(t *testing.T, a, b float64) {
	t.Helper()
	for _, p := range pairs {
		x, err := relate.One(p[0], a, b)
		y, otherErr := relate.One(p[1], a, b)
		if x == y || err != api.OK || otherErr != api.OK {
			t.Errorf("%d and %d of %g and %g are %v, %d and %v, %d", p[0], p[1], a, b, x, err, y, otherErr)
		}
	}
}

func TestJustOneOfAPairHolds(t *testing.T) {
	for _, a := range numbers() {
		for _, b := range numbers() {
			oneOfEachPair(t, a, b)
		}
	}
	for seed := range 12 {
		for _, l := range lists(70, seed) {
			for _, m := range lists([]int{1, 70}[seed%2], seed+70) {
				for first := least(l); first <= api.Float; first++ {
					for second := least(m); second <= api.Float; second++ {
						opposite(t, pairs, made(t, l, first), made(t, m, second))
						opposite(t, pairs, made(t, m, second), made(t, l, first))
					}
				}
			}
		}
	}
}

func TestJustOneOfAPairHoldsOfCharacters(t *testing.T) {
	for _, n := range []int{0, 1, 2, 64, 65} {
		for _, a := range texts(n) {
			for _, m := range []int{1, n} {
				for _, b := range slices.Concat(texts(m), digitsOf(t, m)) {
					opposite(t, pairs[2:], a, b)
					opposite(t, pairs[2:], b, a)
				}
			}
		}
	}
}

// opposite checks that, at each place, just one relation of each pair holds.
func opposite(t *testing.T, pairs [][2]int, a, b vec.Vec) {
	t.Helper()
	for _, p := range pairs {
		v, err := relate.Apply(p[0], a, b)
		w, otherErr := relate.Apply(p[1], a, b)
		x, ok := v.Packed()
		y, otherOk := w.Packed()
		if err != api.OK || otherErr != api.OK || !ok || !otherOk || !bitvec.Equal(x, y.Not()) {
			t.Errorf("%s is %s, %d; %d is %s, %d", name(p[0], a, b), told(v), err, p[1], told(w), otherErr)
		}
	}
}

// The chapter's examples.

func TestExamples(t *testing.T) {
	cases := []struct {
		f    int
		a, b []float64
		want string
	}{
		{relate.Less, []float64{1, 0, 0, 1}, []float64{1, 0, 1, 0}, "0010"},
		{relate.NotMore, []float64{1, 0, 0, 1}, []float64{1, 0, 1, 0}, "1110"},
		{relate.Equal, []float64{0.5, 300}, []float64{300}, "01"},
		{relate.NotLess, []float64{2}, []float64{1, 2, 3}, "110"},
	}
	for _, c := range cases {
		applied(t, c.f, c.a, c.b, digits(c.want))
	}
	a, one := vec.Chars([]rune{'a'}), made(t, []float64{1}, api.Bit)
	held(t, relate.Unequal, made(t, []float64{1, 1}, api.Bit), a, digits("11"))
	held(t, relate.Equal, a, vec.Chars([]rune("ba")), digits("01"))
	refused(t, relate.Less, a, one, api.ErrDomain)
	refused(t, relate.Equal, vec.None(api.Nested), one, api.ErrDomain)
	refused(t, relate.Equal, made(t, []float64{1, 2, 3}, api.Small), made(t, []float64{1, 2}, api.Small), api.ErrLength)
}
