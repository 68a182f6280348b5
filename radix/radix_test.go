package radix_test

import (
	"cmp"
	"fmt"
	"math"
	"math/big"
	"slices"
	"testing"

	"rebus/api"
	"rebus/bitvec"
	"rebus/order"
	"rebus/radix"
	"rebus/vec"
)

// most is the greatest number of elements, and top the greatest whole number.
const (
	most = 1 << 20
	top  = 1 << 53
)

// width is how many bits of a key a pass goes by.
const width = 11

// ups lists both directions: upwards and downwards.
var ups = []bool{false, true}

// far lists numbers that are no places of a few keys.
var far = []int{
	math.MinInt, math.MinInt + 1, -1 << 62, -1 << 32, math.MinInt32, -most, -257, -256, -65, -64, -3, -2, -1,
	most + 1, math.MaxInt32, math.MaxUint32, 1 << 32, 1<<32 + 1, 1 << 60, 1 << 61, 1 << 62, 1<<62 + 1, math.MaxInt - 1, math.MaxInt,
}

// How vectors of each kind are made.

func bits(l ...int) vec.Vec {
	return vec.Bits(bitvec.Pack(list(len(l), func(i int) bool { return l[i] == 1 })))
}

func smalls(l ...int8) vec.Vec { return vec.Smalls(l) }

func ints(l ...int64) vec.Vec {
	v, ok := vec.Ints(l)
	if !ok {
		panic("no integers of at most 2^53")
	}
	return v
}

func floats(l ...float64) vec.Vec {
	v, ok := vec.Floats(l)
	if !ok {
		panic("no numbers")
	}
	return v
}

func text(s string) vec.Vec { return vec.Chars([]rune(s)) }

func boxes(l ...vec.Array) vec.Vec { return vec.Boxes(l) }

func array(v vec.Vec, s ...int) vec.Array { return vec.Array{Shape: s, V: v} }

// kindsOf makes vectors of whole numbers in all kinds that they fit, but that of floats.
func kindsOf(l []int64) []vec.Vec {
	z := []vec.Vec{ints(l...)}
	if fit(l, -128, 127) {
		z = append(z, smalls(list(len(l), func(i int) int8 { return int8(l[i]) })...))
	}
	if fit(l, 0, 1) && len(l) <= most {
		z = append(z, bits(list(len(l), func(i int) int { return int(l[i]) })...))
	}
	return z
}

// fit tells whether all numbers are in a range.
func fit(l []int64, low, high int64) bool {
	return !slices.ContainsFunc(l, func(n int64) bool { return n < low || n > high })
}

// list makes n elements by a rule.
func list[T any](n int, rule func(i int) T) []T {
	l := make([]T, n)
	for i := range l {
		l[i] = rule(i)
	}
	return l
}

// steps lists n of the elements of a list, the same ones each time.
func steps[T any](l []T, n, seed int) []T {
	x := uint32(seed)
	return list(n, func(int) T {
		x = x*1664525 + 1013904223
		return l[int(x>>8)%len(l)]
	})
}

// mixed lists n numbers of 64 bits, the same ones each time.
func mixed(n int, seed uint64) []uint64 {
	x := seed
	return list(n, func(int) uint64 {
		x += 0x9e3779b97f4a7c15
		z := (x ^ x>>30) * 0xbf58476d1ce4e5b9
		z = (z ^ z>>27) * 0x94d049bb133111eb
		return z ^ z>>31
	})
}

// ascending lists the places from 0 to below n, and descending the other way round.
func ascending(n int) []int { return list(n, func(i int) int { return i }) }

func descending(n int) []int { return list(n, func(i int) int { return n - 1 - i }) }

// whole lists integers that ascend, the least and the greatest one among them.
func whole() []int64 {
	return []int64{
		-top, -top + 1, -1<<52 - 1, -1 << 52, -1 << 44, -1<<33 - 1, -1 << 33, -1<<32 - 1, -1 << 32, -1<<31 - 1, -1 << 31, -1 << 22, -1<<16 - 1, -2049, -2048, -2047,
		-257, -256, -255, -129, -128, -127, -100, -65, -64, -3, -2, -1, 0, 1, 2, 3, 63, 64, 100, 126, 127, 128, 129, 255, 256, 257, 1023, 1024, 2047, 2048, 2049,
		1 << 16, 1 << 22, 1<<31 - 1, 1 << 31, 1<<32 - 1, 1 << 32, 1<<32 + 1, 1 << 33, 1<<44 - 1, 1 << 44, 1 << 52, 1<<52 + 1, top - 1, top,
	}
}

// alphabet lists runes that ascend: of one to four bytes, and such as are none of
// Unicode's.
func alphabet() []rune {
	return []rune{
		math.MinInt32, math.MinInt32 + 1, -65536, -2048, -256, -2, -1, 0, 1, '\t', ' ', '0', '9', 'A', 'Z', 'a', 'b', 'z', 0x7f, 0x80, 0xe9, 0xff, 0x100, 0x17f, 0x7ff, 0x800,
		0x2190, 0x2374, 0xd7ff, 0xd800, 0xdfff, 0xe000, 0xfffd, 0xffff, 0x10000, 0x1f600, 0x10ffff, 0x110000, math.MaxInt32 - 1, math.MaxInt32,
	}
}

// keyless lists vectors that have no keys: floats, boxes, and some without a kind.
func keyless() []vec.Vec {
	inner := array(smalls(1, 2), 2)
	return []vec.Vec{
		{}, floats(), floats(0.5), floats(0), floats(1, 0, 1), floats(30, -5, 30, 7), floats(top, -top, 1e300, -math.SmallestNonzeroFloat64),
		boxes(), boxes(inner), boxes(array(text("b")), array(text("a"))), boxes(array(bits(1)), array(bits(0)), array(boxes(inner, inner), 2)), boxes(vec.Array{}), vec.None(api.Nested),
	}
}

// numbered lists vectors of each kind that has keys, and what numbers they keep.
func numbered() map[string]vec.Vec {
	return map[string]vec.Vec{
		"bits": bits(1, 0, 0, 1, 0), "smalls": smalls(3, -128, 127, 0, 3), "ints": ints(300, -top, top, 300, 0), "text": text("abba"), "runes": vec.Chars([]rune{0x1f600, -1, 0xe9, -1, 0}),
	}
}

// spare makes a list of the same elements with room behind it, and with something in the
// room.
func spare[T int | uint64](l []T) []T {
	room := append(slices.Clone(l), 7, 8, 9)
	return room[:len(l):len(room)]
}

// unchanged checks that a list that was made by spare is as it was.
func unchanged[T int | uint64](t *testing.T, what string, given, l []T) {
	t.Helper()
	if !slices.Equal(given, l) || !slices.Equal(given[:cap(given)][len(l):], []T{7, 8, 9}) {
		t.Errorf("%s: an argument has changed", what)
	}
}

// few is the beginning of a list, as much of it as one can read.
func few[T any](l []T) []T { return l[:min(len(l), 40)] }

// P17.1: Keys, Spread

// sum is the sum of a number and a power of 2.
func sum(n int64, power uint) uint64 {
	z := new(big.Int).Lsh(big.NewInt(1), power)
	return z.Add(z, big.NewInt(n)).Uint64()
}

// keyed checks what keys a vector has.
func keyed(t *testing.T, what string, v vec.Vec, want []uint64) {
	t.Helper()
	if keys, ok := radix.Keys(v); !ok || !slices.Equal(keys, want) {
		t.Errorf("%s: the keys of %d elements of kind %d are %x, %t, not %x", what, v.Len(), v.Kind(), few(keys), ok, few(want))
	}
}

// keysOfNumbers tells what keys whole numbers must have: of 64 bits, the highest one
// inverted, they are greater by 2^63.
func keysOfNumbers(l []int64) []uint64 {
	return list(len(l), func(i int) uint64 { return sum(l[i], 63) })
}

// keysOfRunes tells what keys characters must have: of 32 bits, the highest one
// inverted, they are greater by 2^31.
func keysOfRunes(l []rune) []uint64 {
	return list(len(l), func(i int) uint64 { return sum(int64(l[i]), 31) })
}

func TestKeysOfNumbers(t *testing.T) {
	for _, l := range [][]int64{{}, {0}, {1}, {-1}, {1, 0}, {0, 0, 1, 1, 0}, {30, -5, 30, 7}, {-128, 127}, {top, -top}, whole()} {
		for _, v := range kindsOf(l) {
			keyed(t, "numbers", v, keysOfNumbers(l))
		}
	}
	for _, n := range whole() {
		for _, v := range kindsOf([]int64{n}) {
			keyed(t, "one number", v, keysOfNumbers([]int64{n}))
		}
	}
}

// The keys are written out, so that they hang on no reckoning.
func TestKeysWrittenOut(t *testing.T) {
	keyed(t, "ints", ints(0, 1, -1, 300, -top, top), []uint64{
		0x8000000000000000, 0x8000000000000001, 0x7fffffffffffffff, 0x800000000000012c, 0x7fe0000000000000, 0x8020000000000000,
	})
	keyed(t, "smalls", smalls(0, -128, 127, -1), []uint64{0x8000000000000000, 0x7fffffffffffff80, 0x800000000000007f, 0x7fffffffffffffff})
	keyed(t, "bits", bits(0, 1, 1), []uint64{0x8000000000000000, 0x8000000000000001, 0x8000000000000001})
	keyed(t, "characters", vec.Chars([]rune{'a', 0, 0x2374, -1, math.MinInt32, math.MaxInt32}), []uint64{0x80000061, 0x80000000, 0x80002374, 0x7fffffff, 0, 0xffffffff})
}

func TestKeysOfAllSmalls(t *testing.T) {
	l := list(256, func(i int) int64 { return int64(i - 128) })
	for _, v := range kindsOf(l) {
		keyed(t, "all smalls", v, keysOfNumbers(l))
	}
}

func TestKeysOfBits(t *testing.T) {
	for _, n := range []int{1, 63, 64, 65, 127, 128, 129, 200} {
		l := steps([]int64{0, 1}, n, n)
		for _, v := range kindsOf(l) {
			keyed(t, "bits", v, keysOfNumbers(l))
		}
	}
}

func TestKeysOfCharacters(t *testing.T) {
	for _, l := range [][]rune{{}, {'x'}, []rune("abracadabra"), []rune("\u00e9\u2374\U0001f600"), alphabet()} {
		keyed(t, "characters", vec.Chars(l), keysOfRunes(l))
	}
	for _, r := range alphabet() {
		keyed(t, "one character", vec.Chars([]rune{r}), keysOfRunes([]rune{r}))
	}
	keyed(t, "no characters", vec.Chars(nil), nil)
	keyed(t, "no numbers", vec.None(api.Number), nil)
	keyed(t, "no characters", vec.None(api.Letter), nil)
}

// A character has not the key of the number of its code point.
func TestKeysOfCharactersAreNotOfNumbers(t *testing.T) {
	for _, r := range alphabet() {
		one, _ := radix.Keys(vec.Chars([]rune{r}))
		other, _ := radix.Keys(ints(int64(r)))
		if one[0] >= 1<<32 || one[0] == other[0] {
			t.Errorf("the keys of the character and of the number %d: %x, %x", r, one, other)
		}
	}
}

func TestKeysOfOthers(t *testing.T) {
	for _, v := range keyless() {
		if keys, ok := radix.Keys(v); ok || len(keys) != 0 {
			t.Errorf("%d elements of kind %d have the keys %x, %t", v.Len(), v.Kind(), keys, ok)
		}
	}
}

func TestKeysOfMany(t *testing.T) {
	l := list(most, func(i int) int64 { return int64(i%3 - 1) })
	for _, v := range kindsOf(l) {
		keyed(t, "2^20 numbers", v, keysOfNumbers(l))
	}
	l = list(most+2, func(i int) int64 { return int64(i % 2) })
	for _, v := range kindsOf(l) {
		keyed(t, "2^20 and two numbers", v, keysOfNumbers(l))
	}
	flags := list(most, func(i int) int64 { return int64(i * 7 % 16 / 8) })
	keyed(t, "2^20 bits", kindsOf(flags)[2], keysOfNumbers(flags))
	runes := list(most+2, func(i int) rune { return rune(i - 1000) })
	keyed(t, "2^20 and two characters", vec.Chars(runes), keysOfRunes(runes))
}

// Keys that are changed change neither the vector nor the next ones.
func TestKeysAreNewMemory(t *testing.T) {
	for what, v := range numbered() {
		keys, _ := radix.Keys(v)
		before := slices.Clone(keys)
		nums, runes := v.Nums(), v.Text()
		for i := range keys {
			keys[i] = 5
		}
		keyed(t, what, v, before)
		if !slices.Equal(v.Nums(), nums) || !slices.Equal(v.Text(), runes) {
			t.Errorf("%s: the vector has changed", what)
		}
	}
}

// differing tells in which bits some key differs from the first one, bit by bit.
func differing(keys []uint64) uint64 {
	var z uint64
	for b := range 64 {
		for _, key := range keys {
			if key>>b&1 != keys[0]>>b&1 {
				z |= 1 << b
			}
		}
	}
	return z
}

// spreads checks what Spread tells of keys.
func spreads(t *testing.T, keys []uint64, want uint64) {
	t.Helper()
	given := spare(keys)
	if z := radix.Spread(given); z != want {
		t.Errorf("the spread of %x is %x, not %x", few(keys), z, want)
	}
	unchanged(t, "Spread", given, keys)
}

func TestSpreadOfAlikeKeys(t *testing.T) {
	spreads(t, nil, 0)
	spreads(t, []uint64{}, 0)
	for _, key := range []uint64{0, 1, 2, 5, 1 << 31, 1 << 32, 1 << 63, math.MaxUint64} {
		for _, n := range []int{1, 2, 3, 64, 1000} {
			spreads(t, slices.Repeat([]uint64{key}, n), 0)
		}
	}
}

// In each bit, one key differs from the others, wherever it stands.
func TestSpreadOfOneBit(t *testing.T) {
	for b := range 64 {
		for _, key := range []uint64{0, 1, 0x5555555555555555, 1 << 63, math.MaxUint64} {
			for n := 2; n <= 5; n++ {
				for j := range n {
					keys := slices.Repeat([]uint64{key}, n)
					keys[j] ^= 1 << b
					spreads(t, keys, 1<<b)
				}
			}
		}
	}
}

func TestSpreadOfSomeBits(t *testing.T) {
	spreads(t, []uint64{5, 3}, 6)
	spreads(t, []uint64{0, math.MaxUint64}, math.MaxUint64)
	spreads(t, []uint64{math.MaxUint64, 0}, math.MaxUint64)
	spreads(t, []uint64{1, 2, 4}, 7)
	spreads(t, []uint64{0, 1, 2}, 3)
	// All but the first one agree, or differ from it in the same bits.
	spreads(t, []uint64{8, 12, 12, 12}, 4)
	spreads(t, []uint64{6, 5, 5, 6}, 3)
	// Each differs from the first one only, and not from the next one, in a bit.
	spreads(t, []uint64{1, 3, 3, 1 << 40}, 1<<40+3)
	for seed := range uint64(200) {
		mask := mixed(2, seed)[0] & mixed(2, seed)[1]
		keys := mixed(int(seed%7)+1, seed+9)
		for i := range keys {
			keys[i] = keys[i]&mask | ^mask&0x3333333333333333
		}
		spreads(t, keys, differing(keys))
	}
}

func TestSpreadOfMany(t *testing.T) {
	keys := make([]uint64, most+2)
	spreads(t, keys, 0)
	keys[most+1] = 1 << 62
	spreads(t, keys, 1<<62)
	keys[most] = 9
	spreads(t, keys, 1<<62+9)
}

func TestSpreadOfKeys(t *testing.T) {
	for _, l := range [][]int64{{}, {7}, {0, 1}, {30, -5, 30, 7}, {-1, 0}, {top, -top}, whole()} {
		keys, _ := radix.Keys(ints(l...))
		spreads(t, keys, differing(keysOfNumbers(l)))
	}
}

// P17.2: Bits, Pass

// placesOf lists the places of one of the booleans.
func placesOf(l []bool, b bool) []int {
	var z []int
	for i, x := range l {
		if x == b {
			z = append(z, i)
		}
	}
	return z
}

// gradedBits checks what Bits tells of booleans, in both directions.
func gradedBits(t *testing.T, l []bool) {
	t.Helper()
	p := bitvec.Pack(l)
	for _, down := range ups {
		want := append(placesOf(l, down), placesOf(l, !down)...)
		at := radix.Bits(p, down)
		if !slices.Equal(at, want) {
			t.Errorf("Bits of %v, down %t: %v, not %v", few(l), down, few(at), few(want))
		}
		for i := range at {
			at[i] = -9
		}
		if !slices.Equal(radix.Bits(p, down), want) || !slices.Equal(p.Unpack(), l) {
			t.Errorf("Bits of %v, down %t: the list is kept", few(l), down)
		}
	}
}

func TestBitsOfAFew(t *testing.T) {
	for n := range 9 {
		for word := range 1 << n {
			gradedBits(t, list(n, func(i int) bool { return word>>i&1 == 1 }))
		}
	}
}

func TestBitsOfNone(t *testing.T) {
	for _, p := range []bitvec.Bits{{}, bitvec.Pack(nil), bitvec.Make(0, true)} {
		for _, down := range ups {
			if at := radix.Bits(p, down); len(at) != 0 {
				t.Errorf("down %t: %v", down, at)
			}
		}
	}
}

func TestBitsOfWords(t *testing.T) {
	for _, n := range []int{31, 32, 33, 63, 64, 65, 127, 128, 129, 191, 192, 200, 1000} {
		gradedBits(t, make([]bool, n))
		gradedBits(t, slices.Repeat([]bool{true}, n))
		gradedBits(t, steps([]bool{true, false}, n, n))
		gradedBits(t, steps([]bool{true, false, false, false, false}, n, n))
		gradedBits(t, steps([]bool{true, true, true, true, false}, n, n))
		for _, j := range []int{0, 1, n / 2, n - 1} {
			one := make([]bool, n)
			one[j] = true
			gradedBits(t, one)
			gradedBits(t, list(n, func(i int) bool { return !one[i] }))
		}
		gradedBits(t, list(n, func(i int) bool { return i < n/2 }))
		gradedBits(t, list(n, func(i int) bool { return i >= n/2 }))
	}
}

func TestBitsOfMany(t *testing.T) {
	for _, b := range []bool{true, false} {
		gradedBits(t, slices.Repeat([]bool{b}, most))
		l := slices.Repeat([]bool{b}, most)
		l[0], l[most/2], l[most-1] = !b, !b, !b
		gradedBits(t, l)
	}
	gradedBits(t, list(most, func(i int) bool { return i*7919%1013 < 400 }))
}

// digitOf tells the eleven bits of a key that begin with a bit; those behind its highest
// one are 0.
func digitOf(key uint64, shift int) int {
	z := 0
	for b := range width {
		if shift+b < 64 && key>>(shift+b)&1 == 1 {
			z += 1 << b
		}
	}
	return z
}

// sorted tells the places in the order of their digits, those of equal ones as they stand.
func sorted(at []int, down bool, digit func(place int) int) []int {
	ranks := list(len(at), func(i int) int {
		d := digit(at[i])
		if down {
			d = -d
		}
		return d<<32 + i
	})
	slices.Sort(ranks)
	return list(len(at), func(i int) int { return at[uint32(ranks[i])] })
}

// passed checks what Pass tells in both directions.
func passed(t *testing.T, keys []uint64, at []int, shift int) {
	t.Helper()
	for _, down := range ups {
		want := sorted(at, down, func(place int) int { return digitOf(keys[place], shift) })
		givenKeys, given := spare(keys), spare(at)
		z := radix.Pass(givenKeys, given, uint(shift), down)
		if !slices.Equal(z, want) {
			t.Errorf("Pass of the keys %x at %v, shift %d, down %t: %v, not %v", few(keys), few(at), shift, down, few(z), few(want))
		}
		for i := range z {
			z[i] = -9
		}
		unchanged(t, "Pass, keys", givenKeys, keys)
		unchanged(t, "Pass, places", given, at)
	}
}

// placings lists lists of places of n keys: all of them in several orders, some of them,
// some of them more than once, and none.
func placings(n int) [][]int {
	z := [][]int{nil, {}, ascending(n), descending(n)}
	if n == 0 {
		return z
	}
	z = append(z, []int{0}, []int{n - 1}, []int{n / 2, n / 2}, []int{n - 1, 0, n - 1}, ascending(n/2), ascending(n)[n/2:], append(descending(n), ascending(n)...))
	return append(z, steps(ascending(n), n, n), steps(ascending(n), 3*n, n+1), steps(ascending(n), n/2, n+2), list(n, func(i int) int { return (i*7 + 3) % n }))
}

func TestPass(t *testing.T) {
	for n := range 12 {
		for shift := range 64 {
			for _, at := range placings(n) {
				passed(t, mixed(n, uint64(64*n+shift)), at, shift)
			}
		}
	}
}

// Keys whose digits are often equal.
func TestPassOfEqualDigits(t *testing.T) {
	for _, shift := range []int{0, 1, 5, 10, 11, 12, 22, 30, 33, 44, 53, 54, 55, 56, 60, 62, 63} {
		for n := 1; n <= 20; n++ {
			noise := mixed(n, uint64(n))
			digit := uint64(2047) << shift
			for _, digits := range [][]uint64{{0}, {2047}, {1}, {0, 1}, {0, 2047}, {0, 1024}, {1023, 1024}, {5, 3, 5}, {2047, 2046}, {0, 1, 2, 3}} {
				chosen := steps(digits, n, n+shift)
				keys := list(n, func(i int) uint64 { return noise[i]&^digit | chosen[i]<<shift })
				for _, at := range placings(n) {
					passed(t, keys, at, shift)
				}
			}
		}
	}
}

// Two keys that differ in one bit change places just if it is one of the eleven, and if
// they are not in order.
func TestPassOfOneBit(t *testing.T) {
	for _, key := range []uint64{0, math.MaxUint64, 0x5555555555555555, 0x123456789abcdef0} {
		for b := range 64 {
			keys := []uint64{key &^ (1 << b), key | 1<<b}
			for shift := range 64 {
				within := shift <= b && b < shift+width
				for _, at := range [][]int{{0, 1}, {1, 0}} {
					for _, down := range ups {
						want := slices.Clone(at)
						if within && (at[0] > at[1]) != down {
							slices.Reverse(want)
						}
						if z := radix.Pass(keys, at, uint(shift), down); !slices.Equal(z, want) {
							t.Errorf("two keys that differ in bit %d, shift %d, down %t: %v becomes %v", b, shift, down, at, z)
						}
					}
				}
			}
		}
	}
}

// All digits that there are, each of them once or a few times.
func TestPassOfAllDigits(t *testing.T) {
	for _, shift := range []int{0, 1, 11, 22, 52, 53, 54, 55, 63} {
		keys := list(5000, func(i int) uint64 { return uint64(i*7919%2048)<<shift | uint64(i)&(1<<shift-1) })
		passed(t, keys, ascending(5000), shift)
		passed(t, keys[:2048], descending(2048), shift)
		once := radix.Pass(list(2048, func(i int) uint64 { return uint64(2047-i) << shift }), ascending(2048), uint(shift), false)
		if shift <= 53 && !slices.Equal(once, descending(2048)) {
			t.Errorf("all digits backwards, shift %d: %v", shift, few(once))
		}
	}
}

func TestPassOfAFewPlaces(t *testing.T) {
	keys := []uint64{3, 1, 2, 1}
	for n := range 5 {
		for code := range 1 << (2 * n) {
			passed(t, keys, list(n, func(i int) int { return code >> (2 * i) & 3 }), 0)
		}
	}
}

func TestPassOfNone(t *testing.T) {
	for _, shift := range []int{0, 11, 55, 63} {
		passed(t, nil, nil, shift)
		passed(t, []uint64{}, []int{}, shift)
		passed(t, []uint64{4, 3}, nil, shift)
		passed(t, []uint64{4}, []int{0}, shift)
		passed(t, []uint64{4}, []int{0, 0, 0}, shift)
	}
}

func TestPassOfMany(t *testing.T) {
	keys := mixed(most+2, 1)
	for _, shift := range []int{0, 55} {
		passed(t, keys, ascending(most+2), shift)
	}
	passed(t, keys[:9], steps(ascending(9), most+2, 4), 22)
	// One digit that all of them have.
	passed(t, slices.Repeat([]uint64{2047}, most+2), descending(most+2), 0)
}

// Passes by all digits, the lowest one first, sort by the whole keys.
func TestPassAfterPass(t *testing.T) {
	for _, n := range []int{0, 1, 2, 10, 300} {
		for _, down := range ups {
			keys := mixed(n, uint64(n))
			for i := range n / 3 {
				keys[3*i] = keys[i]
			}
			at := ascending(n)
			for shift := 0; shift < 64; shift += width {
				at = radix.Pass(keys, at, uint(shift), down)
			}
			ranks := slices.Clone(keys)
			slices.Sort(ranks)
			want := sorted(ascending(n), down, func(place int) int { return slices.Index(ranks, keys[place]) })
			if !slices.Equal(at, want) {
				t.Errorf("%d keys, down %t: %v, not %v", n, down, few(at), few(want))
			}
		}
	}
}

// There is no promise for places that have no key and for greater shifts, but that there
// is an end to it; such places count as those of the key 0, and such digits are equal.
func TestPassOfWrongPlaces(t *testing.T) {
	keys := []uint64{5 << 3, 0, 2 << 3, 2047 << 3}
	for _, l := range [][]uint64{keys, keys[:1], nil} {
		at := slices.Concat([]int{1, 0, 2, 3}, far, []int{3, 2, 1, 0, len(l), len(l) + 1})
		for _, shift := range []int{0, 3, 11, 55, 63} {
			for _, down := range ups {
				want := sorted(at, down, func(place int) int {
					if place < 0 || place >= len(l) {
						return 0
					}
					return digitOf(l[place], shift)
				})
				if z := radix.Pass(l, at, uint(shift), down); !slices.Equal(z, want) {
					t.Errorf("%d keys, shift %d, down %t: %v, not %v", len(l), shift, down, z, want)
				}
			}
		}
	}
}

func TestPassOfWrongShifts(t *testing.T) {
	keys := []uint64{math.MaxUint64, 0, 1, 1 << 63}
	at := []int{2, 0, 3, 1, 0}
	for _, shift := range []uint{64, 65, 74, 75, 127, 128, 1 << 8, 1 << 16, 1 << 32, 1<<32 + 1, 1 << 63, math.MaxUint - 10, math.MaxUint} {
		for _, down := range ups {
			if z := radix.Pass(keys, at, shift, down); !slices.Equal(z, at) {
				t.Errorf("shift %d, down %t: %v", shift, down, z)
			}
		}
	}
}

// P17.3: Grade

// compared tells whether an element is less than another one, equal to it, or greater.
func compared(v vec.Vec, i, k int) int {
	if v.Class() == api.Letter {
		return cmp.Compare(v.Char(i), v.Char(k))
	}
	return cmp.Compare(v.Num(i), v.Num(k))
}

// grades checks that a vector has the grade it must have, in both directions.
func grades(t *testing.T, what string, v vec.Vec) {
	t.Helper()
	for _, down := range ups {
		at, ok := radix.Grade(v, down)
		if !ok || !order.Sorted(v, 1, at, down) {
			t.Errorf("%s: the grade of %d elements of kind %d, down %t, is not sorted: %v, %t", what, v.Len(), v.Kind(), down, few(at), ok)
		}
		if v.Len() > 2000 {
			continue
		}
		want := ascending(v.Len())
		slices.SortStableFunc(want, func(i, k int) int {
			if down {
				return compared(v, k, i)
			}
			return compared(v, i, k)
		})
		if !slices.Equal(at, want) {
			t.Errorf("%s: the grade of %d elements of kind %d, down %t, is %v, not %v", what, v.Len(), v.Kind(), down, few(at), few(want))
		}
	}
}

// gradesOf checks the grades of whole numbers in all kinds that they fit.
func gradesOf(t *testing.T, what string, l []int64) {
	t.Helper()
	for _, v := range kindsOf(l) {
		grades(t, what, v)
	}
}

// chosen lists elements of a short list, by what digits a number has.
func chosen[T any](l []T, n, code int) []T {
	return list(n, func(int) T {
		x := l[code%len(l)]
		code /= len(l)
		return x
	})
}

// All lists of up to five of three elements, in each kind.
func TestGradeOfAFew(t *testing.T) {
	for n := range 6 {
		for code := range int(math.Pow(3, float64(n))) {
			for _, l := range [][]int64{{-1, 0, 1}, {-128, 1, 127}, {255, 256, 257}, {-top, -top + 1, top}, {-1 << 32, 0, 1 << 32}} {
				gradesOf(t, "a few numbers", chosen(l, n, code))
			}
			for _, l := range [][]rune{{'a', 'b', 'c'}, {-1, 0xe9, 0x1f600}, {math.MinInt32, 0, math.MaxInt32}} {
				grades(t, "a few characters", vec.Chars(chosen(l, n, code)))
			}
		}
	}
	for n := range 9 {
		for code := range 1 << n {
			gradesOf(t, "a few bits", chosen([]int64{0, 1}, n, code))
		}
	}
}

func TestGradeOfNoneAndOne(t *testing.T) {
	for _, v := range []vec.Vec{bits(), smalls(), ints(), text(""), vec.None(api.Number), vec.None(api.Letter), vec.Bits(bitvec.Bits{})} {
		for _, down := range ups {
			if at, ok := radix.Grade(v, down); !ok || len(at) != 0 {
				t.Errorf("no elements of kind %d, down %t: %v, %t", v.Kind(), down, at, ok)
			}
		}
	}
	for _, n := range whole() {
		gradesOf(t, "one number", []int64{n})
	}
	for _, r := range alphabet() {
		grades(t, "one character", vec.Chars([]rune{r}))
	}
}

func TestGradeOfOthers(t *testing.T) {
	for _, v := range keyless() {
		for _, down := range ups {
			if at, ok := radix.Grade(v, down); ok || len(at) != 0 {
				t.Errorf("%d elements of kind %d, down %t: %v, %t", v.Len(), v.Kind(), down, at, ok)
			}
		}
	}
}

// The least and the greatest numbers, in order, backwards, and mixed with equal ones.
func TestGradeOfWholes(t *testing.T) {
	l := whole()
	back := slices.Clone(l)
	slices.Reverse(back)
	small := list(256, func(i int) int64 { return int64(i - 128) })
	for _, numbers := range [][]int64{l, back, slices.Concat(l, l), slices.Concat(back, l), steps(l, 300, 1), steps(l, 1000, 2), small, steps(small, 1000, 3)} {
		gradesOf(t, "whole numbers", numbers)
	}
	slices.Reverse(small)
	gradesOf(t, "all smalls", small)
}

func TestGradeOfCharacters(t *testing.T) {
	l := alphabet()
	back := slices.Clone(l)
	slices.Reverse(back)
	for _, runes := range [][]rune{l, back, slices.Concat(l, l), slices.Concat(back, l), steps(l, 300, 1), []rune("abracadabra"), []rune("\u00e9a\u2374a\U0001f600\u00e9")} {
		grades(t, "characters", vec.Chars(runes))
	}
}

func TestGradeOfEqualElements(t *testing.T) {
	for _, n := range []int{2, 3, 64, 65, 1000} {
		for _, x := range []int64{0, 1, -1, 127, -128, 300, top, -top} {
			gradesOf(t, "equal numbers", slices.Repeat([]int64{x}, n))
		}
		for _, r := range alphabet() {
			grades(t, "equal characters", vec.Chars(slices.Repeat([]rune{r}, n)))
		}
	}
}

// Numbers that differ in one bit only, or in that one and their sign.
func TestGradeOfOneBit(t *testing.T) {
	for b := range 54 {
		n := int64(1) << b
		for _, x := range []int64{0, 1, 300, -1, -300, 1 << 40} {
			if other := x ^ n; other >= -top && other <= top {
				gradesOf(t, fmt.Sprintf("bit %d", b), []int64{x, other, x, other, other})
				gradesOf(t, fmt.Sprintf("bit %d", b), []int64{other, x})
			}
		}
		gradesOf(t, fmt.Sprintf("bit %d and the sign", b), []int64{n, -n, 0, n, -n})
	}
	for b := range 32 {
		for _, r := range []rune{0, 'a', -1} {
			other := r ^ rune(uint32(1)<<b)
			grades(t, fmt.Sprintf("characters, bit %d", b), vec.Chars([]rune{r, other, r, other, other}))
			grades(t, fmt.Sprintf("characters, bit %d", b), vec.Chars([]rune{other, r}))
		}
	}
}

// Numbers that differ in two or three bits only, near to each other or far from it, so
// that they are told by one digit or by several.
func TestGradeOfSomeBits(t *testing.T) {
	for low := range 53 {
		for high := low + 1; high < 53; high++ {
			masks := []uint64{1<<low | 1<<high, 1<<low | 1<<high | 1<<((low+high)/2)}
			for _, mask := range masks {
				noise := mixed(9, uint64(64*low+high))
				gradesOf(t, fmt.Sprintf("bits %d to %d", low, high), list(9, func(i int) int64 { return int64(noise[i] & mask) }))
				gradesOf(t, fmt.Sprintf("bits %d to %d, negative", low, high), list(9, func(i int) int64 { return -int64(noise[i] & mask) }))
			}
		}
	}
	for seed := range uint64(300) {
		masks := mixed(3, seed)
		mask := masks[0] & masks[1] & (1<<53 - 1)
		noise := mixed(40, seed+7)
		gradesOf(t, "some bits", list(40, func(i int) int64 { return int64(noise[i]&mask) - int64(masks[2]>>63)*int64(mask/2) }))
		grades(t, "characters", vec.Chars(list(40, func(i int) rune { return rune(uint32(noise[i] & mask)) })))
	}
}

func TestGradeOfMany(t *testing.T) {
	noise := mixed(most+2, 3)
	gradesOf(t, "many bits", list(most, func(i int) int64 { return int64(noise[i] & 1) }))
	grades(t, "many smalls", smalls(list(most+2, func(i int) int8 { return int8(noise[i]) })...))
	grades(t, "many ints", ints(list(most+2, func(i int) int64 { return int64(noise[i])>>11 + int64(noise[i]&1) })...))
	grades(t, "many characters", vec.Chars(list(most+2, func(i int) rune { return rune(uint32(noise[i])) })))
	grades(t, "many in order", ints(list(most, func(i int) int64 { return int64(i) - most/2 })...))
	grades(t, "many backwards", ints(list(most, func(i int) int64 { return int64(most/2 - i) })...))
	grades(t, "many alike", text(string(make([]byte, most))))
}

// A list that is changed changes neither the vector nor the next list.
func TestGradeIsNewMemory(t *testing.T) {
	for what, v := range numbered() {
		for _, down := range ups {
			nums, runes := v.Nums(), v.Text()
			at, _ := radix.Grade(v, down)
			before := slices.Clone(at)
			for i := range at {
				at[i] = -9
			}
			if again, ok := radix.Grade(v, down); !ok || !slices.Equal(again, before) {
				t.Errorf("%s, down %t: %v, then %v", what, down, before, again)
			}
			if !slices.Equal(v.Nums(), nums) || !slices.Equal(v.Text(), runes) {
				t.Errorf("%s, down %t: the vector has changed", what, down)
			}
		}
	}
}

// The same numbers have the same grade in all kinds, but that of floats.
func TestGradeInAllKinds(t *testing.T) {
	for _, l := range [][]int64{{1, 0, 1, 1, 0, 0}, {30, -5, 30, 7}, steps([]int64{0, 1}, 200, 5), steps([]int64{-128, -1, 0, 127}, 200, 6)} {
		for _, down := range ups {
			want, _ := radix.Grade(ints(l...), down)
			for _, v := range kindsOf(l) {
				if at, ok := radix.Grade(v, down); !ok || !slices.Equal(at, want) {
					t.Errorf("kind %d, down %t: %v, %t, not %v", v.Kind(), down, few(at), ok, few(want))
				}
			}
			if at, ok := radix.Grade(floats(list(len(l), func(i int) float64 { return float64(l[i]) })...), down); ok || len(at) != 0 {
				t.Errorf("floats, down %t: %v, %t", down, few(at), ok)
			}
		}
	}
}

// P17.4: the properties

// likeElements checks that the keys of two vectors of one class are ordered like their
// elements.
func likeElements(t *testing.T, v, w vec.Vec) {
	t.Helper()
	a, ok := radix.Keys(v)
	b, too := radix.Keys(w)
	if !ok || !too || len(a) != v.Len() || len(b) != w.Len() {
		t.Fatalf("the keys of kinds %d and %d: %t, %t", v.Kind(), w.Kind(), ok, too)
	}
	for i := range a {
		for k := range b {
			if want, _ := order.Compare(v, i, w, k); cmp.Compare(a[i], b[k]) != want {
				t.Errorf("element %d of kind %d and element %d of kind %d have the keys %x and %x", i, v.Kind(), k, w.Kind(), a[i], b[k])
			}
		}
	}
}

func TestKeysAreOrderedLikeElements(t *testing.T) {
	vectors := kindsOf([]int64{1, 0, 1, 1})
	vectors = append(vectors, kindsOf(list(256, func(i int) int64 { return int64(127 - i) }))...)
	vectors = append(vectors, kindsOf(whole())...)
	for _, v := range vectors {
		for _, w := range vectors {
			likeElements(t, v, w)
		}
	}
	runes := vec.Chars(alphabet())
	likeElements(t, runes, runes)
	likeElements(t, runes, text("abracadabra"))
	likeElements(t, text("abracadabra"), runes)
}

// permuted checks that two lists have the same places, each as often as the other one.
func permuted(t *testing.T, what string, a, b []int) {
	t.Helper()
	one, other := slices.Clone(a), slices.Clone(b)
	slices.Sort(one)
	slices.Sort(other)
	if !slices.Equal(one, other) {
		t.Errorf("%s: %v becomes %v", what, few(a), few(b))
	}
}

func TestPassPermutes(t *testing.T) {
	for _, n := range []int{0, 1, 2, 7, 100} {
		keys := mixed(n, uint64(n))
		for _, at := range placings(n) {
			for shift := range uint(64) {
				for _, down := range ups {
					permuted(t, fmt.Sprintf("shift %d, down %t", shift, down), at, radix.Pass(keys, at, shift, down))
				}
			}
		}
	}
	for _, shift := range []uint{0, 11, 63, 64, math.MaxUint} {
		at := slices.Concat(far, []int{0, 1, 2, 2})
		permuted(t, "places without a key", at, radix.Pass([]uint64{3, 2, 1}, at, shift, true))
	}
}

// Grade and Bits tell each place once.
func TestGradePermutes(t *testing.T) {
	for what, v := range numbered() {
		for _, down := range ups {
			at, _ := radix.Grade(v, down)
			permuted(t, what, ascending(v.Len()), at)
			if _, each := order.Invert(at); !each {
				t.Errorf("%s: %v", what, at)
			}
			if p, ok := v.Packed(); ok {
				permuted(t, what, ascending(v.Len()), radix.Bits(p, down))
			}
		}
	}
}

// A Pass of the keys by the digits that differ is what Grade tells.
func TestGradeIsByKeys(t *testing.T) {
	for what, v := range numbered() {
		keys, _ := radix.Keys(v)
		for _, down := range ups {
			at := ascending(len(keys))
			for shift := uint(0); shift < 64; shift += width {
				at = radix.Pass(keys, at, shift, down)
			}
			if z, ok := radix.Grade(v, down); !ok || !slices.Equal(z, at) {
				t.Errorf("%s, down %t: %v, %t, not %v", what, down, z, ok, at)
			}
		}
	}
}

// The chapter's examples.

func TestExamples(t *testing.T) {
	v := smalls(30, -5, 30, 7)
	if at, ok := radix.Grade(v, false); !ok || !slices.Equal(at, []int{1, 3, 0, 2}) {
		t.Error("upwards:", at, ok)
	}
	if at, ok := radix.Grade(v, true); !ok || !slices.Equal(at, []int{0, 2, 3, 1}) {
		t.Error("downwards:", at, ok)
	}
	if at, ok := radix.Grade(floats(0.5), false); ok || len(at) != 0 {
		t.Error("0.5:", at, ok)
	}
	if at := radix.Bits(bitvec.Pack([]bool{true, false, true}), false); !slices.Equal(at, []int{1, 0, 2}) {
		t.Error("bits:", at)
	}
	if at := radix.Pass([]uint64{5 << 11, 3 << 11, 5 << 11}, []int{0, 1, 2}, 11, true); !slices.Equal(at, []int{0, 2, 1}) {
		t.Error("a pass:", at)
	}
}
