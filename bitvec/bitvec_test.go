package bitvec_test

import (
	"math"
	"math/bits"
	"slices"
	"testing"

	"rebus/api"
	"rebus/bitvec"
)

// lengths lists lengths at and about multiples of 64.
func lengths() []int {
	return []int{0, 1, 2, 3, 31, 62, 63, 64, 65, 66, 126, 127, 128, 129, 130, 191, 192, 193, 1000}
}

// patterns lists booleans of one length: none true, all, some, one at a time.
func patterns(n int) [][]bool {
	rules := []func(i int) bool{
		func(i int) bool { return false },
		func(i int) bool { return true },
		func(i int) bool { return i%2 == 0 },
		func(i int) bool { return i%3 == 1 },
		func(i int) bool { return i == n-1 },
		func(i int) bool { return i == 0 },
		func(i int) bool { return i == 63 },
		func(i int) bool { return i == 64 },
		func(i int) bool { return i >= 64 },
		func(i int) bool { return i < 64 },
		func(i int) bool { return uint32(i*i+7*i+3)*2654435761>>31 == 1 },
		func(i int) bool { return uint32(i+1)*2246822519>>29 == 3 },
	}
	var all [][]bool
	for _, rule := range rules {
		l := make([]bool, n)
		for i := range l {
			l[i] = rule(i)
		}
		all = append(all, l)
	}
	return all
}

// every calls f with patterns of all lengths.
func every(f func(l []bool)) {
	for _, n := range lengths() {
		for _, l := range patterns(n) {
			f(l)
		}
	}
}

// some makes n booleans of which the given ones are true.
func some(n int, ones ...int) []bool {
	l := make([]bool, n)
	for _, i := range ones {
		l[i] = true
	}
	return l
}

// check holds a vector against booleans, in all ways that tell its contents.
func check(t *testing.T, what string, b bitvec.Bits, want []bool) {
	t.Helper()
	if b.Len() != len(want) || !slices.Equal(b.Unpack(), want) {
		t.Errorf("%s: %v, not %v", what, b.Unpack(), want)
	}
	if !slices.Equal(b.Words(), wordsOf(want)) {
		t.Errorf("%s: words %x, not %x", what, b.Words(), wordsOf(want))
	}
	if !b.Tidy() {
		t.Errorf("%s: not tidy: %d booleans in %x", what, b.Len(), b.Words())
	}
}

// wordsOf packs booleans one by one.
func wordsOf(l []bool) []uint64 {
	var words []uint64
	for i, x := range l {
		if i%64 == 0 {
			words = append(words, 0)
		}
		if x {
			words[i/64] += uint64(1) << (i % 64)
		}
	}
	return words
}

// trues counts the true ones.
func trues(l []bool) int {
	n := 0
	for _, x := range l {
		if x {
			n++
		}
	}
	return n
}

// P2.1

func TestMake(t *testing.T) {
	for _, n := range lengths() {
		check(t, "Make of false", bitvec.Make(n, false), make([]bool, n))
		check(t, "Make of true", bitvec.Make(n, true), slices.Repeat([]bool{true}, n))
	}
	for _, n := range []int{-1, -4, -64, math.MinInt} {
		for _, b := range []bool{false, true} {
			check(t, "Make of a negative count", bitvec.Make(n, b), nil)
		}
	}
}

func TestMakeOfMany(t *testing.T) {
	for _, n := range []int{api.MaxCells - 1, api.MaxCells, api.MaxCells + 1, api.MaxCells + 64, math.MaxInt} {
		want := min(n, api.MaxCells)
		x := bitvec.Make(n, true)
		if x.Len() != want || x.Count() != want || !x.Tidy() {
			t.Errorf("Make(%d, true): %d booleans, %d true", n, x.Len(), x.Count())
		}
		y := bitvec.Make(n, false)
		if y.Len() != want || y.Count() != 0 || !y.Tidy() {
			t.Errorf("Make(%d, false): %d booleans, %d true", n, y.Len(), y.Count())
		}
	}
}

func TestPack(t *testing.T) {
	every(func(l []bool) { check(t, "Pack", bitvec.Pack(l), l) })
	check(t, "Pack of nil", bitvec.Pack(nil), nil)
	if got := bitvec.Pack(some(3, 1, 2)).Words(); !slices.Equal(got, []uint64{6}) {
		t.Errorf("Pack of 0 1 1 has words %d", got)
	}
}

func TestPackOfMany(t *testing.T) {
	l := make([]bool, api.MaxCells+130)
	for i := range l {
		l[i] = i%5 == 0 || i >= api.MaxCells
	}
	for _, n := range []int{api.MaxCells - 1, api.MaxCells, api.MaxCells + 1, len(l)} {
		b := bitvec.Pack(l[:n])
		want := l[:min(n, api.MaxCells)]
		if b.Len() != len(want) || !slices.Equal(b.Unpack(), want) || !b.Tidy() {
			t.Errorf("Pack of %d booleans: Len %d, Count %d", n, b.Len(), b.Count())
		}
	}
}

func TestAt(t *testing.T) {
	every(func(l []bool) {
		b := bitvec.Pack(l)
		for i, want := range l {
			if b.At(i) != want {
				t.Errorf("At(%d) of %v", i, l)
			}
		}
	})
	for _, n := range lengths() {
		b := bitvec.Make(n, true)
		for _, i := range []int{math.MinInt, -65, -64, -1, n, n + 1, n + 63, n + 64, math.MaxInt} {
			if b.At(i) {
				t.Errorf("At(%d) of %d booleans is true", i, n)
			}
		}
	}
}

func TestEqual(t *testing.T) {
	every(func(l []bool) {
		b := bitvec.Pack(l)
		if !bitvec.Equal(b, bitvec.Pack(l)) || !bitvec.Equal(b, b.Not().Not()) {
			t.Errorf("not Equal to itself: %v", l)
		}
		for i := range l {
			other := slices.Clone(l)
			other[i] = !other[i]
			if bitvec.Equal(b, bitvec.Pack(other)) || bitvec.Equal(bitvec.Pack(other), b) {
				t.Errorf("Equal, but for index %d of %v", i, l)
			}
		}
		for _, longer := range [][]bool{append(slices.Clone(l), false), append(slices.Clone(l), true)} {
			if bitvec.Equal(b, bitvec.Pack(longer)) || bitvec.Equal(bitvec.Pack(longer), b) {
				t.Errorf("Equal: %v and %v", l, longer)
			}
		}
	})
	if !bitvec.Equal(bitvec.Bits{}, bitvec.Make(0, true)) || !bitvec.Equal(bitvec.Pack(nil), bitvec.Pack([]bool{})) {
		t.Error("empty vectors are not Equal")
	}
}

func TestZeroValue(t *testing.T) {
	var b bitvec.Bits
	check(t, "the zero value", b, nil)
	check(t, "Not", b.Not(), nil)
	check(t, "Parity", b.Parity(), nil)
	check(t, "Fill", b.Fill(), nil)
	check(t, "Cut", b.Cut(-1, 5), nil)
	if b.At(0) || b.Count() != 0 || b.Rank(1) != 0 || b.Rank(-1) != 0 || b.First() != 0 || len(b.Ones()) != 0 {
		t.Errorf("the zero value: Count %d, First %d, Ones %d", b.Count(), b.First(), b.Ones())
	}
	z, ok := bitvec.Truth(15, b, b)
	if !ok {
		t.Error("Truth of zero values is false")
	}
	check(t, "Truth", z, nil)
	if z, ok = bitvec.Truth(15, b, bitvec.Make(1, true)); ok || z.Len() != 0 {
		t.Error("Truth of the zero value and one boolean")
	}
	if z, ok = bitvec.Truth(15, b, bitvec.Make(-9, true)); !ok || z.Len() != 0 {
		t.Error("Truth of the zero value and an empty vector")
	}
}

// P2.2

func TestTruth(t *testing.T) {
	for _, n := range lengths() {
		all := patterns(n)
		for k, x := range all {
			y := all[(5*k+3)%len(all)]
			for table := range 256 {
				z, ok := bitvec.Truth(uint8(table), bitvec.Pack(x), bitvec.Pack(y))
				if !ok {
					t.Fatalf("Truth(%d) of two of length %d is false", table, n)
				}
				check(t, "Truth", z, truth(table, x, y))
			}
		}
	}
}

// truth looks each pair up in a table.
func truth(table int, x, y []bool) []bool {
	z := make([]bool, len(x))
	for i := range x {
		at := 0
		if x[i] {
			at += 2
		}
		if y[i] {
			at++
		}
		z[i] = table/[]int{1, 2, 4, 8}[at]%2 == 1
	}
	return z
}

func TestTruthOfUnlikeLengths(t *testing.T) {
	for _, m := range lengths() {
		for _, n := range lengths() {
			if m == n {
				continue
			}
			for _, table := range []uint8{0, 6, 8, 15, 255} {
				z, ok := bitvec.Truth(table, bitvec.Make(m, true), bitvec.Make(n, true))
				if ok {
					t.Errorf("Truth(%d) of lengths %d and %d is true", table, m, n)
				}
				check(t, "Truth of unlike lengths", z, nil)
			}
		}
	}
}

func TestNot(t *testing.T) {
	every(func(l []bool) {
		want := make([]bool, len(l))
		for i, x := range l {
			want[i] = !x
		}
		check(t, "Not", bitvec.Pack(l).Not(), want)
		check(t, "Not of Not", bitvec.Pack(l).Not().Not(), l)
	})
}

// P2.3

func TestCountAndRank(t *testing.T) {
	every(func(l []bool) {
		b := bitvec.Pack(l)
		if b.Count() != trues(l) {
			t.Errorf("Count is %d of %v", b.Count(), l)
		}
		for at := range len(l) + 1 {
			if got := b.Rank(at); got != trues(l[:at]) {
				t.Errorf("Rank(%d) is %d of %v", at, got, l)
			}
		}
		for _, at := range []int{math.MinInt, -65, -64, -1} {
			if got := b.Rank(at); got != 0 {
				t.Errorf("Rank(%d) is %d of %v", at, got, l)
			}
		}
		for _, at := range []int{len(l) + 1, len(l) + 64, math.MaxInt} {
			if got := b.Rank(at); got != trues(l) {
				t.Errorf("Rank(%d) is %d of %v", at, got, l)
			}
		}
	})
}

func TestFirstAndOnes(t *testing.T) {
	every(func(l []bool) {
		b := bitvec.Pack(l)
		var ones []int
		for i, x := range l {
			if x {
				ones = append(ones, i)
			}
		}
		if got := b.Ones(); !slices.Equal(got, ones) {
			t.Errorf("Ones is %d of %v", got, l)
		}
		first := len(l)
		if len(ones) > 0 {
			first = ones[0]
		}
		if got := b.First(); got != first {
			t.Errorf("First is %d of %v", got, l)
		}
	})
}

func TestFirstOfEachIndex(t *testing.T) {
	const n = 200
	for i := range n {
		b := bitvec.Pack(some(n, i))
		if b.First() != i || !slices.Equal(b.Ones(), []int{i}) || b.Count() != 1 {
			t.Errorf("index %d alone: First %d, Ones %d, Count %d", i, b.First(), b.Ones(), b.Count())
		}
		if b := bitvec.Pack(some(n, i, n-1)); b.First() != i {
			t.Errorf("indices %d and %d: First %d", i, n-1, b.First())
		}
	}
}

// P2.4

func TestParityAndFill(t *testing.T) {
	every(func(l []bool) {
		odd, any := make([]bool, len(l)), make([]bool, len(l))
		for i := range l {
			odd[i] = trues(l[:i+1])%2 == 1
			any[i] = trues(l[:i+1]) > 0
		}
		check(t, "Parity", bitvec.Pack(l).Parity(), odd)
		check(t, "Fill", bitvec.Pack(l).Fill(), any)
	})
}

func TestParityAndFillOfEachIndex(t *testing.T) {
	const n = 200
	for i := range n {
		want := append(make([]bool, i), slices.Repeat([]bool{true}, n-i)...)
		check(t, "Parity of one", bitvec.Pack(some(n, i)).Parity(), want)
		check(t, "Fill of one", bitvec.Pack(some(n, i)).Fill(), want)
	}
}

func TestCut(t *testing.T) {
	for _, n := range []int{0, 1, 63, 64, 65, 130, 200} {
		for _, l := range patterns(n) {
			b := bitvec.Pack(l)
			for from := 0; from <= n; from += 1 + from%7 {
				for to := from; to <= n; to += 1 + to%5 {
					check(t, "Cut", b.Cut(from, to), l[from:to])
				}
			}
			check(t, "Cut of all", b.Cut(0, n), l)
		}
	}
}

func TestCutOutside(t *testing.T) {
	every(func(l []bool) {
		b, n := bitvec.Pack(l), len(l)
		check(t, "Cut from below", b.Cut(-1, n), l)
		check(t, "Cut from far below", b.Cut(math.MinInt, n/2), l[:n/2])
		check(t, "Cut to above", b.Cut(0, n+1), l)
		check(t, "Cut to far above", b.Cut(n/2, math.MaxInt), l[n/2:])
		check(t, "Cut of all and more", b.Cut(math.MinInt, math.MaxInt), l)
		check(t, "Cut below all", b.Cut(-9, -3), nil)
		check(t, "Cut above all", b.Cut(n, n+70), nil)
		check(t, "Cut far above all", b.Cut(n+64, math.MaxInt), nil)
		check(t, "Cut of none", b.Cut(n/2, n/2), nil)
		check(t, "Cut not ascending", b.Cut(n, 0), nil)
		check(t, "Cut not ascending, from outside", b.Cut(math.MaxInt, math.MinInt), nil)
	})
	check(t, "Cut not ascending", bitvec.Make(200, true).Cut(70, 60), nil)
	check(t, "Cut not ascending", bitvec.Make(200, true).Cut(131, 130), nil)
}

// P2.5

func TestEndsOfRankAndParity(t *testing.T) {
	every(func(l []bool) {
		b := bitvec.Pack(l)
		if b.Rank(b.Len()) != b.Count() {
			t.Errorf("Rank at Len is %d, Count is %d", b.Rank(b.Len()), b.Count())
		}
		if n := b.Len(); n > 0 && b.Parity().At(n-1) != (b.Count()%2 == 1) {
			t.Errorf("the last of Parity is %v, Count is %d", b.Parity().At(n-1), b.Count())
		}
	})
}

func TestMany(t *testing.T) {
	for _, n := range []int{api.MaxCells - 1, api.MaxCells} {
		b := bitvec.Pack(some(n, 100, 5000, n-1))
		if b.Count() != 3 || b.Rank(n-1) != 2 || b.First() != 100 || !slices.Equal(b.Ones(), []int{100, 5000, n - 1}) {
			t.Errorf("%d booleans: Count %d, First %d, Ones %d", n, b.Count(), b.First(), b.Ones())
		}
		both, ok := bitvec.Truth(6, b, b.Not())
		if !ok || both.Count() != n {
			t.Errorf("%d booleans or their contraries: %d, %v", n, both.Count(), ok)
		}
		parity, fill, cut := b.Parity(), b.Fill(), b.Cut(1, n)
		if parity.Count() != 4901 || fill.Count() != n-100 || cut.Len() != n-1 || cut.Count() != 3 {
			t.Errorf("%d booleans: Parity %d, Fill %d, Cut %d", n, parity.Count(), fill.Count(), cut.Len())
		}
		for _, x := range []bitvec.Bits{b, b.Not(), both, parity, fill, cut} {
			if !x.Tidy() || len(x.Words()) != (x.Len()+63)/64 || ones(x.Words()) != x.Count() {
				t.Errorf("of %d booleans, %d are not tidy", n, x.Len())
			}
		}
	}
}

// ones counts the bits of words, those behind the last boolean among them.
func ones(words []uint64) int {
	n := 0
	for _, w := range words {
		n += bits.OnesCount64(w)
	}
	return n
}

// Memory: nothing is changed or shared.

func TestArgumentsAreLeft(t *testing.T) {
	l := some(130, 3, 64, 65, 129)
	kept := slices.Clone(l)
	b := bitvec.Pack(l[:100])
	if !slices.Equal(l, kept) {
		t.Error("Pack changed its argument")
	}
	clear(l)
	check(t, "Pack of what changed afterwards", b, kept[:100])

	x := bitvec.Pack(kept)
	y := x.Not()
	bitvec.Truth(6, x, y)
	x.Parity()
	x.Fill()
	x.Cut(0, 130)
	x.Cut(1, 7)
	check(t, "an argument", x, kept)
}

func TestAnswersAreNewMemory(t *testing.T) {
	kept := some(130, 3, 64, 65, 129)
	b := bitvec.Pack(kept)
	whole := b.Cut(0, b.Len())
	clear(b.Words())
	clear(b.Unpack())
	clear(b.Ones())
	_ = append(b.Words()[:1], 9)
	check(t, "a vector whose answers were changed", b, kept)
	check(t, "a part of it", whole, kept)
	if !slices.Equal(b.Ones(), []int{3, 64, 65, 129}) {
		t.Errorf("Ones is %d after an earlier answer was changed", b.Ones())
	}
}

// The chapter's examples.

func TestExamples(t *testing.T) {
	x := bitvec.Pack([]bool{false, true, true})
	if !slices.Equal(x.Words(), []uint64{6}) || x.Count() != 2 || !slices.Equal(x.Ones(), []int{1, 2}) {
		t.Errorf("0 1 1: Words %d, Count %d, Ones %d", x.Words(), x.Count(), x.Ones())
	}
	check(t, "Parity of 0 1 1", x.Parity(), some(3, 1))
	check(t, "Fill of 0 1 1", x.Fill(), some(3, 1, 2))

	b := bitvec.Pack(some(130, 3, 64, 65, 129))
	if b.Count() != 4 || b.Rank(65) != 2 || b.First() != 3 || b.At(130) {
		t.Errorf("130: Count %d, Rank(65) %d, First %d", b.Count(), b.Rank(65), b.First())
	}
	check(t, "Cut(60, 70)", b.Cut(60, 70), some(10, 4, 5))
	z, ok := bitvec.Truth(6, b, b.Not())
	if !ok || !bitvec.Equal(z, bitvec.Make(130, true)) {
		t.Errorf("Truth(6) of a vector and its contrary: %v", z.Unpack())
	}
	if n := bitvec.Make(-4, true); n.Len() != 0 || n.First() != 0 {
		t.Errorf("Make(-4, true): Len %d, First %d", n.Len(), n.First())
	}
}
