package shape_test

import (
	"math"
	"math/big"
	"slices"
	"testing"

	"rebus/api"
	"rebus/shape"
)

// most is the greatest number of elements, which is also that of the product of
// all lengths other than 0.
const most = 1 << 20

// strange lists numbers that are neither a length, nor an index, nor a position,
// nor an axis of any shape that may be.
var strange = []int{-1, -2, -8, -most, math.MinInt32, -1 << 32, math.MinInt, math.MinInt + 1}

// goods lists shapes that may be, all edges among them.
func goods() [][]int {
	return [][]int{
		nil, {}, {0}, {1}, {2}, {5}, {2, 3}, {3, 2}, {2, 3, 4}, {4, 3, 2}, {3, 1, 2}, {1, 1}, {1, 7}, {7, 1}, {5, 5},
		{0, 0}, {3, 0}, {0, 3}, {2, 0, 3}, {0, 2, 3}, {2, 3, 0}, {2, 0, 3, 0, 4}, {0, 0, 0, 2},
		{2, 1, 3, 1, 2, 1, 2, 1}, {1, 1, 1, 1, 1, 1, 1, 1}, {2, 2, 2, 2, 2, 2, 2, 2}, {0, 0, 0, 0, 0, 0, 0, 0},
		{3, 2, 3, 2, 0, 2, 3, 2}, {5, 5, 5, 5, 5, 5, 5, 5}, {1, 2, 3, 4, 5, 6, 7}, {8, 7, 6, 5, 4, 3, 2, 1},
		{most}, {most - 1}, {1, most}, {most, 1}, {0, most}, {most, 0}, {0, most, 0}, {1, most, 1}, {most / 2, 2}, {2, most / 2},
		{1024, 1024}, {1023, 1025}, {1025, 1023}, {1024, 0, 1024}, {0, 1024, 1024}, {1024, 1024, 0}, {3, 349525}, {349525, 3},
		{32, 32, 32, 32}, {32, 0, 32, 32, 0, 32}, {1, 1, 1, 1, 1, 1, 1, most}, {most, 0, 0, 0, 0, 0, 0, 0},
		{2, 4, 8, 16, 32, 32}, {1024, 1, 1024, 0, 1},
	}
}

// bad is a shape that may not be, and why.
type bad struct {
	s   []int
	err api.Errno
}

// bads lists shapes that may not be.
func bads() []bad {
	list := []bad{
		{[]int{most + 1}, api.ErrLimit}, {[]int{1, most + 1}, api.ErrLimit}, {[]int{most + 1, 1}, api.ErrLimit},
		{[]int{0, most + 1}, api.ErrLimit}, {[]int{most + 1, 0}, api.ErrLimit}, {[]int{2, most}, api.ErrLimit},
		{[]int{most, 2}, api.ErrLimit}, {[]int{1024, 1025}, api.ErrLimit}, {[]int{1025, 1024}, api.ErrLimit},
		{[]int{2048, 0, 1024}, api.ErrLimit}, {[]int{0, 2048, 1024}, api.ErrLimit}, {[]int{2048, 1024, 0}, api.ErrLimit},
		{[]int{most, 0, 2}, api.ErrLimit}, {[]int{3, 349526}, api.ErrLimit}, {[]int{349526, 3}, api.ErrLimit},
		{[]int{17, 61681}, api.ErrLimit}, // 2^20 + 1
		{[]int{6, 6, 6, 6, 6, 6, 6, 6}, api.ErrLimit}, {[]int{2, 4, 8, 16, 32, 32, 2}, api.ErrLimit},
		// Products that wrap round to small ones.
		{[]int{1 << 32, 1 << 32}, api.ErrLimit}, {[]int{1 << 31, 1 << 31, 4}, api.ErrLimit}, {[]int{1 << 62, 4}, api.ErrLimit},
		{[]int{math.MaxInt, math.MaxInt}, api.ErrLimit}, {[]int{3, 6148914691236517206}, api.ErrLimit},
		{[]int{6148914691236517206, 3}, api.ErrLimit}, {[]int{65536, 65536, 65536, 65536}, api.ErrLimit},
		{[]int{math.MaxInt}, api.ErrLimit}, {[]int{math.MaxInt, 0}, api.ErrLimit}, {[]int{0, math.MaxInt}, api.ErrLimit},
		{[]int{math.MaxInt, 2}, api.ErrLimit}, {[]int{2, math.MaxInt}, api.ErrLimit}, {[]int{1 << 40, 1 << 40}, api.ErrLimit},
		{[]int{256, 256, 256, 256, 256, 256, 256, 256}, api.ErrLimit}, {[]int{1 << 32}, api.ErrLimit}, {[]int{1<<32 + 1}, api.ErrLimit},
		// A negative length counts more than too many elements do.
		{[]int{-1, most + 1}, api.ErrDomain}, {[]int{most + 1, -1}, api.ErrDomain}, {[]int{2048, 2048, -1}, api.ErrDomain},
		{[]int{math.MaxInt, math.MinInt}, api.ErrDomain}, {[]int{-2, -3}, api.ErrDomain}, {[]int{1 << 32, 1 << 32, -5}, api.ErrDomain},
		{[]int{1, 1, 1, 1, 1, 1, 1, -1}, api.ErrDomain}, {[]int{-1, 1, 1, 1, 1, 1, 1, 1}, api.ErrDomain},
	}
	for _, n := range strange {
		list = append(list, bad{[]int{n}, api.ErrDomain}, bad{[]int{n, 0}, api.ErrDomain}, bad{[]int{0, n}, api.ErrDomain},
			bad{[]int{2, n, 3}, api.ErrDomain}, bad{[]int{n, n}, api.ErrDomain})
	}
	// More than 8 axes count more than a negative length does.
	for _, n := range []int{-1, 0, 1, 2, most, math.MinInt, math.MaxInt} {
		for _, axes := range []int{9, 10, 64, 300} {
			list = append(list, bad{slices.Repeat([]int{n}, axes), api.ErrLimit})
		}
	}
	return append(list,
		bad{[]int{0, 1, 2, 3, 4, 5, 6, 7, 8}, api.ErrLimit}, bad{[]int{1, 1, 1, 1, 1, 1, 1, 1, -1}, api.ErrLimit},
		bad{[]int{-1, 1, 1, 1, 1, 1, 1, 1, 1}, api.ErrLimit})
}

// variety lists all shapes of up to 4 axes of some lengths, wrong ones among
// them, and the shapes of goods and bads.
func variety() [][]int {
	list := goods()
	for _, b := range bads() {
		list = append(list, b.s)
	}
	layer := [][]int{nil}
	for range 4 {
		var longer [][]int
		for _, s := range layer {
			for _, n := range []int{-1, 0, 1, 2, 3, 1 << 10, 1<<10 + 1, 1 << 19, most, most + 1, 1 << 32} {
				longer = append(longer, append(slices.Clone(s), n))
			}
		}
		list = append(list, longer...)
		layer = longer
	}
	return list
}

// product is what Product must tell, reckoned without a limit on numbers.
func product(s []int, limit int) (int, api.Errno) {
	all, others := big.NewInt(1), big.NewInt(1)
	negative := false
	for _, n := range s {
		all.Mul(all, big.NewInt(int64(n)))
		if n != 0 {
			others.Mul(others, big.NewInt(int64(n)))
		}
		negative = negative || n < 0
	}
	switch {
	case len(s) > 8:
		return 0, api.ErrLimit
	case negative:
		return 0, api.ErrDomain
	case others.Cmp(big.NewInt(most)) > 0 || all.Cmp(big.NewInt(int64(limit))) > 0:
		return 0, api.ErrLimit
	}
	return int(all.Int64()), api.OK
}

// good tells whether a shape may be.
func good(s []int) bool {
	_, err := product(s, most)
	return err == api.OK
}

// elements lists the indices of all elements of a shape that may be, row by row.
func elements(s []int) [][]int {
	list := [][]int{{}}
	for _, n := range s {
		var longer [][]int
		for _, idx := range list {
			for i := range n {
				longer = append(longer, append(slices.Clone(idx), i))
			}
		}
		list = longer
	}
	return list
}

// small tells whether a shape has so few elements that all of them can be gone
// through.
func small(s []int) bool {
	n, err := product(s, most)
	return err == api.OK && n <= 40000
}

// P6.1

func TestProduct(t *testing.T) {
	limits := []int{
		0, 1, 2, 3, 4, 5, 6, 9, 23, 24, 25, 255, 256, 1<<10 - 1, 1 << 10, 1<<19 - 1, 1 << 19, most - 2, most - 1, most, most + 1,
		1 << 32, math.MaxInt, -1, -2, math.MinInt,
	}
	for _, s := range variety() {
		for _, limit := range limits {
			want, wanted := product(s, limit)
			if got, err := shape.Product(s, limit); got != want || err != wanted {
				t.Errorf("Product(%d, %d) is %d, %d, not %d, %d", s, limit, got, err, want, wanted)
			}
		}
	}
}

func TestProductAtTheEdge(t *testing.T) {
	cases := []struct {
		s     []int
		limit int
		want  int
		err   api.Errno
	}{
		{[]int{2, 3, 4}, 24, 24, api.OK},
		{[]int{2, 3, 4}, 23, 0, api.ErrLimit},
		{[]int{1024, 0, 1024}, 0, 0, api.OK},
		{[]int{1024, 0, 1024}, -1, 0, api.ErrLimit},
		{[]int{2048, 0, 1024}, most, 0, api.ErrLimit},
		{[]int{-1, 0}, 9, 0, api.ErrDomain},
		{[]int{-1, 0}, -1, 0, api.ErrDomain},
		{nil, 1, 1, api.OK},
		{nil, 0, 0, api.ErrLimit},
		{[]int{0}, 0, 0, api.OK},
		{[]int{1024, 1024}, most, most, api.OK},
		{[]int{1024, 1024}, most - 1, 0, api.ErrLimit},
		{[]int{1024, 1025}, math.MaxInt, 0, api.ErrLimit},
		{[]int{most + 1}, math.MaxInt, 0, api.ErrLimit},
		{[]int{1, 1, 1, 1, 1, 1, 1, 1}, 1, 1, api.OK},
		{[]int{1, 1, 1, 1, 1, 1, 1, 1, 1}, 1, 0, api.ErrLimit},
		{[]int{-1, 1, 1, 1, 1, 1, 1, 1, 1}, 1, 0, api.ErrLimit},
		{[]int{2048, 2048, -1}, most, 0, api.ErrDomain},
	}
	for _, c := range cases {
		if got, err := shape.Product(c.s, c.limit); got != c.want || err != c.err {
			t.Errorf("Product(%d, %d) is %d, %d, not %d, %d", c.s, c.limit, got, err, c.want, c.err)
		}
	}
}

func TestProductAtMostItself(t *testing.T) {
	for _, s := range goods() {
		want, _ := product(s, most)
		for _, limit := range []int{want, want + 1, math.MaxInt} {
			if got, err := shape.Product(s, limit); got != want || err != api.OK {
				t.Errorf("Product(%d, %d) is %d, %d, not %d", s, limit, got, err, want)
			}
		}
		for _, limit := range []int{want - 1, -1, math.MinInt} {
			if got, err := shape.Product(s, limit); got != 0 || err != api.ErrLimit {
				t.Errorf("Product(%d, %d) is %d, %d, not ErrLimit", s, limit, got, err)
			}
		}
	}
	for _, b := range bads() {
		for _, limit := range []int{0, 1, most, math.MaxInt, -1, math.MinInt} {
			if got, err := shape.Product(b.s, limit); got != 0 || err != b.err {
				t.Errorf("Product(%d, %d) is %d, %d, not %d", b.s, limit, got, err, b.err)
			}
		}
	}
}

func TestGood(t *testing.T) {
	for _, s := range goods() {
		if !shape.Good(s) {
			t.Errorf("%d is not Good", s)
		}
	}
	for _, b := range bads() {
		if shape.Good(b.s) {
			t.Errorf("%d is Good", b.s)
		}
	}
	for _, s := range variety() {
		if shape.Good(s) != good(s) {
			t.Errorf("Good(%d) is not %v", s, good(s))
		}
	}
}

// P6.2

func TestStrides(t *testing.T) {
	for _, s := range variety() {
		var want []int
		if good(s) {
			for axis := range s {
				stride := 1
				for _, n := range s[axis+1:] {
					if n != 0 {
						stride *= n
					}
				}
				want = append(want, stride)
			}
		}
		if got := shape.Strides(s); !slices.Equal(got, want) {
			t.Errorf("Strides(%d) is %d, not %d", s, got, want)
		}
	}
}

func TestStridesAtTheEdge(t *testing.T) {
	cases := []struct{ s, want []int }{
		{nil, nil},
		{[]int{7}, []int{1}},
		{[]int{0}, []int{1}},
		{[]int{2, 3, 4}, []int{12, 4, 1}},
		{[]int{2, 0, 4}, []int{4, 4, 1}},
		{[]int{0, 3, 0}, []int{3, 1, 1}},
		{[]int{2, most / 2}, []int{most / 2, 1}},
		{[]int{0, most}, []int{most, 1}},
		{[]int{2, most}, nil},
		{[]int{2, -1}, nil},
		{[]int{1, 1, 1, 1, 1, 1, 1, 1, 1}, nil},
	}
	for _, c := range cases {
		if got := shape.Strides(c.s); !slices.Equal(got, c.want) {
			t.Errorf("Strides(%d) is %d, not %d", c.s, got, c.want)
		}
	}
}

// A step along an axis is as far as its stride.
func TestStridesAreSteps(t *testing.T) {
	for _, s := range goods() {
		if !small(s) {
			continue
		}
		strides := shape.Strides(s)
		for at, idx := range elements(s) {
			for axis := range s {
				next := slices.Clone(idx)
				next[axis]++
				want, wanted := at+strides[axis], next[axis] < s[axis]
				if !wanted {
					want = 0
				}
				if got, ok := shape.At(s, next); got != want || ok != wanted {
					t.Errorf("At(%d, %d) is %d, %v, not %d, %v", s, next, got, ok, want, wanted)
				}
			}
		}
	}
}

// P6.3 and P6.5

// none tells that there is no answer, and nothing beside that.
func none(l []int, ok bool) bool { return !ok && len(l) == 0 }

func TestEachElement(t *testing.T) {
	for _, s := range goods() {
		if !small(s) {
			continue
		}
		all := elements(s)
		for i, idx := range all {
			if at, ok := shape.At(s, idx); at != i || !ok {
				t.Errorf("At(%d, %d) is %d, %v, not %d", s, idx, at, ok, i)
			}
			if got, ok := shape.Index(s, i); !ok || !slices.Equal(got, idx) {
				t.Errorf("Index(%d, %d) is %d, %v, not %d", s, i, got, ok, idx)
			}
			got, ok := shape.Next(s, idx)
			if i+1 < len(all) && (!ok || !slices.Equal(got, all[i+1])) {
				t.Errorf("Next(%d, %d) is %d, %v, not %d", s, idx, got, ok, all[i+1])
			}
			if i+1 == len(all) && !none(got, ok) {
				t.Errorf("Next(%d, %d) is %d, %v behind the last one", s, idx, got, ok)
			}
		}
	}
}

// The first and last elements of each shape, and some between, of shapes with
// many elements too.
func TestElementsOfMany(t *testing.T) {
	for _, s := range goods() {
		cells, _ := product(s, most)
		for _, at := range []int{0, 1, 2, 3, 1023, 1024, 1025, 1049, cells / 3, cells / 2, cells - 1025, cells - 1024, cells - 2, cells - 1} {
			idx, ok := shape.Index(s, at)
			if at < 0 || at >= cells {
				if !none(idx, ok) {
					t.Errorf("Index(%d, %d) is %d, %v", s, at, idx, ok)
				}
				continue
			}
			want := 0
			for axis, n := range s {
				if ok && len(idx) == len(s) && idx[axis] >= 0 && idx[axis] < n {
					want = want*n + idx[axis]
				} else {
					t.Fatalf("Index(%d, %d) is %d, %v", s, at, idx, ok)
				}
			}
			if want != at {
				t.Errorf("Index(%d, %d) is %d", s, at, idx)
			}
			if got, ok := shape.At(s, idx); got != at || !ok {
				t.Errorf("At(%d, %d) is %d, %v, not %d", s, idx, got, ok, at)
			}
		}
	}
}

// walked tells how many elements Next visits, the first one among them, and
// whether each lies just behind the one before it.
func walked(s []int) (int, bool) {
	count := 0
	idx, ok := shape.Index(s, 0)
	for ok {
		if at, there := shape.At(s, idx); !there || at != count {
			return count, false
		}
		count++
		idx, ok = shape.Next(s, idx)
	}
	return count, len(idx) == 0
}

func TestNextVisitsAll(t *testing.T) {
	for _, s := range goods() {
		cells, _ := product(s, most)
		if !small(s) && len(s) > 2 {
			continue
		}
		if count, ok := walked(s); count != cells || !ok {
			t.Errorf("Next visits %d of %d elements of %d, %v", count, cells, s, ok)
		}
	}
}

// noElement holds that there is no element with these indices.
func noElement(t *testing.T, s, idx []int) {
	t.Helper()
	if at, ok := shape.At(s, idx); at != 0 || ok {
		t.Errorf("At(%d, %d) is %d, %v", s, idx, at, ok)
	}
	if next, ok := shape.Next(s, idx); !none(next, ok) {
		t.Errorf("Next(%d, %d) is %d, %v", s, idx, next, ok)
	}
}

func TestNoSuchIndices(t *testing.T) {
	for _, s := range goods() {
		zeros := make([]int, len(s))
		noElement(t, s, append(zeros, 0))
		noElement(t, s, append(zeros, 0, 0, 0))
		noElement(t, s, append(zeros, -1))
		if len(s) > 0 {
			noElement(t, s, nil)
			noElement(t, s, zeros[1:])
		}
		last := slices.Clone(s)
		for axis, n := range s {
			last[axis] = max(n-1, 0)
			for _, wrong := range append(slices.Clone(strange), n, n+1, n+most, n+1<<32, math.MaxInt) {
				for _, others := range [][]int{zeros, last} {
					idx := slices.Clone(others)
					idx[axis] = wrong
					noElement(t, s, idx)
				}
			}
		}
	}
}

// What goes too far along one axis is no element, even where a position comes
// out that the shape has.
func TestIndicesDoNotCarry(t *testing.T) {
	s := []int{2, 3, 4}
	for _, idx := range [][]int{{0, 0, 4}, {0, 3, 0}, {2, 0, 0}, {1, 0, -1}, {1, -1, 0}, {2, -3, 0}, {0, 4, -4}, {-1, 3, 4}, {0, 2, 11}} {
		noElement(t, s, idx)
	}
}

func TestNoSuchPosition(t *testing.T) {
	for _, s := range goods() {
		cells, _ := product(s, most)
		for _, at := range append(slices.Clone(strange), cells, cells+1, cells+most, cells+1<<32, math.MaxInt) {
			if idx, ok := shape.Index(s, at); !none(idx, ok) {
				t.Errorf("Index(%d, %d) is %d, %v", s, at, idx, ok)
			}
		}
	}
}

func TestNoElementOfBadShapes(t *testing.T) {
	for _, b := range bads() {
		zeros := make([]int, len(b.s))
		ones := slices.Repeat([]int{1}, len(b.s))
		for _, idx := range [][]int{nil, zeros, ones, b.s, append(zeros, 0), slices.Repeat([]int{-1}, len(b.s))} {
			noElement(t, b.s, idx)
		}
		for _, at := range []int{0, 1, most - 1, -1, math.MaxInt, math.MinInt} {
			if idx, ok := shape.Index(b.s, at); !none(idx, ok) {
				t.Errorf("Index(%d, %d) is %d, %v", b.s, at, idx, ok)
			}
		}
	}
}

func TestElementsAtTheEdge(t *testing.T) {
	if at, ok := shape.At(nil, nil); at != 0 || !ok {
		t.Errorf("At of no axes is %d, %v", at, ok)
	}
	if idx, ok := shape.Index(nil, 0); len(idx) != 0 || !ok {
		t.Errorf("Index of no axes is %d, %v", idx, ok)
	}
	if idx, ok := shape.Next(nil, nil); !none(idx, ok) {
		t.Errorf("Next of no axes is %d, %v", idx, ok)
	}
	s := []int{2, 3, 4}
	if at, ok := shape.At(s, []int{1, 0, 3}); at != 15 || !ok {
		t.Errorf("At is %d, %v", at, ok)
	}
	if idx, ok := shape.Index(s, 23); !slices.Equal(idx, []int{1, 2, 3}) || !ok {
		t.Errorf("Index is %d, %v", idx, ok)
	}
	if idx, ok := shape.Next(s, []int{0, 2, 3}); !slices.Equal(idx, []int{1, 0, 0}) || !ok {
		t.Errorf("Next is %d, %v", idx, ok)
	}
	if idx, ok := shape.Next(s, []int{1, 2, 3}); !none(idx, ok) {
		t.Errorf("Next of the last is %d, %v", idx, ok)
	}
}

// P6.4

func TestSplit(t *testing.T) {
	for _, s := range variety() {
		for _, axis := range append(slices.Clone(strange), 0, 1, 2, 3, 4, 5, 6, 7, 8, 9, len(s), len(s)+1, 1<<32, math.MaxInt) {
			var before, length, after int
			wanted := good(s) && axis >= 0 && axis < len(s)
			if wanted {
				before, _ = product(s[:axis], most)
				length = s[axis]
				after, _ = product(s[axis+1:], most)
			}
			if a, b, c, ok := shape.Split(s, axis); a != before || b != length || c != after || ok != wanted {
				t.Errorf("Split(%d, %d) is %d, %d, %d, %v, not %d, %d, %d, %v", s, axis, a, b, c, ok, before, length, after, wanted)
			}
		}
	}
}

func TestSplitAtTheEdge(t *testing.T) {
	cases := []struct {
		s                     []int
		axis                  int
		before, length, after int
		ok                    bool
	}{
		{[]int{2, 3, 4}, 0, 1, 2, 12, true},
		{[]int{2, 3, 4}, 1, 2, 3, 4, true},
		{[]int{2, 3, 4}, 2, 6, 4, 1, true},
		{[]int{2, 3, 4}, 3, 0, 0, 0, false},
		{[]int{2, 3, 4}, -1, 0, 0, 0, false},
		{[]int{2, 0, 4}, 0, 1, 2, 0, true},
		{[]int{2, 0, 4}, 1, 2, 0, 4, true},
		{[]int{2, 0, 4}, 2, 0, 4, 1, true},
		{[]int{most}, 0, 1, most, 1, true},
		{[]int{0, most}, 0, 1, 0, most, true},
		{nil, 0, 0, 0, 0, false},
		{[]int{2, -1, 4}, 0, 0, 0, 0, false},
		{[]int{2, most}, 1, 0, 0, 0, false},
	}
	for _, c := range cases {
		if a, b, n, ok := shape.Split(c.s, c.axis); a != c.before || b != c.length || n != c.after || ok != c.ok {
			t.Errorf("Split(%d, %d) is %d, %d, %d, %v", c.s, c.axis, a, b, n, ok)
		}
	}
}

func TestWith(t *testing.T) {
	for _, s := range append(goods(), badShapes()...) {
		for _, axis := range append(slices.Clone(strange), 0, 1, 2, 3, 6, 7, 8, len(s)-1, len(s), len(s)+1, 1<<32, math.MaxInt) {
			for _, n := range append(slices.Clone(strange), 0, 1, 2, 3, 4, 5, 1023, 1024, 1025, 349525, most/2, most-1, most, most+1, 1<<32, math.MaxInt) {
				var want []int
				if axis >= 0 && axis < len(s) {
					changed := slices.Concat(s[:axis], []int{n}, s[axis+1:])
					if good(changed) {
						want = changed
					}
				}
				if got, ok := shape.With(s, axis, n); !slices.Equal(got, want) || ok != (want != nil) {
					t.Errorf("With(%d, %d, %d) is %d, %v, not %d", s, axis, n, got, ok, want)
				}
			}
		}
	}
}

// badShapes lists the shapes of bads.
func badShapes() [][]int {
	var list [][]int
	for _, b := range bads() {
		list = append(list, b.s)
	}
	return list
}

// It is what comes of it that must be good, not what is given.
func TestWithAtTheEdge(t *testing.T) {
	cases := []struct {
		s       []int
		axis, n int
		want    []int
	}{
		{[]int{2, 3, 4}, 2, 0, []int{2, 3, 0}},
		{[]int{2, 3, 4}, 0, 9, []int{9, 3, 4}},
		{[]int{2, 3, 4}, 1, 3, []int{2, 3, 4}},
		{[]int{2, 3, 4}, 3, 1, nil},
		{[]int{2, 3, 4}, -1, 1, nil},
		{[]int{2, 3, 4}, 1, -1, nil},
		{nil, 0, 1, nil},
		{[]int{2, most / 2}, 0, 3, nil},
		{[]int{2, 0}, 1, most/2 + 1, nil},
		{[]int{2, 0}, 1, most / 2, []int{2, most / 2}},
		{[]int{-1, 3}, 0, 2, []int{2, 3}},
		{[]int{-1, 3}, 1, 2, nil},
		{[]int{2048, 2048}, 1, 512, []int{2048, 512}},
		{[]int{2048, 2048}, 1, 513, nil},
		{[]int{1, 1, 1, 1, 1, 1, 1, 1}, 7, 5, []int{1, 1, 1, 1, 1, 1, 1, 5}},
		{[]int{1, 1, 1, 1, 1, 1, 1, 1, 1}, 0, 1, nil},
	}
	for _, c := range cases {
		if got, ok := shape.With(c.s, c.axis, c.n); !slices.Equal(got, c.want) || ok != (c.want != nil) {
			t.Errorf("With(%d, %d, %d) is %d, %v, not %d", c.s, c.axis, c.n, got, ok, c.want)
		}
	}
}

func TestWithout(t *testing.T) {
	for _, s := range variety() {
		for _, axis := range append(slices.Clone(strange), 0, 1, 2, 3, 4, 6, 7, 8, 9, len(s)-1, len(s), len(s)+1, 1<<32, math.MaxInt) {
			var want []int
			wanted := axis >= 0 && axis < len(s)
			if wanted {
				for k, n := range s {
					if k != axis {
						want = append(want, n)
					}
				}
			}
			if got, ok := shape.Without(s, axis); !slices.Equal(got, want) || ok != wanted {
				t.Errorf("Without(%d, %d) is %d, %v, not %d, %v", s, axis, got, ok, want, wanted)
			}
		}
	}
}

func TestWithoutAtTheEdge(t *testing.T) {
	cases := []struct {
		s    []int
		axis int
		want []int
		ok   bool
	}{
		{[]int{2, 3, 4}, 0, []int{3, 4}, true},
		{[]int{2, 3, 4}, 1, []int{2, 4}, true},
		{[]int{2, 3, 4}, 2, []int{2, 3}, true},
		{[]int{2, 3, 4}, 3, nil, false},
		{[]int{2, 3, 4}, -1, nil, false},
		{[]int{7}, 0, nil, true},
		{nil, 0, nil, false},
		{[]int{-1, 3}, 0, []int{3}, true},
		{[]int{-1, 3}, 1, []int{-1}, true},
		{[]int{1, 2, 3, 4, 5, 6, 7, 8, 9}, 8, []int{1, 2, 3, 4, 5, 6, 7, 8}, true},
	}
	for _, c := range cases {
		if got, ok := shape.Without(c.s, c.axis); !slices.Equal(got, c.want) || ok != c.ok {
			t.Errorf("Without(%d, %d) is %d, %v, not %d, %v", c.s, c.axis, got, ok, c.want, c.ok)
		}
	}
}

func TestSame(t *testing.T) {
	list := append(goods(), badShapes()...)
	for _, a := range list {
		if !shape.Same(a, slices.Clone(a)) {
			t.Errorf("%d is not the Same as itself", a)
		}
		for _, b := range list {
			want := len(a) == len(b)
			for i := 0; want && i < len(a); i++ {
				want = a[i] == b[i]
			}
			if shape.Same(a, b) != want {
				t.Errorf("Same(%d, %d) is not %v", a, b, want)
			}
		}
		for axis := range a {
			other := slices.Clone(a)
			other[axis]++
			if shape.Same(a, other) || shape.Same(a, a[:axis]) || shape.Same(a[:axis], a) {
				t.Errorf("%d is the Same as %d, or as its start", a, other)
			}
		}
	}
	if !shape.Same(nil, []int{}) || shape.Same(nil, []int{0}) || shape.Same([]int{1}, nil) || shape.Same([]int{2, 3}, []int{3, 2}) {
		t.Error("Same at the edge")
	}
}

// Rules of all layers: memory.

// roomy is a list within a longer one, so that a write behind it is seen.
func roomy(l []int) (list, whole []int) {
	whole = append(slices.Clone(l), 77, 78, 79, 80)
	return whole[:len(l)], whole
}

// answers lists the lists that the functions make of a shape, some indices of it,
// a position and an axis.
func answers(s, idx []int, at, axis int) [][]int {
	shape.Product(s, at)
	shape.Good(s)
	shape.At(s, idx)
	shape.Split(s, axis)
	shape.Same(s, idx)
	index, _ := shape.Index(s, at)
	next, _ := shape.Next(s, idx)
	with, _ := shape.With(s, axis, 1)
	as, _ := shape.With(s, axis, s[axis])
	without, _ := shape.Without(s, axis)
	return [][]int{shape.Strides(s), index, next, with, as, without}
}

// spoil overwrites a list, and its spare capacity.
func spoil(l []int) {
	for i := range l[:cap(l)] {
		l[:cap(l)][i] = -99
	}
}

func TestArgumentsStayAsTheyAre(t *testing.T) {
	for _, plain := range append(goods(), badShapes()...) {
		for axis := range plain {
			s, wholeShape := roomy(plain)
			idx, wholeIdx := roomy(make([]int, len(plain)))
			shapeWas, idxWas := slices.Clone(wholeShape), slices.Clone(wholeIdx)
			for _, l := range answers(s, idx, 1, axis) {
				spoil(l)
			}
			if !slices.Equal(wholeShape, shapeWas) || !slices.Equal(wholeIdx, idxWas) {
				t.Fatalf("%d became %d, or %d became %d", shapeWas, wholeShape, idxWas, wholeIdx)
			}
		}
	}
}

// Neither what a caller does to the arguments later, nor what he does to another
// answer, changes an answer.
func TestAnswersAreNewMemory(t *testing.T) {
	for _, plain := range append(goods(), badShapes()...) {
		for axis := range plain {
			s, wholeShape := roomy(plain)
			idx, wholeIdx := roomy(make([]int, len(plain)))
			got := answers(s, idx, 0, axis)
			var want [][]int
			for _, l := range got {
				want = append(want, slices.Clone(l))
			}
			for _, l := range answers(s, idx, 0, axis) {
				spoil(l)
			}
			spoil(wholeShape)
			spoil(wholeIdx)
			for i, l := range got {
				if !slices.Equal(l, want[i]) {
					t.Fatalf("answer %d of %d became %d, not %d", i, plain, l, want[i])
				}
				spoil(l)
			}
		}
	}
}
