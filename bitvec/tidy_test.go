package bitvec

import "testing"

// P2.1: no exported function makes an untidy vector, so that only a test from
// within sees Tidy find one.
func TestTidyFindsFaults(t *testing.T) {
	cases := []struct {
		b    Bits
		want bool
	}{
		{Bits{}, true},
		{Bits{n: 0, words: []uint64{}}, true},
		{Bits{n: 0, words: []uint64{0}}, false},
		{Bits{n: 1}, false},
		{Bits{n: 1, words: []uint64{1}}, true},
		{Bits{n: 1, words: []uint64{2}}, false},
		{Bits{n: 1, words: []uint64{1 << 63}}, false},
		{Bits{n: 1, words: []uint64{1, 0}}, false},
		{Bits{n: 63, words: []uint64{1<<63 - 1}}, true},
		{Bits{n: 63, words: []uint64{1 << 63}}, false},
		{Bits{n: 64, words: []uint64{^uint64(0)}}, true},
		{Bits{n: 64, words: []uint64{0, 0}}, false},
		{Bits{n: 65, words: []uint64{^uint64(0)}}, false},
		{Bits{n: 65, words: []uint64{^uint64(0), 1}}, true},
		{Bits{n: 65, words: []uint64{0, 2}}, false},
		{Bits{n: 65, words: []uint64{0, 1, 0}}, false},
	}
	for _, c := range cases {
		if got := c.b.Tidy(); got != c.want {
			t.Errorf("Tidy of %d booleans in %x is %v", c.b.n, c.b.words, got)
		}
	}
}
