package value_test

import (
	"math"
	"slices"
	"testing"

	"rebus/api"
	"rebus/bitvec"
	"rebus/squeeze"
	"rebus/value"
	"rebus/vec"
)

// most is the greatest number of elements, and top the greatest absolute value
// of an integer.
const (
	most = 1 << 20
	top  = 1 << 53
)

// signed is a zero with a sign.
var signed = math.Copysign(0, -1)

// strangers lists what is no number.
var strangers = []float64{
	math.Inf(1), math.Inf(-1), math.NaN(), math.Copysign(math.NaN(), -1),
	math.Float64frombits(0x7ff0000000000001), math.Float64frombits(0xffffffffffffffff),
}

// runes lists characters, some of which are in no text.
var runes = []rune{'x', 0, ' ', 0x2374, 0x1f600, 0x10ffff, 0x110000, 0xd800, 0xfffd, -1, math.MinInt32, math.MaxInt32}

// How vectors of each kind are made.

func bits(l ...float64) vec.Vec {
	b := make([]bool, len(l))
	for i, x := range l {
		b[i] = x == 1
	}
	return vec.Bits(bitvec.Pack(b))
}

func smalls(l ...int8) vec.Vec { return vec.Smalls(l) }

func ints(l ...int64) vec.Vec {
	v, ok := vec.Ints(l)
	if !ok {
		panic("no integers of at most 2^53")
	}
	return v
}

func floats(l ...float64) vec.Vec {
	v, ok := vec.Floats(l)
	if !ok {
		panic("no numbers")
	}
	return v
}

func chars(s string) vec.Vec { return vec.Chars([]rune(s)) }

func boxes(l ...vec.Array) vec.Vec { return vec.Boxes(l) }

func none(class int) vec.Vec { return vec.None(class) }

// array is a shape and elements, whether they are as they must be or not.
func array(v vec.Vec, s ...int) vec.Array { return vec.Array{Shape: s, V: v} }

// nest puts an array into so many boxes, one in another.
func nest(a vec.Array, times int) vec.Array {
	for range times {
		a = array(boxes(a))
	}
	return a
}

// How plain arrays are made.

func num(x float64) api.Item { return api.Item{Kind: api.Number, Num: x} }

func char(c rune) api.Item { return api.Item{Kind: api.Letter, Char: c} }

func box(p api.Plain) api.Item { return api.Item{Kind: api.Nested, Box: []api.Plain{p}} }

func plain(fill int, s []int, l ...api.Item) api.Plain {
	return api.Plain{Shape: s, Items: l, Fill: fill}
}

// pnest puts a plain array into so many boxes, one in another.
func pnest(p api.Plain, times int) api.Plain {
	for range times {
		p = plain(api.Nested, nil, box(p))
	}
	return p
}

// nums, text and pboxes make a plain list.

func nums(l ...float64) api.Plain {
	p := plain(api.Number, []int{len(l)})
	for _, x := range l {
		p.Items = append(p.Items, num(x))
	}
	return p
}

func text(l ...rune) api.Plain {
	p := plain(api.Letter, []int{len(l)})
	for _, c := range l {
		p.Items = append(p.Items, char(c))
	}
	return p
}

func pboxes(l ...api.Plain) api.Plain {
	p := plain(api.Nested, []int{len(l)})
	for _, inner := range l {
		p.Items = append(p.Items, box(inner))
	}
	return p
}

// shaped is a plain array of the same items with another shape.
func shaped(p api.Plain, s ...int) api.Plain {
	p.Shape = s
	return p
}

// bitsOf is a float64 to its last bit, the sign of a zero among them.
func bitsOf(x float64) uint64 { return math.Float64bits(x) }

// equal tells whether two arrays are kept alike, to the kinds of all elements.
func equal(a, b vec.Array) bool {
	if !slices.Equal(a.Shape, b.Shape) || a.V.Kind() != b.V.Kind() || a.V.Len() != b.V.Len() {
		return false
	}
	return slices.EqualFunc(a.V.Nums(), b.V.Nums(), func(x, y float64) bool { return bitsOf(x) == bitsOf(y) }) &&
		slices.Equal(a.V.Text(), b.V.Text()) &&
		slices.EqualFunc(a.V.Arrays(), b.V.Arrays(), equal)
}

// blank tells whether an array is a zero value.
func blank(a vec.Array) bool { return len(a.Shape) == 0 && a.V.Kind() == 0 && a.V.Len() == 0 }

// pequal tells whether two plain arrays are equal in every field of every item.
func pequal(p, q api.Plain) bool {
	return slices.Equal(p.Shape, q.Shape) && p.Fill == q.Fill && slices.EqualFunc(p.Items, q.Items, func(x, y api.Item) bool {
		return x.Kind == y.Kind && bitsOf(x.Num) == bitsOf(y.Num) && x.Char == y.Char && slices.EqualFunc(x.Box, y.Box, pequal)
	})
}

// copied is a plain array that shares no memory with another.
func copied(p api.Plain) api.Plain {
	z := api.Plain{Shape: slices.Clone(p.Shape), Fill: p.Fill}
	for _, x := range p.Items {
		y := api.Item{Kind: x.Kind, Num: x.Num, Char: x.Char}
		for _, inner := range x.Box {
			y.Box = append(y.Box, copied(inner))
		}
		z.Items = append(z.Items, y)
	}
	return z
}

// spoil changes all that can be changed in a plain array, and in the spare
// capacity of its lists.
func spoil(p *api.Plain) {
	shape, items := p.Shape[:cap(p.Shape)], p.Items[:cap(p.Items)]
	for i := range shape {
		shape[i] += 1000
	}
	for i := range items {
		for k := range items[i].Box {
			spoil(&items[i].Box[k])
			items[i].Box[k].Fill++
		}
		items[i].Kind++
		items[i].Num++
		items[i].Char++
	}
	p.Fill++
}

// errOf sees that making an array of a plain one fails in a way, and tells
// nothing beside.
func errOf(t *testing.T, what string, p api.Plain, want api.Errno) {
	t.Helper()
	a, err := value.Of(p)
	if err != want || !blank(a) {
		t.Errorf("%s: Of is %v, error %d, not %d", what, a, err, want)
	}
}

// uniques lists good arrays no two of which are the same.
func uniques() []vec.Array {
	list := []vec.Array{
		// No elements, of each class.
		array(none(api.Number), 0), array(none(api.Letter), 0), array(none(api.Nested), 0),
		array(none(api.Number), 0, 0), array(none(api.Number), 3, 0), array(none(api.Number), 0, 3), array(none(api.Letter), 3, 0),
		array(none(api.Nested), 3, 0), array(none(api.Letter), 0, 2, 0), array(none(api.Nested), 1, 1, 1, 1, 1, 1, 1, 0),
		array(none(api.Number), most, 0), array(none(api.Number), 0, most),
		// One element, with and without axes.
		array(bits(0)), array(bits(1)), array(smalls(2)), array(smalls(-1)), array(smalls(127)), array(smalls(-128)),
		array(ints(128)), array(ints(-129)), array(ints(top)), array(ints(-top)), array(floats(top + 2)), array(floats(0.5)),
		array(floats(-0.5)), array(floats(math.SmallestNonzeroFloat64)), array(floats(math.MaxFloat64)), array(floats(-math.MaxFloat64)),
		array(ints(top - 1)), array(ints(1<<32 + 1)), array(ints(1 << 32)), array(ints(256)),
		array(chars("x")), array(chars("\x00")), array(chars("\x01")), array(chars(" ")), array(vec.Chars([]rune{-1})),
		array(bits(1), 1), array(bits(1), 1, 1), array(bits(1), 1, 1, 1, 1, 1, 1, 1, 1), array(chars("x"), 1), array(chars("x"), 1, 1),
		// Some elements.
		array(bits(1, 0, 1, 1), 4), array(bits(1, 0, 1, 1), 2, 2), array(bits(1, 0, 1, 1), 1, 4), array(bits(1, 0, 1, 1), 4, 1),
		array(bits(1, 0, 1, 0), 4), array(bits(0, 0, 1, 1), 4), array(bits(1, 0, 1), 3), array(bits(1, 0, 1, 1, 0), 5),
		array(smalls(1, 2, 3, 4, 5, 6), 6), array(smalls(1, 2, 3, 4, 5, 6), 2, 3), array(smalls(1, 2, 3, 4, 5, 6), 3, 2),
		array(smalls(1, 2, 3, 4, 5, 7), 3, 2), array(smalls(2, 2, 3, 4, 5, 6), 3, 2), array(smalls(1, 2, 3, 5, 4, 6), 3, 2),
		array(ints(1, 2, 3, 4, 5, 600), 3, 2), array(floats(1, 2, 3, 4, 5, 6.5), 3, 2),
		array(chars("hi"), 2), array(chars("ho"), 2), array(chars("Hi"), 2), array(chars("hi"), 1, 2), array(chars("hi "), 3), array(vec.Chars(runes), len(runes)),
		// Codes of characters and numbers of the same value are not the same.
		array(smalls(104, 105), 2), array(vec.Chars([]rune{0, 1}), 2), array(bits(0, 1), 2),
	}
	return append(list, uniqueBoxes()...)
}

// uniqueBoxes lists good arrays of boxes no two of which are the same.
func uniqueBoxes() []vec.Array {
	list := []vec.Array{
		array(boxes(array(bits(0)))), array(boxes(array(bits(1)))), array(boxes(array(bits(0))), 1), array(boxes(array(bits(1), 1))),
		array(boxes(array(chars("hi"), 2))), array(boxes(array(chars("hi"), 2)), 1), array(boxes(array(chars("h")))),
		array(boxes(array(chars("hi"), 2), array(bits(0))), 1, 2), array(boxes(array(bits(0)), array(chars("hi"), 2)), 1, 2),
		array(boxes(array(chars("hi"), 2), array(bits(0))), 2), array(boxes(array(chars("hi"), 2), array(bits(1))), 2),
		array(boxes(array(chars("ho"), 2), array(bits(0))), 2), array(boxes(array(chars("hi"), 2), array(bits(0), 1)), 2),
		array(boxes(array(none(api.Number), 0))), array(boxes(array(none(api.Letter), 0))), array(boxes(array(none(api.Nested), 0))),
		array(boxes(array(none(api.Number), 0), array(bits(0), 1)), 2),
		array(boxes(array(boxes(array(bits(0)), array(smalls(7), 1)), 2), array(chars("x"))), 2),
		array(boxes(array(boxes(array(bits(0)), array(smalls(8), 1)), 2), array(chars("x"))), 2),
		array(boxes(array(boxes(array(bits(0)), array(smalls(7))), 2), array(chars("x"))), 2),
		array(boxes(array(floats(0.5, 2), 2), array(smalls(3, 4), 2)), 2, 1),
	}
	for _, times := range []int{2, 3, 10, 38, 39} {
		list = append(list, nest(array(bits(1)), times), nest(array(chars("hi"), 2), times))
	}
	return append(list, nest(array(none(api.Nested), 0), 38), nest(array(none(api.Nested), 0), 39), nest(array(none(api.Letter), 0), 39))
}

// widened is an array of the same numbers, each list of them in the greatest
// kind, in boxes too; it is another memory.
func widened(a vec.Array) vec.Array {
	z := vec.Array{Shape: slices.Clone(a.Shape), V: a.V}
	switch a.V.Class() {
	case api.Number:
		z.V = floats(a.V.Nums()...)
	case api.Letter:
		z.V = vec.Chars(a.V.Text())
	case api.Nested:
		var l []vec.Array
		for _, inner := range a.V.Arrays() {
			l = append(l, widened(inner))
		}
		z.V = boxes(l...)
	}
	return z
}

// bads lists arrays that are not good, but each holds good arrays alone.
func bads() []vec.Array {
	return []vec.Array{
		// No kind.
		{}, array(vec.Vec{}, 0), array(vec.Vec{}, 3, 0), array(vec.Vec{}, 1),
		// Not as many elements as the shape says.
		array(none(api.Number)), array(none(api.Letter)), array(none(api.Nested)), array(none(api.Number), 1), array(none(api.Letter), 2, 3),
		array(bits(1, 0)), array(bits(1), 0), array(bits(1, 0), 1), array(bits(1, 0), 3), array(bits(1, 0, 1, 1), 2, 3), array(bits(1, 0, 1, 1), 2, 0),
		array(smalls(2, 3), 2, 2), array(ints(200, 3), 1), array(floats(0.5), 2), array(chars("hi")), array(chars("hi"), 3), array(chars("hi"), 2, 2),
		array(boxes(array(bits(1)), array(bits(1)))), array(boxes(array(bits(1))), 2), array(boxes(array(bits(1))), 0), array(chars("hi"), 2, 1, 2),
		// Wrong shapes.
		array(bits(1), 1, 1, 1, 1, 1, 1, 1, 1, 1), array(bits(1), -1), array(bits(1), -1, -1), array(none(api.Number), 0, -1), array(none(api.Letter), -1, 0),
		array(none(api.Number), most+1, 0), array(none(api.Number), 0, 0, 0, 0, 0, 0, 0, 0, 0), array(none(api.Nested), 2048, 0, 1024), array(none(api.Number), -1),
		array(none(api.Number), 1<<32, 1<<32), array(none(api.Letter), math.MinInt, 2), array(bits(1), 1<<62, 4, 1),
		// Not in the least kind.
		array(smalls(0)), array(smalls(1, 0), 2), array(ints(1)), array(ints(1, 127, -128), 3), array(floats(0)), array(floats(1, 0, 1, 1), 4), array(floats(1, 0, 1, 1), 2, 2),
		array(floats(127)), array(floats(128)), array(floats(top, -top), 2), array(smalls(), 0), array(ints(), 0), array(floats(), 0), array(floats(), 3, 0),
	}
}

// P7.1

func TestNew(t *testing.T) {
	cases := []struct {
		shape []int
		v     vec.Vec
		kind  int
	}{
		{nil, bits(1), api.Bit}, {[]int{}, smalls(2), api.Small}, {nil, chars("x"), api.Char}, {nil, boxes(array(bits(1))), api.Box},
		{[]int{0}, none(api.Number), api.Bit}, {[]int{0}, none(api.Letter), api.Char}, {[]int{0}, none(api.Nested), api.Box},
		{[]int{3, 0, 2}, none(api.Number), api.Bit}, {[]int{3, 0, 2}, none(api.Letter), api.Char}, {[]int{0, 3}, none(api.Nested), api.Box},
		{[]int{0}, smalls(), api.Bit}, {[]int{2, 0}, ints(), api.Bit}, {[]int{0, 2}, floats(), api.Bit}, {[]int{most, 0}, none(api.Letter), api.Char},
		{[]int{2, 2}, floats(1, 0, 1, 1), api.Bit}, {[]int{4}, ints(1, 0, 1, 1), api.Bit}, {[]int{1, 4}, smalls(1, 0, 1, 1), api.Bit},
		{[]int{2, 2}, bits(1, 0, 1, 1), api.Bit}, {[]int{3}, floats(1, 127, -128), api.Small}, {[]int{3}, ints(1, 127, -128), api.Small},
		{[]int{3, 1}, smalls(1, 2, 3), api.Small}, {[]int{2}, floats(128, 0), api.Int}, {[]int{2}, floats(top, -129), api.Int},
		{[]int{2}, ints(1, -top), api.Int}, {[]int{2}, floats(1, 0.25), api.Float}, {[]int{2}, floats(0, top+2), api.Float},
		{[]int{1}, floats(signed), api.Bit}, {[]int{2, 3}, chars("abcdef"), api.Char}, {[]int{len(runes)}, vec.Chars(runes), api.Char},
		{[]int{1, 1, 1, 1, 1, 1, 1, 1}, ints(7), api.Small}, {[]int{2, 1, 1, 3, 1, 1, 1, 1}, floats(1, 2, 3, 4, 5, 600), api.Int},
		{[]int{2, 1}, boxes(array(chars("hi"), 2), array(bits(0))), api.Box},
	}
	for _, c := range cases {
		a, err := value.New(c.shape, c.v)
		if err != api.OK || a.V.Kind() != c.kind || !slices.Equal(a.Shape, c.shape) {
			t.Errorf("New(%v, %v) is %v of the kind %d, error %d, not of the kind %d", c.shape, c.v, a, a.V.Kind(), err, c.kind)
		}
		if !value.Good(a) || !equal(widened(a), widened(array(c.v, c.shape...))) {
			t.Errorf("New(%v, %v) has other elements: %v", c.shape, c.v, a)
		}
	}
}

func TestNewOfMany(t *testing.T) {
	l, r := make([]float64, most), make([]rune, most)
	for i := range most {
		l[i], r[i] = float64(i%3), rune(i)
	}
	for _, s := range [][]int{{most}, {1024, 1024}, {1, most, 1}, {1, 1, 1, 1, 1, 1, 1, most}} {
		a, err := value.New(s, floats(l...))
		if err != api.OK || a.V.Kind() != api.Small || !slices.Equal(a.V.Nums(), l) || !slices.Equal(a.Shape, s) || !value.Good(a) {
			t.Errorf("New(%v, ..) has %d elements of the kind %d, error %d", s, a.V.Len(), a.V.Kind(), err)
		}
		a, err = value.New(s, vec.Chars(r))
		if err != api.OK || a.V.Kind() != api.Char || !slices.Equal(a.V.Text(), r) || !slices.Equal(a.Shape, s) || !value.Good(a) {
			t.Errorf("New(%v, ..) has %d elements of the kind %d, error %d", s, a.V.Len(), a.V.Kind(), err)
		}
	}
	a, err := value.New([]int{1024, 1024}, vec.Bits(bitvec.Make(most, true)))
	if err != api.OK || a.V.Kind() != api.Bit || a.V.Len() != most || !value.Good(a) {
		t.Errorf("New of bits has %d elements, error %d", a.V.Len(), err)
	}
	if a, err := value.New([]int{most}, vec.Bits(bitvec.Make(most-1, true))); err != api.ErrLength || !blank(a) {
		t.Errorf("New of too few bits is of the shape %v, error %d", a.Shape, err)
	}
	if a, err := value.New([]int{most + 1}, vec.Chars(make([]rune, most+1))); err != api.ErrLimit || !blank(a) {
		t.Errorf("New of too many characters is of the shape %v, error %d", a.Shape, err)
	}
}

func TestNewErrors(t *testing.T) {
	nine := []int{1, 1, 1, 1, 1, 1, 1, 1, 1}
	// Each error counts more than those behind it: that of the shape, that of no
	// kind, and that of the number of elements.
	cases := []struct {
		shape []int
		v     vec.Vec
		err   api.Errno
	}{
		{nine, bits(1), api.ErrLimit}, {nine, vec.Vec{}, api.ErrLimit}, {nine, bits(1, 0), api.ErrLimit},
		{[]int{-1}, bits(1), api.ErrDomain}, {[]int{-1}, vec.Vec{}, api.ErrDomain}, {[]int{-1, -1}, bits(1), api.ErrDomain},
		{[]int{0, -1}, none(api.Number), api.ErrDomain}, {[]int{most + 1, -1}, bits(1), api.ErrDomain}, {append(nine, -1), bits(1), api.ErrLimit},
		{[]int{most + 1}, bits(1), api.ErrLimit}, {[]int{most + 1}, vec.Vec{}, api.ErrLimit}, {[]int{most + 1, 0}, none(api.Letter), api.ErrLimit},
		{[]int{2048, 0, 1024}, none(api.Number), api.ErrLimit}, {[]int{1 << 32, 1 << 32}, none(api.Number), api.ErrLimit},
		{nil, vec.Vec{}, api.ErrArg}, {[]int{0}, vec.Vec{}, api.ErrArg}, {[]int{1}, vec.Vec{}, api.ErrArg}, {[]int{2, 3}, vec.Vec{}, api.ErrArg},
		{[]int{3}, floats(1, 0, 1, 1), api.ErrLength}, {[]int{5}, floats(1, 0, 1, 1), api.ErrLength}, {nil, floats(1, 0), api.ErrLength},
		{nil, none(api.Number), api.ErrLength}, {nil, none(api.Letter), api.ErrLength}, {[]int{}, none(api.Nested), api.ErrLength},
		{[]int{0}, bits(1), api.ErrLength}, {[]int{0}, chars("x"), api.ErrLength}, {[]int{2, 0}, boxes(array(bits(1)), array(bits(1))), api.ErrLength},
		{[]int{2, 2}, chars("abc"), api.ErrLength}, {[]int{2, 2}, chars("ab"), api.ErrLength}, {[]int{1}, none(api.Nested), api.ErrLength},
		{[]int{most}, ints(300), api.ErrLength}, {[]int{2}, boxes(array(bits(1))), api.ErrLength}, {[]int{3, 2}, smalls(1, 2, 3, 4, 5), api.ErrLength},
	}
	for _, c := range cases {
		if a, err := value.New(c.shape, c.v); err != c.err || !blank(a) {
			t.Errorf("New(%v, %v) is %v, error %d, not %d", c.shape, c.v, a, err, c.err)
		}
	}
}

func TestNewKeepsShapesApart(t *testing.T) {
	room := []int{2, 3, 77, 78}
	s := room[:2]
	a, _ := value.New(s, smalls(1, 2, 3, 4, 5, 6))
	b, _ := value.New(s, chars("abcdef"))
	if !slices.Equal(room, []int{2, 3, 77, 78}) {
		t.Errorf("New has changed its argument: %v", room)
	}
	a.Shape[0] = 9
	_ = append(a.Shape, 79)
	if !slices.Equal(room, []int{2, 3, 77, 78}) || !slices.Equal(b.Shape, []int{2, 3}) {
		t.Errorf("a shape has changed with another: %v, %v", room, b.Shape)
	}
	s[1] = 4
	if !slices.Equal(a.Shape, []int{9, 3}) || !slices.Equal(b.Shape, []int{2, 3}) {
		t.Errorf("shapes have changed with the argument: %v, %v", a.Shape, b.Shape)
	}
}

func TestNum(t *testing.T) {
	cases := []struct {
		x    float64
		kind int
	}{
		{0, api.Bit}, {1, api.Bit}, {signed, api.Bit}, {2, api.Small}, {-1, api.Small}, {127, api.Small}, {-128, api.Small},
		{128, api.Int}, {-129, api.Int}, {top, api.Int}, {-top, api.Int}, {top + 2, api.Float}, {-top - 2, api.Float},
		{0.5, api.Float}, {-0.1, api.Float}, {math.MaxFloat64, api.Float}, {-math.SmallestNonzeroFloat64, api.Float}, {1e300, api.Float},
	}
	for _, c := range cases {
		a, ok := value.Num(c.x)
		want := c.x
		if want == 0 {
			want = 0
		}
		if !ok || len(a.Shape) != 0 || a.V.Kind() != c.kind || a.V.Len() != 1 || bitsOf(a.V.Num(0)) != bitsOf(want) || !value.Good(a) {
			t.Errorf("Num(%g) is %v of the kind %d, %v", c.x, a, a.V.Kind(), ok)
		}
	}
	if a, _ := value.Num(signed); math.Signbit(a.V.Num(0)) {
		t.Error("a zero has a sign")
	}
	for _, x := range strangers {
		if a, ok := value.Num(x); ok || !blank(a) {
			t.Errorf("Num(%g) is %v, %v", x, a, ok)
		}
	}
}

func TestChar(t *testing.T) {
	for _, c := range runes {
		if a := value.Char(c); !equal(a, array(vec.Chars([]rune{c}))) || !value.Good(a) {
			t.Errorf("Char(%d) is %v", c, a)
		}
	}
}

func TestBox(t *testing.T) {
	for _, a := range slices.Concat(uniques(), bads()) {
		b := value.Box(a)
		if len(b.Shape) != 0 || b.V.Kind() != api.Box || b.V.Len() != 1 || !equal(b.V.Box(0), a) {
			t.Errorf("Box(%v) is %v", a, b)
		}
	}
	room := []int{2, 77}
	a := array(smalls(1, 2), room[:1]...)
	b := value.Box(a)
	room[0] = 9
	b.V.Box(0).Shape[0] = 8
	if !equal(b.V.Box(0), array(smalls(1, 2), 2)) || room[1] != 77 {
		t.Errorf("a box has changed with its argument: %v", b)
	}
}

func TestList(t *testing.T) {
	cases := []struct {
		v    vec.Vec
		kind int
	}{
		{none(api.Number), api.Bit}, {none(api.Letter), api.Char}, {none(api.Nested), api.Box}, {smalls(), api.Bit}, {ints(), api.Bit}, {floats(), api.Bit},
		{bits(1), api.Bit}, {bits(1, 0, 1), api.Bit}, {smalls(1, 0), api.Bit}, {ints(1, 0), api.Bit}, {floats(1, 0, signed), api.Bit},
		{smalls(1, 2), api.Small}, {ints(1, 2, -128), api.Small}, {floats(127, 2), api.Small}, {ints(1, 128), api.Int}, {floats(top, 2), api.Int},
		{floats(0.5, 2), api.Float}, {floats(top+2, 2), api.Float}, {chars("x"), api.Char}, {vec.Chars(runes), api.Char},
		{boxes(array(bits(1))), api.Box}, {boxes(uniques()...), api.Box},
	}
	for _, c := range cases {
		a := value.List(c.v)
		if !slices.Equal(a.Shape, []int{c.v.Len()}) || a.V.Kind() != c.kind || !equal(widened(a), widened(array(c.v, c.v.Len()))) {
			t.Errorf("List(%v) is %v of the kind %d, not %d", c.v, a, a.V.Kind(), c.kind)
		}
	}
	for _, n := range []int{most, most + 1} {
		a := value.List(vec.Chars(make([]rune, n)))
		if !slices.Equal(a.Shape, []int{n}) || a.V.Len() != n || value.Good(a) != (n == most) {
			t.Errorf("the list of %d characters is of the shape %v and has %d", n, a.Shape, a.V.Len())
		}
	}
	if a := value.List(vec.Vec{}); !slices.Equal(a.Shape, []int{0}) || a.V.Len() != 0 || a.V.Class() != api.Number {
		t.Errorf("the list of the zero value is %v", a)
	}
}

func TestRankAndSingle(t *testing.T) {
	cases := []struct {
		a      vec.Array
		rank   int
		single bool
	}{
		{array(bits(1)), 0, true}, {array(chars("x")), 0, true}, {array(boxes(array(bits(1, 0), 2))), 0, true},
		{array(none(api.Number), 0), 1, false}, {array(none(api.Letter), 0), 1, false}, {array(none(api.Nested), 0), 1, false},
		{array(none(api.Letter), 1, 0, 1), 3, false}, {array(none(api.Number), 1, 1, 1, 1, 1, 1, 1, 0), 8, false},
		{array(bits(1), 1), 1, true}, {array(floats(0.5), 1, 1), 2, true}, {array(ints(300), 1, 1, 1), 3, true},
		{array(chars("x"), 1, 1, 1, 1, 1, 1, 1, 1), 8, true}, {array(boxes(array(bits(1, 0), 2)), 1), 1, true},
		{array(bits(1, 0), 2), 1, false}, {array(bits(1, 0), 1, 2), 2, false}, {array(chars("abcdef"), 3, 2), 2, false},
		{array(boxes(array(bits(1)), array(bits(1))), 2, 1, 1), 3, false}, {array(vec.Bits(bitvec.Make(most, true)), 1024, 1024), 2, false},
		{vec.Array{}, 0, false},
	}
	for _, c := range cases {
		if r, s := value.Rank(c.a), value.Single(c.a); r != c.rank || s != c.single {
			t.Errorf("%v has %d axes and is single: %v; not %d and %v", c.a, r, s, c.rank, c.single)
		}
	}
}

// P7.2

func TestGood(t *testing.T) {
	for _, a := range uniques() {
		if !value.Good(a) {
			t.Errorf("not good: %v", a)
		}
	}
	for _, bad := range bads() {
		// Anywhere in boxes, too.
		for _, a := range []vec.Array{
			bad, array(boxes(bad)), array(boxes(bad), 1), nest(bad, 20), nest(bad, 39), array(boxes(bad, array(bits(1))), 2),
			array(boxes(array(bits(1)), bad), 2), array(boxes(array(bits(1)), array(boxes(array(bits(1)), bad, array(bits(1))), 3), array(bits(1))), 3),
		} {
			if value.Good(a) {
				t.Errorf("good: %v", a)
			}
		}
	}
}

func TestGoodOfMany(t *testing.T) {
	for _, n := range []int{most - 1, most, most + 1} {
		halves := slices.Repeat([]float64{0.5}, n)
		good := n <= most
		for _, a := range []vec.Array{
			array(vec.Chars(make([]rune, n)), n), array(vec.Chars(make([]rune, n)), 1, n), array(floats(halves...), n, 1), array(boxes(array(vec.Chars(make([]rune, n)), n))),
		} {
			if value.Good(a) != good {
				t.Errorf("an array of the shape %v is good: %v", a.Shape, !good)
			}
		}
		if value.Good(array(floats(make([]float64, n)...), n)) {
			t.Errorf("%d zeros of the kind Float are good", n)
		}
	}
	for _, n := range []int{most - 1, most} {
		if !value.Good(array(vec.Bits(bitvec.Make(n, true)), n)) || value.Good(array(vec.Bits(bitvec.Make(n, true)), most+1)) {
			t.Errorf("%d bits", n)
		}
	}
}

func TestGoodNesting(t *testing.T) {
	// An array of no boxes counts for no box, whatever its class.
	for _, a := range []vec.Array{
		array(bits(1)), array(chars("hi"), 2), array(none(api.Number), 0), array(none(api.Letter), 0), array(none(api.Nested), 0), array(none(api.Nested), 2, 0, 3),
	} {
		for times := range 60 {
			deep := nest(a, times)
			for _, b := range []vec.Array{deep, array(boxes(array(bits(1)), deep), 2), array(boxes(deep, array(bits(1))), 2)} {
				boxed := times
				if value.Rank(b) == 1 && b.V.Len() == 2 && b.V.Class() == api.Nested {
					boxed++
				}
				if value.Good(b) != (boxed <= 39) {
					t.Errorf("good in %d boxes: %v", boxed, boxed > 39)
				}
			}
		}
	}
	if value.Good(nest(array(bits(1)), 60000)) {
		t.Error("good in 60000 boxes")
	}
}

func TestSame(t *testing.T) {
	list := uniques()
	for i, a := range list {
		for k, b := range list {
			if value.Same(a, b) != (i == k) || value.Same(a, widened(b)) != (i == k) || value.Same(widened(a), b) != (i == k) {
				t.Errorf("wrong for %v and %v", a, b)
			}
			deepA, deepB := array(boxes(array(bits(0)), a), 2), array(boxes(array(bits(0)), b), 2)
			if value.Same(deepA, deepB) != (i == k) {
				t.Errorf("wrong in boxes for %v and %v", a, b)
			}
		}
	}
	// The zero value of a vector is of the class Number.
	if !value.Same(array(vec.Vec{}, 0), array(none(api.Number), 0)) || value.Same(array(vec.Vec{}, 0), array(none(api.Letter), 0)) || !value.Same(vec.Array{}, vec.Array{}) {
		t.Error("wrong for the zero value")
	}
	if !value.Same(array(bits(1), []int{}...), array(bits(1))) {
		t.Error("an empty shape is not a nil one")
	}
	// Arrays that are not good, as they lack elements or have too many.
	if value.Same(array(bits(1, 0), 3), array(bits(1), 3)) || value.Same(array(bits(1), 3), array(bits(1, 0), 3)) || value.Same(array(bits(1), 0), array(none(api.Number), 0)) {
		t.Error("an element is lacking")
	}
}

func TestSameOfMany(t *testing.T) {
	l, r := make([]float64, most), make([]rune, most)
	a, c := array(floats(l...), most), array(vec.Chars(r), 1024, 1024)
	b := vec.Array{Shape: []int{most}, V: vec.Bits(bitvec.Make(most, false))}
	if !value.Same(a, b) || !value.Same(b, a) || !value.Same(c, array(vec.Chars(r), 1024, 1024)) || value.Same(c, array(vec.Chars(r), most)) {
		t.Error("not the same")
	}
	for _, at := range []int{0, 1, most / 2, most - 1} {
		l[at], r[at] = 1, 'x'
		if value.Same(array(floats(l...), most), b) || value.Same(b, array(floats(l...), most)) || value.Same(c, array(vec.Chars(r), 1024, 1024)) {
			t.Errorf("same, but for element %d", at)
		}
		l[at], r[at] = 0, 0
	}
}

func TestAlike(t *testing.T) {
	// Elements no two of which are alike, each of several vectors.
	vectors := [][]vec.Vec{
		{bits(0, 1), smalls(0, 1), ints(0, 1), floats(signed, 1)},
		{smalls(2, -1, 127, -128), ints(2, -1, 127, -128), floats(2, -1, 127, -128)},
		{ints(128, -129, top, -top, 1<<32, top-1), floats(128, -129, top, -top, 1<<32, top-1)},
		{floats(0.5, -0.5, top+2, math.MaxFloat64, math.SmallestNonzeroFloat64)},
		{vec.Chars(append([]rune{1, 2, 127, 128}, runes...))},
		{boxes(uniques()...), boxes(mapped(uniques(), widened)...)},
	}
	type element struct {
		v       vec.Vec
		i, name int
	}
	var list []element
	name := 0
	for _, same := range vectors {
		for i := range same[0].Len() {
			for _, v := range same {
				list = append(list, element{v, i, name})
			}
			name++
		}
	}
	for _, x := range list {
		for _, y := range list {
			if value.Alike(x.v, x.i, y.v, y.i) != (x.name == y.name) {
				t.Errorf("wrong for element %d of kind %d and element %d of kind %d", x.i, x.v.Kind(), y.i, y.v.Kind())
			}
		}
	}
}

// mapped lists what comes of each array.
func mapped(l []vec.Array, f func(vec.Array) vec.Array) []vec.Array {
	z := make([]vec.Array, len(l))
	for i, a := range l {
		z[i] = f(a)
	}
	return z
}

func TestAlikeOfNoElement(t *testing.T) {
	for _, v := range []vec.Vec{
		{}, none(api.Number), none(api.Letter), none(api.Nested), bits(0, 1), smalls(0, 2), ints(0, 300), floats(0, 0.5), vec.Chars([]rune{0, 1}), boxes(vec.Array{}, vec.Array{}),
	} {
		n := v.Len()
		for _, i := range []int{-1, -2, n, n + 1, n + 64, math.MinInt, math.MaxInt, math.MinInt32, 1 << 32} {
			for k := -1; k <= n; k++ {
				if value.Alike(v, i, v, k) || value.Alike(v, k, v, i) {
					t.Errorf("elements %d and %d of %d of kind %d are alike", i, k, n, v.Kind())
				}
			}
		}
	}
}

func TestDepth(t *testing.T) {
	cases := []struct {
		a     vec.Array
		depth int
	}{
		{array(bits(1)), 0}, {array(floats(0.5)), 0}, {array(chars("x")), 0}, {vec.Array{}, 0},
		{array(bits(1), 1), 1}, {array(chars("x"), 1), 1}, {array(chars("x"), 1, 1, 1, 1, 1, 1, 1, 1), 1}, {array(smalls(1, 2, 3, 4), 2, 2), 1},
		{array(none(api.Number), 0), 1}, {array(none(api.Letter), 0), 1}, {array(none(api.Nested), 0), 1}, {array(none(api.Nested), 2, 0, 3), 1}, {array(vec.Vec{}, 0), 1},
		{array(none(api.Nested)), 1}, {array(boxes(array(none(api.Nested)))), 2}, {array(none(api.Letter)), 0}, // not good, for want of an element
		{array(boxes(array(bits(1)))), 1}, {array(boxes(array(bits(1))), 1), 1}, {array(boxes(array(chars("x")), array(bits(1))), 2), 1},
		{array(boxes(array(bits(1), 1))), 2}, {array(boxes(array(none(api.Letter), 0))), 2}, {array(boxes(array(none(api.Nested), 0)), 1, 1), 2},
		{array(boxes(array(chars("hi"), 2), array(bits(0))), 1, 2), 2}, {array(boxes(array(bits(0)), array(chars("hi"), 2)), 1, 2), 2},
		{array(boxes(array(bits(0)), nest(array(bits(0)), 5), nest(array(bits(0)), 3)), 3), 6},
		{array(boxes(nest(array(bits(0)), 3), nest(array(bits(0), 1), 5), array(bits(0))), 3), 7},
		{array(boxes(nest(array(chars("x")), 9), array(bits(0), 1)), 2, 1), 10},
		{nest(array(bits(0), 1), 39), 40}, {nest(array(bits(0)), 39), 39}, {nest(array(none(api.Nested), 0), 39), 40},
		{nest(array(bits(0)), 40), 40}, {nest(array(bits(0), 1), 100), 101}, {nest(array(bits(0)), 60000), 60000},
	}
	for _, c := range cases {
		if d := value.Depth(c.a); d != c.depth {
			t.Errorf("Depth of an array of the shape %v is %d, not %d", c.a.Shape, d, c.depth)
		}
	}
}

// P7.3

func TestOf(t *testing.T) {
	cases := []struct {
		p api.Plain
		a vec.Array
	}{
		{plain(api.Number, nil, num(1)), array(bits(1))}, {plain(api.Number, []int{}, num(2)), array(smalls(2))}, {plain(api.Letter, nil, char('x')), array(chars("x"))},
		{nums(), array(none(api.Number), 0)}, {text(), array(none(api.Letter), 0)}, {pboxes(), array(none(api.Nested), 0)},
		{shaped(nums(), 3, 0, 2), array(none(api.Number), 3, 0, 2)}, {shaped(text(), 0, 3), array(none(api.Letter), 0, 3)}, {shaped(pboxes(), most, 0), array(none(api.Nested), most, 0)},
		{nums(1, 0, 1, 1), array(bits(1, 0, 1, 1), 4)}, {shaped(nums(1, 0, 1, 1), 2, 2), array(bits(1, 0, 1, 1), 2, 2)}, {nums(1, 127, -128), array(smalls(1, 127, -128), 3)},
		{nums(128, 0), array(ints(128, 0), 2)}, {nums(-129), array(ints(-129), 1)}, {nums(top, -top), array(ints(top, -top), 2)}, {nums(top+2, 0), array(floats(top+2, 0), 2)},
		{nums(1, 0.25), array(floats(1, 0.25), 2)}, {nums(math.MaxFloat64), array(floats(math.MaxFloat64), 1)}, {nums(signed, 0, signed), array(bits(0, 0, 0), 3)}, {nums(signed, 0.5), array(floats(0, 0.5), 2)},
		{text('h', 'i'), array(chars("hi"), 2)}, {text(runes...), array(vec.Chars(runes), len(runes))}, {shaped(text('a', 'b', 'c', 'd', 'e', 'f'), 3, 2), array(chars("abcdef"), 3, 2)},
		{shaped(nums(7), 1, 1, 1, 1, 1, 1, 1, 1), array(smalls(7), 1, 1, 1, 1, 1, 1, 1, 1)},
		{pboxes(nums(1, 2), text('x'), nums()), array(boxes(array(smalls(1, 2), 2), array(chars("x"), 1), array(none(api.Number), 0)), 3)},
		{shaped(pboxes(text('h', 'i'), shaped(nums(signed))), 1, 2), array(boxes(array(chars("hi"), 2), array(bits(0))), 1, 2)},
		{pnest(pboxes(nums(1), pboxes(text('x'))), 3), nest(array(boxes(array(bits(1), 1), array(boxes(array(chars("x"), 1)), 1)), 2), 3)},
		{pboxes(nums(1, 0), nums(2, 0), nums(200, 0), nums(0.5, 0)), array(boxes(array(bits(1, 0), 2), array(smalls(2, 0), 2), array(ints(200, 0), 2), array(floats(0.5, 0), 2)), 4)},
	}
	for _, c := range cases {
		if a, err := value.Of(c.p); err != api.OK || !equal(a, c.a) {
			t.Errorf("Of(%v) is %v, error %d, not %v", c.p, a, err, c.a)
		}
	}
}

func TestOfMany(t *testing.T) {
	p, q, boxed := plain(api.Number, []int{1024, 1024}), plain(api.Letter, []int{most}), plain(api.Nested, []int{most, 1})
	for i := range most {
		p.Items = append(p.Items, num(float64(i)))
		q.Items = append(q.Items, char(rune(i)))
		boxed.Items = append(boxed.Items, box(plain(api.Number, nil, num(float64(i)))))
	}
	for _, x := range []api.Plain{p, q, boxed} {
		a, err := value.Of(x)
		if err != api.OK || a.V.Len() != most || !slices.Equal(a.Shape, x.Shape) || !value.Good(a) || !pequal(value.Plain(a), x) {
			t.Errorf("Of the shape %v has the shape %v, error %d", x.Shape, a.Shape, err)
		}
		x.Items = x.Items[1:]
		errOf(t, "one element too few", x, api.ErrLength)
		x.Items = append(x.Items, x.Items[0], x.Items[0])
		errOf(t, "one element too many", x, api.ErrLength)
		x.Shape = []int{most + 1}
		errOf(t, "one element more than the limit", x, api.ErrLimit)
	}
}

func TestOfErrors(t *testing.T) {
	nan := math.NaN()
	nine := []int{1, 1, 1, 1, 1, 1, 1, 1, 1}
	many := []int{most + 1}
	cases := []struct {
		what string
		p    api.Plain
		err  api.Errno
	}{
		{"no Fill", plain(3, nil, num(1)), api.ErrArg}, {"no Fill", plain(-1, nil, num(1)), api.ErrArg}, {"no Fill", plain(3, []int{0}), api.ErrArg},
		{"no Fill", plain(math.MinInt, []int{0}), api.ErrArg}, {"no Fill", plain(math.MaxInt, []int{0}), api.ErrArg}, {"no Fill", plain(256, []int{0}), api.ErrArg},
		{"no Fill, of the same Kind", plain(3, []int{1}, api.Item{Kind: 3}), api.ErrArg}, {"no Fill, of the same Kind", plain(-1, []int{1}, api.Item{Kind: -1}), api.ErrArg},
		{"no Fill, no shape", plain(3, nine), api.ErrArg}, {"no Fill, no shape", plain(-1, []int{-1}), api.ErrArg}, {"no Fill, no length", plain(3, []int{2}, num(1)), api.ErrArg},
		{"9 axes", plain(0, nine, num(1)), api.ErrLimit}, {"9 axes, no items", plain(1, nine), api.ErrLimit}, {"9 axes, another Kind", plain(2, nine, num(nan)), api.ErrLimit},
		{"a length of -1", plain(0, []int{-1}), api.ErrDomain}, {"a length of -1", plain(1, []int{0, -1}), api.ErrDomain}, {"lengths of -1", plain(1, []int{-1, -1}, num(1)), api.ErrDomain},
		{"too many elements", plain(0, many), api.ErrLimit}, {"too many but for a 0", plain(0, []int{most + 1, 0}), api.ErrLimit}, {"too many but for a 0", plain(2, []int{2048, 0, 1024}), api.ErrLimit},
		{"no item", plain(0, []int{3}), api.ErrLength}, {"too few items", plain(0, []int{3}, num(0)), api.ErrLength}, {"too many items", shaped(nums(1, 1), 1), api.ErrLength},
		{"no item, no axes", plain(0, nil), api.ErrLength}, {"no item, no axes", plain(1, []int{}), api.ErrLength}, {"no item, no axes", plain(2, nil), api.ErrLength}, {"the zero value", api.Plain{}, api.ErrLength},
		{"an item for a length of 0", plain(0, []int{0}, num(1)), api.ErrLength}, {"an item for a length of 0", plain(2, []int{2, 0}, box(nums())), api.ErrLength},
		{"too few, of another Kind", plain(0, []int{3}, char('x')), api.ErrLength}, {"too few, of no number", plain(0, []int{3}, num(nan)), api.ErrLength}, {"too few boxes, one of two", plain(2, []int{3}, api.Item{Kind: 2}), api.ErrLength},
		{"a character for a number", plain(0, nil, char('x')), api.ErrArg}, {"a box for a number", plain(0, nil, box(nums(1))), api.ErrArg}, {"no Kind", plain(0, nil, api.Item{Kind: 3, Num: 1}), api.ErrArg},
		{"a number for a character", plain(1, nil, num(1)), api.ErrArg}, {"a box for a character", plain(1, nil, box(nums(1))), api.ErrArg}, {"no Kind", plain(1, nil, api.Item{Kind: -1, Char: 'x'}), api.ErrArg},
		{"a number for a box", plain(2, nil, num(1)), api.ErrArg}, {"a character for a box", plain(2, nil, char('x')), api.ErrArg}, {"no Kind", plain(2, nil, api.Item{Kind: 3, Box: []api.Plain{nums(1)}}), api.ErrArg},
		{"a number with a box for a box", plain(2, nil, api.Item{Box: []api.Plain{nums(1)}}), api.ErrArg}, {"a character with a box for a box", plain(2, nil, api.Item{Kind: 1, Box: []api.Plain{nums(1)}}), api.ErrArg},
		{"the last of another Kind", plain(0, []int{3}, num(1), num(2), char('x')), api.ErrArg}, {"the last of another Kind", plain(1, []int{2}, char('x'), num(1)), api.ErrArg}, {"the first of another Kind", plain(1, []int{2}, num(1), char('x')), api.ErrArg},
		{"a box of nothing", plain(2, nil, api.Item{Kind: 2}), api.ErrArg}, {"a box of nothing", plain(2, nil, api.Item{Kind: 2, Box: []api.Plain{}}), api.ErrArg}, {"a box of two", plain(2, nil, api.Item{Kind: 2, Box: []api.Plain{nums(1), nums(2)}}), api.ErrArg},
		{"the last box of nothing", plain(2, []int{2}, box(nums(1)), api.Item{Kind: 2}), api.ErrArg}, {"the last box of two", plain(2, []int{2}, box(nums(1)), api.Item{Kind: 2, Box: []api.Plain{nums(1), nums(1)}}), api.ErrArg},
	}
	for _, c := range cases {
		errOf(t, c.what, c.p, c.err)
		errOf(t, c.what+", in a box", plain(api.Nested, nil, box(c.p)), c.err)
		errOf(t, c.what+", in the last box", pboxes(nums(1), text('x'), pboxes(text('x'), c.p)), c.err)
		errOf(t, c.what+", in 39 boxes", pnest(c.p, 39), c.err)
		errOf(t, c.what+", in 40 boxes", pnest(c.p, 40), api.ErrArg)
	}
	for _, x := range strangers {
		errOf(t, "no number", plain(0, nil, num(x)), api.ErrArg)
		errOf(t, "no number in front", nums(x, 1), api.ErrArg)
		errOf(t, "no number at the end", nums(1, 2, x), api.ErrArg)
		errOf(t, "no number in a box", pboxes(nums(1), nums(1, x)), api.ErrArg)
	}
}

func TestOfTellsTheFirstFault(t *testing.T) {
	short, wide, negative, kindless := plain(0, []int{3}), plain(0, []int{most + 1}), plain(1, []int{-1}), plain(0, nil, char('x'))
	faults := []struct {
		x   api.Item
		err api.Errno
	}{
		{box(short), api.ErrLength}, {box(wide), api.ErrLimit}, {box(negative), api.ErrDomain}, {box(kindless), api.ErrArg},
		{num(1), api.ErrArg}, {api.Item{Kind: 2}, api.ErrArg}, {api.Item{Kind: 2, Box: []api.Plain{short, short}}, api.ErrArg},
		{api.Item{Kind: 1, Box: []api.Plain{short}}, api.ErrArg}, {box(plain(2, nil, box(short))), api.ErrLength}, {box(nums(math.NaN())), api.ErrArg},
	}
	for _, first := range faults {
		for _, second := range faults {
			errOf(t, "the first of two faults", plain(2, []int{2}, first.x, second.x), first.err)
			errOf(t, "the first of two faults in boxes", plain(2, []int{3}, box(nums(1)), box(plain(2, nil, first.x)), second.x), first.err)
			errOf(t, "faults ahead of which the length counts", plain(2, []int{3}, first.x, second.x), api.ErrLength)
			errOf(t, "faults ahead of which the shape counts", plain(2, []int{2, -1}, first.x, second.x), api.ErrDomain)
			errOf(t, "faults ahead of which Fill counts", plain(3, []int{2, -1}, first.x, second.x), api.ErrArg)
		}
	}
}

func TestOfNesting(t *testing.T) {
	for _, p := range []api.Plain{plain(0, nil, num(1)), text('x'), nums(), text(), pboxes(), shaped(pboxes(), 2, 0, 3)} {
		inner, _ := value.Of(p)
		for times := range 60 {
			deep := pnest(p, times)
			if times > 39 {
				errOf(t, "too deep", deep, api.ErrArg)
				continue
			}
			if a, err := value.Of(deep); err != api.OK || !equal(a, nest(inner, times)) || !value.Good(a) {
				t.Errorf("in %d boxes: error %d", times, err)
			}
		}
		errOf(t, "too deep in the last box", pboxes(p, pnest(p, 39)), api.ErrArg)
		errOf(t, "far too deep", pnest(p, 60000), api.ErrArg)
	}
	// What lies too deep counts ahead of its own faults, but behind those of the
	// boxes before it.
	errOf(t, "too deep and too short", pnest(plain(0, []int{3}), 40), api.ErrArg)
	errOf(t, "too short ahead of too deep", pboxes(plain(0, []int{3}), pnest(nums(), 40)), api.ErrLength)
	errOf(t, "too deep ahead of too short", pboxes(pnest(nums(), 40), plain(0, []int{3})), api.ErrArg)
	// A plain array that lies in itself is without end.
	self := plain(2, []int{2}, box(nums(1)), api.Item{Kind: 2, Box: make([]api.Plain, 1)})
	self.Items[1].Box[0] = self
	errOf(t, "in itself", self, api.ErrArg)
}

func TestOfPassesByOtherFields(t *testing.T) {
	nan := math.NaN()
	deep := []api.Plain{pnest(nums(), 50), {}}
	cases := []struct{ p, as api.Plain }{
		{plain(0, nil, api.Item{Num: 0.5, Char: 'x', Box: deep}), plain(0, nil, num(0.5))},
		{plain(0, []int{2}, num(1), api.Item{Num: 0, Char: -1, Box: deep[:1]}), nums(1, 0)},
		{plain(1, nil, api.Item{Kind: 1, Num: nan, Char: 'x', Box: deep}), plain(1, nil, char('x'))},
		{plain(1, []int{2}, char('y'), api.Item{Kind: 1, Num: signed, Char: 'x', Box: deep[1:]}), text('y', 'x')},
		{plain(2, nil, api.Item{Kind: 2, Num: nan, Char: 'x', Box: []api.Plain{nums(1)}}), plain(2, nil, box(nums(1)))},
		{pboxes(plain(0, nil, api.Item{Num: 3, Char: 'x', Box: deep})), pboxes(plain(0, nil, num(3)))},
	}
	for _, c := range cases {
		a, err := value.Of(c.p)
		b, _ := value.Of(c.as)
		if err != api.OK || !equal(a, b) || !pequal(value.Plain(a), c.as) {
			t.Errorf("Of(%v) is %v, error %d", c.p, a, err)
		}
	}
}

func TestPlain(t *testing.T) {
	cases := []struct {
		a vec.Array
		p api.Plain
	}{
		{array(bits(1)), plain(0, nil, num(1))}, {array(smalls(-7)), plain(0, nil, num(-7))}, {array(chars("x")), plain(1, nil, char('x'))},
		{array(none(api.Number), 0), nums()}, {array(none(api.Letter), 0), text()}, {array(none(api.Nested), 0), pboxes()}, {array(none(api.Letter), 3, 0), shaped(text(), 3, 0)},
		{array(bits(1, 0, 1, 1), 2, 2), shaped(nums(1, 0, 1, 1), 2, 2)}, {array(ints(300, -top), 2), nums(300, -top)}, {array(floats(0.5, signed), 2), nums(0.5, 0)},
		{array(vec.Chars(runes), len(runes)), text(runes...)}, {array(chars("abcdef"), 1, 3, 2), shaped(text('a', 'b', 'c', 'd', 'e', 'f'), 1, 3, 2)},
		{array(boxes(array(chars("hi"), 2), array(bits(0))), 1, 2), shaped(pboxes(text('h', 'i'), plain(0, nil, num(0))), 1, 2)},
		{nest(array(floats(0.5), 1), 39), pnest(nums(0.5), 39)}, {nest(array(none(api.Nested), 0), 39), pnest(pboxes(), 39)},
		{array(boxes(array(none(api.Letter), 0), nest(array(smalls(2)), 2), array(boxes(array(bits(1)), array(bits(0))), 2)), 3), pboxes(text(), pnest(plain(0, nil, num(2)), 2), pboxes(plain(0, nil, num(1)), plain(0, nil, num(0))))},
	}
	for _, c := range cases {
		if p := value.Plain(c.a); !pequal(p, c.p) {
			t.Errorf("Plain(%v) is %v, not %v", c.a, p, c.p)
		}
		if p := value.Plain(widened(c.a)); !pequal(p, c.p) {
			t.Errorf("Plain(%v) in a greater kind is %v, not %v", c.a, p, c.p)
		}
	}
	p := value.Plain(array(floats(signed, 0.5), 2))
	if math.Signbit(p.Items[0].Num) {
		t.Error("a zero has a sign")
	}
}

// P7.4

// dice tells numbers that look thrown, the same ones in each run.
type dice uint64

func (d *dice) throw(n int) int {
	*d = *d*6364136223846793005 + 1442695040888963407
	return int(uint64(*d) >> 33 % uint64(n))
}

// plainOf makes some plain array, with boxes at most so deep.
func (d *dice) plainOf(deep int) api.Plain {
	p := api.Plain{Fill: d.throw(3)}
	cells := 1
	for range d.throw(4) {
		n := []int{0, 1, 1, 2, 2, 3}[d.throw(6)]
		p.Shape, cells = append(p.Shape, n), cells*n
	}
	if deep == 0 {
		p.Fill %= 2
	}
	wide := d.throw(4)
	for range cells {
		switch p.Fill {
		case api.Number:
			p.Items = append(p.Items, num(d.number(wide)))
		case api.Letter:
			p.Items = append(p.Items, char(runes[d.throw(len(runes))]))
		case api.Nested:
			p.Items = append(p.Items, box(d.plainOf(deep-1)))
		}
	}
	return p
}

// number makes some number that fits one of the kinds.
func (d *dice) number(wide int) float64 {
	lists := [][]float64{{0, 1}, {0, 1, 2, -1, 127, -128}, {0, 1, 128, -129, top, -top, 1 << 31}, {0, 0.5, -0.25, top + 2, 1e300, 5e-324}}
	return lists[wide][d.throw(len(lists[wide]))]
}

// sign is a plain array some of whose zeros have got a sign.
func sign(p api.Plain, d *dice) api.Plain {
	z := copied(p)
	for i, x := range z.Items {
		if x.Kind == api.Number && x.Num == 0 && d.throw(2) == 0 {
			z.Items[i].Num = signed
		}
		for k := range x.Box {
			z.Items[i].Box[k] = sign(x.Box[k], d)
		}
	}
	return z
}

// tight tells whether an array keeps all numbers in the least kind, in boxes too.
func tight(a vec.Array) bool {
	return squeeze.Tight(a.V) && !slices.ContainsFunc(a.V.Arrays(), func(inner vec.Array) bool { return !tight(inner) })
}

func TestRoundTrip(t *testing.T) {
	d := dice(7)
	for range 20000 {
		p := d.plainOf(d.throw(4))
		s := sign(p, &d)
		kept := copied(s)
		a, err := value.Of(s)
		if err != api.OK || !value.Good(a) || !tight(a) {
			t.Fatalf("Of(%v) is %v, error %d", s, a, err)
		}
		if !pequal(s, kept) {
			t.Fatalf("Of has changed its argument to %v", s)
		}
		if q := value.Plain(a); !pequal(q, p) {
			t.Fatalf("Plain of %v is %v", p, q)
		}
		b, err := value.Of(value.Plain(a))
		if err != api.OK || !equal(a, b) || !value.Same(a, b) {
			t.Fatalf("Of Plain of %v is %v, error %d", a, b, err)
		}
	}
}

func TestPlainOfUniques(t *testing.T) {
	for _, a := range uniques() {
		p := value.Plain(a)
		b, err := value.Of(p)
		if err != api.OK || !equal(a, b) || !value.Good(b) || !pequal(value.Plain(b), p) {
			t.Errorf("Of(Plain) of %v is %v, error %d", a, b, err)
		}
		// Numbers that were in a greater kind are kept as in the least one.
		if c, err := value.Of(value.Plain(widened(a))); err != api.OK || !equal(a, c) {
			t.Errorf("Of(Plain) of %v in a greater kind is %v, error %d", a, c, err)
		}
	}
}

func TestSameArraysAreKeptAlike(t *testing.T) {
	// However they were made.
	for _, l := range [][]float64{{}, {0}, {1, 0}, {2, 0}, {127, -128}, {128}, {top, 0}, {0.5, 0}, {top + 2}, {signed, signed, 1}} {
		a, _ := value.Of(nums(l...))
		made := []vec.Array{a, value.List(floats(l...)), value.List(a.V)}
		if n, ok := squeeze.Into(a.V, api.Int); ok {
			made = append(made, value.List(n))
			b, _ := value.New([]int{len(l)}, n)
			made = append(made, b)
		}
		b, _ := value.New([]int{len(l)}, floats(l...))
		made = append(made, b)
		for _, x := range made {
			if !value.Same(x, a) || !equal(x, a) {
				t.Errorf("%g are kept as %v of the kind %d, and of the kind %d", l, x, x.V.Kind(), a.V.Kind())
			}
		}
	}
	d := dice(11)
	var list []vec.Array
	for range 700 {
		a, _ := value.Of(d.plainOf(d.throw(3)))
		list = append(list, a)
	}
	for _, a := range list {
		for _, b := range list {
			if value.Same(a, b) != equal(a, b) {
				t.Errorf("%v and %v are the same: %v", a, b, value.Same(a, b))
			}
		}
	}
}

func TestPlainAndArrayShareNothing(t *testing.T) {
	d := dice(3)
	for range 2000 {
		p := d.plainOf(d.throw(4))
		kept := copied(p)
		// Room behind the lists, which must be left alone, too.
		p.Shape, p.Items = slices.Grow(p.Shape, 3), slices.Grow(p.Items, 3)
		a, _ := value.Of(p)
		spoil(&p)
		q := value.Plain(a)
		if !pequal(q, kept) {
			t.Fatalf("the array of %v has changed with its argument: %v", kept, q)
		}
		other := value.Plain(a)
		spoil(&q)
		if !pequal(other, kept) || !pequal(value.Plain(a), kept) {
			t.Fatalf("the array %v has changed with its plain one", kept)
		}
		for i := range a.Shape {
			a.Shape[i] = 77
		}
		if !pequal(other, kept) {
			t.Fatalf("the plain array of %v has changed with the array", kept)
		}
	}
}

func TestEmptyAndNilListsAreOne(t *testing.T) {
	a, err := value.Of(api.Plain{Shape: []int{0}, Items: []api.Item{}, Fill: 1})
	b, other := value.Of(api.Plain{Shape: []int{0}, Fill: 1})
	if err != api.OK || other != api.OK || !equal(a, b) {
		t.Error("no items are not no items")
	}
	c, err := value.Of(api.Plain{Shape: []int{}, Items: []api.Item{num(1)}})
	e, other := value.Of(api.Plain{Items: []api.Item{num(1)}})
	if err != api.OK || other != api.OK || !equal(c, e) {
		t.Error("no axes are not no axes")
	}
}

func TestWhatLiesFarTooDeep(t *testing.T) {
	a, b := nest(array(bits(1)), 60000), nest(array(bits(0)), 60000)
	if !value.Same(a, nest(array(floats(1)), 60000)) || value.Same(a, b) || value.Same(a, a.V.Box(0)) || value.Alike(a.V, 0, b.V, 0) {
		t.Error("wrong in 60000 boxes")
	}
	if p := value.Plain(a); !pequal(p, pnest(plain(0, nil, num(1)), 60000)) {
		t.Error("the plain array has changed")
	}
}

// The examples of the chapter.

func TestExamples(t *testing.T) {
	p := shaped(pboxes(text('h', 'i'), plain(0, nil, num(signed))), 1, 2)
	a, err := value.Of(p)
	if err != api.OK || value.Depth(a) != 2 || value.Rank(a) != 2 || math.Signbit(value.Plain(a).Items[1].Box[0].Items[0].Num) {
		t.Errorf("%v, error %d", a, err)
	}
	errOf(t, "a shape of 3 and one item", plain(0, []int{3}, num(0)), api.ErrLength)
	errOf(t, "a character for a number", plain(0, nil, char('x')), api.ErrArg)
	letters, _ := value.Of(text())
	numbers, _ := value.Of(nums())
	if value.Same(letters, numbers) || value.Depth(letters) != 1 || value.Depth(numbers) != 1 {
		t.Error("empty arrays")
	}
	if z, err := value.New([]int{2, 2}, floats(1, 0, 1, 1)); err != api.OK || z.V.Kind() != api.Bit {
		t.Errorf("%v, error %d", z, err)
	}
	if z, err := value.New([]int{3}, floats(1, 0, 1, 1)); err != api.ErrLength || !blank(z) {
		t.Errorf("%v, error %d", z, err)
	}
}
