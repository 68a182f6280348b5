package trouble_test

import (
	"errors"
	"math"
	"slices"
	"strings"
	"testing"

	"rebus/api"
	"rebus/trouble"
)

// words holds the classes that have words of their own.
var words = map[api.Errno]string{
	20: "SYNTAX ERROR",
	21: "VALUE ERROR",
	22: "RANK ERROR",
	23: "LENGTH ERROR",
	24: "DOMAIN ERROR",
	25: "INDEX ERROR",
	26: "LIMIT ERROR",
	27: "FUEL ERROR",
}

// numbers lists known and unknown numbers of classes, OK among them.
func numbers() []api.Errno {
	l := []api.Errno{math.MinInt, math.MaxInt}
	for c := api.Errno(-40); c <= 60; c++ {
		l = append(l, c)
	}
	return l
}

// wordOf is what P1.1 asks of Word.
func wordOf(c api.Errno) string {
	if w, ok := words[c]; ok {
		return w
	}
	return "ERROR"
}

// nest puts a trouble through functions, the first name being the outermost.
func nest(e error, names ...string) error {
	for _, n := range slices.Backward(names) {
		e = trouble.Through(n, e)
	}
	return e
}

// P1.1

func TestWord(t *testing.T) {
	for _, c := range numbers() {
		if got := trouble.Word(c); got != wordOf(c) {
			t.Errorf("Word(%d) = %q, not %q", c, got, wordOf(c))
		}
	}
}

func TestErrorIsWord(t *testing.T) {
	for _, c := range numbers() {
		if got := trouble.Class(c).Error(); got != wordOf(c) {
			t.Errorf("Class(%d).Error() = %q", c, got)
		}
		if got := (&trouble.Trouble{Of: trouble.Class(c), At: 3}).Error(); got != wordOf(c) {
			t.Errorf("Trouble of %d: Error() = %q", c, got)
		}
		if c == api.OK {
			continue
		}
		if got := trouble.Raise(c, -7).Error(); got != wordOf(c) {
			t.Errorf("Raise(%d, -7).Error() = %q", c, got)
		}
	}
}

// P1.2

func TestRaise(t *testing.T) {
	for _, at := range []int{math.MinInt, -2, -1, 0, 1, 5, api.MaxText, math.MaxInt} {
		if e := trouble.Raise(api.OK, at); e != nil {
			t.Errorf("Raise(OK, %d) = %v", at, e)
		}
		for _, c := range numbers() {
			if c == api.OK {
				continue
			}
			e := trouble.Raise(c, at)
			if trouble.Of(e) != c || trouble.At(e) != at {
				t.Errorf("Raise(%d, %d): Of %d, At %d", c, at, trouble.Of(e), trouble.At(e))
			}
			if n := trouble.Names(e); len(n) != 0 {
				t.Errorf("Raise(%d, %d): Names %q", c, at, n)
			}
		}
	}
}

func TestThroughOfNone(t *testing.T) {
	if e := trouble.Through("f", nil); e != nil {
		t.Errorf("Through of nil is %v", e)
	}
	if e := trouble.Through("g", trouble.Through("f", trouble.Raise(api.OK, 4))); e != nil {
		t.Errorf("Through twice of no trouble is %v", e)
	}
}

func TestText(t *testing.T) {
	cases := []struct {
		e    error
		want string
	}{
		{nil, ""},
		{trouble.Raise(api.ErrRank, 5), "RANK ERROR"},
		{trouble.Raise(api.ErrArg, 5), "ERROR"},
		{trouble.Raise(99, 5), "ERROR"},
		{trouble.Class(api.ErrFuel), "FUEL ERROR"},
		{trouble.Class(-3), "ERROR"},
		{trouble.Through("f", trouble.Class(api.ErrIndex)), "f: INDEX ERROR"},
		{trouble.Through("f", trouble.Class(99)), "f: ERROR"},
		{trouble.Through("", trouble.Raise(api.ErrValue, -1)), ": VALUE ERROR"},
		{trouble.Through("\u2206a: \n", trouble.Raise(api.ErrValue, 0)), "\u2206a: \n: VALUE ERROR"},
		{nest(trouble.Raise(api.ErrDomain, 5), "sum", "mean"), "sum: mean: DOMAIN ERROR"},
		{nest(trouble.Raise(api.ErrLimit, 5), "f", "f", "", "g"), "f: f: : g: LIMIT ERROR"},
	}
	for _, c := range cases {
		if got := trouble.Text(c.e); got != c.want {
			t.Errorf("Text = %q, not %q", got, c.want)
		}
		if c.e != nil && c.e.Error() != c.want {
			t.Errorf("Error() = %q, not %q", c.e.Error(), c.want)
		}
	}
}

// P1.3

func TestOfAndIs(t *testing.T) {
	if trouble.Of(nil) != api.OK {
		t.Errorf("Of(nil) = %d", trouble.Of(nil))
	}
	for _, c := range numbers() {
		if got := trouble.Is(nil, c); got != (c == api.OK) {
			t.Errorf("Is(nil, %d) = %v", c, got)
		}
		if c == api.OK {
			continue
		}
		for _, e := range []error{
			trouble.Class(c),
			trouble.Raise(c, 7),
			trouble.Through("f", trouble.Class(c)),
			nest(trouble.Raise(c, 7), "f", "g", "h"),
		} {
			if trouble.Of(e) != c {
				t.Errorf("Of(%v) = %d, not %d", e, trouble.Of(e), c)
			}
			for _, d := range []api.Errno{api.OK, c - 1, c, c + 1, api.ErrRank} {
				if got := trouble.Is(e, d); got != (d == c) {
					t.Errorf("Is(%v of %d, %d) = %v", e, c, d, got)
				}
			}
		}
	}
}

func TestAt(t *testing.T) {
	cases := []struct {
		e    error
		want int
	}{
		{nil, -1},
		{trouble.Class(api.ErrRank), -1},
		{trouble.Class(99), -1},
		{trouble.Through("f", trouble.Class(api.ErrRank)), -1},
		{trouble.Raise(api.ErrRank, 0), 0},
		{trouble.Raise(api.ErrRank, 5), 5},
		{trouble.Raise(api.ErrRank, -1), -1},
		{trouble.Raise(api.ErrRank, -9), -9},
		{trouble.Raise(api.ErrRank, math.MaxInt), math.MaxInt},
		{nest(trouble.Raise(api.ErrRank, 12), "f", "g"), 12},
	}
	for _, c := range cases {
		if got := trouble.At(c.e); got != c.want {
			t.Errorf("At(%v) = %d, not %d", c.e, got, c.want)
		}
	}
}

func TestNames(t *testing.T) {
	cases := []struct {
		e    error
		want []string
	}{
		{nil, nil},
		{trouble.Class(api.ErrRank), nil},
		{trouble.Raise(api.ErrRank, 5), nil},
		{nest(trouble.Class(api.ErrRank), "f"), []string{"f"}},
		{nest(trouble.Raise(api.ErrRank, 5), "sum", "mean"), []string{"sum", "mean"}},
		{nest(trouble.Raise(api.ErrRank, 5), "f", "f", "", "g"), []string{"f", "f", "", "g"}},
	}
	for _, c := range cases {
		if got := trouble.Names(c.e); !slices.Equal(got, c.want) {
			t.Errorf("Names(%v) = %q, not %q", c.e, got, c.want)
		}
	}
}

func TestNamesAreNewMemory(t *testing.T) {
	e := nest(trouble.Raise(api.ErrRank, 5), "f", "g")
	trouble.Names(e)[0] = "changed"
	if got := trouble.Names(e); !slices.Equal(got, []string{"f", "g"}) {
		t.Errorf("Names = %q after an earlier answer was changed", got)
	}
}

func TestFoundByErrorsIs(t *testing.T) {
	for _, e := range []error{
		trouble.Class(api.ErrDomain),
		trouble.Raise(api.ErrDomain, 3),
		nest(trouble.Raise(api.ErrDomain, 3), "f", "g"),
		nest(trouble.Class(api.ErrDomain), "f", "g"),
	} {
		if !errors.Is(e, trouble.Class(api.ErrDomain)) {
			t.Errorf("errors.Is does not find the class of %v", e)
		}
		if errors.Is(e, trouble.Class(api.ErrRank)) || errors.Is(e, trouble.Class(api.OK)) {
			t.Errorf("errors.Is finds another class in %v", e)
		}
		var class trouble.Class
		if !errors.As(e, &class) || class != trouble.Class(api.ErrDomain) {
			t.Errorf("errors.As finds class %d in %v", class, e)
		}
	}
}

func TestFoundByErrorsAs(t *testing.T) {
	e := nest(trouble.Raise(api.ErrDomain, 3), "f", "g")
	var tr *trouble.Trouble
	if !errors.As(e, &tr) || *tr != (trouble.Trouble{Of: trouble.Class(api.ErrDomain), At: 3}) {
		t.Errorf("errors.As finds the trouble %v", tr)
	}
	var call *trouble.Call
	if !errors.As(e, &call) || call.Name != "f" || call.Error() != "f: g: DOMAIN ERROR" {
		t.Fatalf("errors.As finds the call %v", call)
	}
	if inner := errors.Unwrap(call); trouble.Text(inner) != "g: DOMAIN ERROR" || trouble.Text(call.Cause) != "g: DOMAIN ERROR" {
		t.Errorf("the cause of the outermost call is %v", inner)
	}
	if errors.As(trouble.Raise(api.ErrDomain, 3), &call) {
		t.Error("errors.As finds a call where there is none")
	}
	if errors.As(trouble.Through("f", trouble.Class(api.ErrDomain)), &tr) {
		t.Error("errors.As finds a trouble where there is only a class")
	}
}

// P1.4

func TestShow(t *testing.T) {
	cases := []struct {
		at         int
		text, want string
	}{
		{0, "", "\n^\n"},
		{1, "", ""},
		{-1, "", ""},
		{0, "abc", "abc\n^\n"},
		{2, "abc", "abc\n  ^\n"},
		{3, "abc", "abc\n   ^\n"},
		{4, "abc", ""},
		{-1, "abc", ""},
		{math.MinInt, "abc", ""},
		{math.MaxInt, "abc", ""},
		{1, "ab\ncd\n\nef", "ab\n ^\n"},
		{2, "ab\ncd\n\nef", "ab\n  ^\n"},
		{3, "ab\ncd\n\nef", "cd\n^\n"},
		{4, "ab\ncd\n\nef", "cd\n ^\n"},
		{5, "ab\ncd\n\nef", "cd\n  ^\n"},
		{6, "ab\ncd\n\nef", "\n^\n"},
		{7, "ab\ncd\n\nef", "ef\n^\n"},
		{9, "ab\ncd\n\nef", "ef\n  ^\n"},
		{0, "\n", "\n^\n"},
		{1, "\n", "\n^\n"},
		{2, "\n", ""},
		{2, "ab\n", "ab\n  ^\n"},
		{3, "ab\n", "\n^\n"},
		{4, "ab\n", ""},
		{2, "a\r\tb", "a\r\tb\n  ^\n"},
		{3, "a\u21901\nb\u2190a\u00f70\nc", "a\u21901\n   ^\n"},
		{6, "a\u21901\nb\u2190a\u00f70\nc", "b\u2190a\u00f70\n  ^\n"},
	}
	for _, c := range cases {
		e := trouble.Raise(api.ErrLength, c.at)
		for _, e := range []error{e, nest(e, "f", "g")} {
			if got := trouble.Show(e, []rune(c.text)); got != "LENGTH ERROR\n"+c.want {
				t.Errorf("Show(%v at %d, %q) = %q", e, c.at, c.text, got)
			}
		}
	}
}

func TestShowWithoutPosition(t *testing.T) {
	for _, text := range []string{"", "abc", "a\nb\n"} {
		if got := trouble.Show(nil, []rune(text)); got != "" {
			t.Errorf("Show(nil, %q) = %q", text, got)
		}
		if got := trouble.Show(trouble.Class(api.ErrRank), []rune(text)); got != "RANK ERROR\n" {
			t.Errorf("Show of a class alone under %q = %q", text, got)
		}
		if got := trouble.Show(trouble.Through("f", trouble.Class(99)), []rune(text)); got != "ERROR\n" {
			t.Errorf("Show of an unknown class under %q = %q", text, got)
		}
	}
}

func TestShowLongText(t *testing.T) {
	long := []rune(strings.Repeat("x", api.MaxText))
	for _, at := range []int{0, 17, api.MaxText} {
		want := "VALUE ERROR\n" + string(long) + "\n" + strings.Repeat(" ", at) + "^\n"
		if got := trouble.Show(trouble.Raise(api.ErrValue, at), long); got != want {
			t.Errorf("Show at %d of a text of MaxText runes has %d bytes, not %d", at, len(got), len(want))
		}
		if got := trouble.Show(trouble.Raise(api.ErrValue, at), append(long, '\n')); got != "VALUE ERROR\n" {
			t.Errorf("Show at %d of a text of more than MaxText runes has %d bytes", at, len(got))
		}
	}
}

func TestShowCountsRunes(t *testing.T) {
	text := []rune(strings.Repeat("\u2373", api.MaxText))
	got := trouble.Show(trouble.Raise(api.ErrValue, api.MaxText), text)
	if want := "VALUE ERROR\n" + string(text) + "\n" + strings.Repeat(" ", api.MaxText) + "^\n"; got != want {
		t.Errorf("Show has %d bytes, not %d", len(got), len(want))
	}
	odd := []rune{-1, 0xd800, math.MaxInt32, '\n', 'a'}
	if got := trouble.Show(trouble.Raise(api.ErrValue, 3), odd); got != "VALUE ERROR\n\ufffd\ufffd\ufffd\n   ^\n" {
		t.Errorf("Show of runes that are no characters = %q", got)
	}
}

func TestShowLeavesText(t *testing.T) {
	all := []rune("ab\ncd\nef")
	trouble.Show(trouble.Raise(api.ErrValue, 4), all[:5])
	if string(all) != "ab\ncd\nef" {
		t.Errorf("Show changed the text to %q", string(all))
	}
}

// P1.5

func TestDeep(t *testing.T) {
	const deep = 1 << 16
	for _, c := range []struct {
		e  error
		of api.Errno
		at int
	}{
		{trouble.Raise(api.ErrIndex, 42), api.ErrIndex, 42},
		{trouble.Raise(-5, 0), -5, 0},
		{trouble.Class(api.ErrFuel), api.ErrFuel, -1},
	} {
		e := c.e
		for n := range deep {
			e = trouble.Through("f", e)
			if n&(n+1) != 0 {
				continue
			}
			if trouble.Of(e) != c.of || !trouble.Is(e, c.of) || trouble.At(e) != c.at {
				t.Fatalf("after %d functions: Of %d, At %d", n+1, trouble.Of(e), trouble.At(e))
			}
		}
		if got := len(trouble.Names(e)); got != deep {
			t.Errorf("%d names, not %d", got, deep)
		}
		if got := trouble.Text(e); got != strings.Repeat("f: ", deep)+wordOf(c.of) {
			t.Errorf("Text has %d bytes", len(got))
		}
	}
}

func TestThroughLeavesCause(t *testing.T) {
	inner := trouble.Through("g", trouble.Raise(api.ErrRank, 2))
	trouble.Through("f", inner)
	if trouble.Text(inner) != "g: RANK ERROR" {
		t.Errorf("Through changed its trouble to %q", trouble.Text(inner))
	}
}

// Objects that no call made: no panic, and nothing told.

func TestNilObjects(t *testing.T) {
	var tr *trouble.Trouble
	var call *trouble.Call
	for _, e := range []error{tr, call, &trouble.Call{}} {
		if e.Error() != "" || errors.Unwrap(e) != nil {
			t.Errorf("%T: Error %q, Unwrap %v", e, e.Error(), errors.Unwrap(e))
		}
		if trouble.Text(e) != "" || trouble.Show(e, []rune("abc")) != "" {
			t.Errorf("%T: Text %q, Show %q", e, trouble.Text(e), trouble.Show(e, []rune("abc")))
		}
		if trouble.Of(e) != api.OK || trouble.At(e) != -1 || len(trouble.Names(e)) != 0 {
			t.Errorf("%T: Of %d, At %d, Names %q", e, trouble.Of(e), trouble.At(e), trouble.Names(e))
		}
		if trouble.Is(e, api.ErrRank) || trouble.Through("f", e) != nil {
			t.Errorf("%T is taken for a trouble", e)
		}
	}
	if e := (&trouble.Trouble{}).Unwrap(); e != nil {
		t.Errorf("a zero Trouble unwraps to %v", e)
	}
}

func TestOtherErrors(t *testing.T) {
	other := errors.New("another error")
	for _, e := range []error{other, trouble.Through("f", other)} {
		if trouble.Of(e) != api.OK || trouble.At(e) != -1 || trouble.Is(e, api.OK) || trouble.Is(e, api.ErrRank) {
			t.Errorf("%v: Of %d, At %d", e, trouble.Of(e), trouble.At(e))
		}
		if got := trouble.Show(e, []rune("abc")); got != "ERROR\n" {
			t.Errorf("Show(%v) = %q", e, got)
		}
	}
	if got := trouble.Text(trouble.Through("f", other)); got != "f: ERROR" {
		t.Errorf("Text = %q", got)
	}
}
