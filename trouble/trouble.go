// Package trouble tells what went wrong in a script: the class of a trouble,
// where in the text it came up, and the functions that it came through.
package trouble

import (
	"errors"
	"strings"

	"rebus/api"
)

// Class is a class of troubles, as an error.
type Class api.Errno

// Error tells the class in words.
func (c Class) Error() string { return Word(api.Errno(c)) }

// Trouble is a class, and where in the text it came up.
type Trouble struct {
	Of Class
	At int
}

// Error tells the class in words.
func (t *Trouble) Error() string {
	if t == nil {
		return ""
	}
	return t.Of.Error()
}

// Unwrap tells the class.
func (t *Trouble) Unwrap() error {
	// OK is no class of troubles: Raise never makes one of it.
	if t == nil || t.Of == Class(api.OK) {
		return nil
	}
	return t.Of
}

// Call is a trouble that came through a function.
type Call struct {
	Name  string
	Cause error
}

// Error tells the function, and what came through it.
func (c *Call) Error() string { return Text(c) }

// Unwrap tells what came through the function.
func (c *Call) Unwrap() error {
	if c == nil {
		return nil
	}
	return c.Cause
}

// Word tells a class in words.
func Word(c api.Errno) string {
	switch c {
	case api.ErrSyntax:
		return "SYNTAX ERROR"
	case api.ErrValue:
		return "VALUE ERROR"
	case api.ErrRank:
		return "RANK ERROR"
	case api.ErrLength:
		return "LENGTH ERROR"
	case api.ErrDomain:
		return "DOMAIN ERROR"
	case api.ErrIndex:
		return "INDEX ERROR"
	case api.ErrLimit:
		return "LIMIT ERROR"
	case api.ErrFuel:
		return "FUEL ERROR"
	}
	return "ERROR"
}

// Raise makes a trouble of a class at a place; OK is none.
func Raise(c api.Errno, at int) error {
	if c == api.OK {
		return nil
	}
	return &Trouble{Of: Class(c), At: at}
}

// Through tells that a trouble came through a function; none stays none.
func Through(name string, e error) error {
	if none(e) {
		return nil
	}
	return &Call{Name: name, Cause: e}
}

// none tells whether there is no trouble. A nil pointer, and a Call that
// Through did not make, are none, though they are not nil as errors.
func none(e error) bool {
	switch x := e.(type) {
	case nil:
		return true
	case *Trouble:
		return x == nil
	case *Call:
		return x == nil || x.Name == "" && x.Cause == nil
	}
	return false
}

// Text tells a trouble in words.
func Text(e error) string {
	// One builder for all calls: joining text call by call would copy it
	// anew for each, and there may be very many.
	var text strings.Builder
	for !none(e) {
		switch x := e.(type) {
		case *Call:
			text.WriteString(x.Name)
			text.WriteString(": ")
			e = x.Cause
		default:
			text.WriteString(Word(Of(e)))
			return text.String()
		}
	}
	return text.String()
}

// Of tells a trouble's class; OK of none.
func Of(e error) api.Errno {
	var class Class
	if errors.As(e, &class) {
		return api.Errno(class)
	}
	return api.OK
}

// Is tells whether a trouble is of a class; for OK, whether there is none.
func Is(e error, c api.Errno) bool {
	if c == api.OK {
		return e == nil
	}
	return errors.Is(e, Class(c))
}

// At tells where a trouble came up; -1: that isn't known.
func At(e error) int {
	var t *Trouble
	if errors.As(e, &t) && t != nil {
		return t.At
	}
	return -1
}

// Names tells the functions that a trouble came through, the outermost one first.
func Names(e error) []string {
	var names []string
	for ; !none(e); e = errors.Unwrap(e) {
		if c, ok := e.(*Call); ok {
			names = append(names, c.Name)
		}
	}
	return names
}

// Show tells a trouble under the text it came up in: the class, the line, and
// a mark below the place.
func Show(e error, text []rune) string {
	if none(e) {
		return ""
	}
	word := Word(Of(e)) + "\n"
	at := At(e)
	if at < 0 || at > len(text) || len(text) > api.MaxText {
		return word
	}
	from, to := line(text, at)
	return word + string(text[from:to]) + "\n" + strings.Repeat(" ", at-from) + "^\n"
}

// line tells where the line that holds a place begins and ends, without the
// newline that ends it: the place of a newline is in the line before it.
func line(text []rune, at int) (from, to int) {
	from, to = at, at
	for from > 0 && text[from-1] != '\n' {
		from--
	}
	for to < len(text) && text[to] != '\n' {
		to++
	}
	return from, to
}
