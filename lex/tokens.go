package lex

import (
	"strings"

	"fleuron/api"
	"fleuron/num"
)

// maxShown is how many bytes of a token a fault names.
const maxShown = 40

// reader is at a place of a string.
type reader struct {
	rest      string // what is still to be read
	line, col int
}

// Tokens returns the tokens of a string.
func Tokens(s string) ([]api.Token, api.Fault) {
	if len(s) > api.MaxText {
		return nil, api.Fault{Code: api.ErrLimit}
	}
	r := reader{rest: s, line: 1, col: 1}
	var l []api.Token
	for r.skip(); r.rest != ""; r.skip() {
		t, f := r.next()
		if f.Code != api.OK {
			return nil, f
		}
		l = append(l, t)
	}
	return l, api.Fault{}
}

// skip goes past blanks and comments.
func (r *reader) skip() {
	r.take(blank)
	for strings.HasPrefix(r.rest, "%") {
		r.take(except('\n'))
		r.take(blank)
	}
}

// take goes past the bytes that fit.
func (r *reader) take(fits func(c byte) bool) { r.pass(run(r.rest, fits)) }

// pass goes past n bytes.
func (r *reader) pass(n int) {
	for i := range n {
		r.col++
		if r.rest[i] == '\n' {
			r.line, r.col = r.line+1, 1
		}
	}
	r.rest = r.rest[n:]
}

// next goes past a token, and returns it.
func (r *reader) next() (api.Token, api.Fault) {
	t, n, e := first(r.rest)
	if e != api.OK {
		return api.Token{}, api.Fault{Code: e, Name: r.rest[:min(n, maxShown)], Line: r.line, Col: r.col}
	}
	t.Line, t.Col = r.line, r.col
	r.pass(n)
	return t, api.Fault{}
}

// first returns the token with which a string begins that is not empty, and how many bytes it has, or its first byte, if it is ErrLex.
func first(s string) (t api.Token, n int, e api.Errno) {
	if n := run(s, letter); n > 0 {
		return name(s[:n])
	}
	if n := numeral(s); n > 0 {
		return number(s[:n])
	}
	if s[0] == '"' {
		return quoted(s)
	}
	if sign := signAhead(s); sign != "" {
		return api.Token{Kind: api.TokSign, Text: sign}, len(sign), api.OK
	}
	return api.Token{}, 1, api.ErrLex
}

// name returns the token of a name.
func name(s string) (t api.Token, n int, e api.Errno) {
	if len(s) > api.MaxName {
		return api.Token{}, len(s), api.ErrLimit
	}
	return api.Token{Kind: api.TokName, Text: s}, len(s), api.OK
}

// numeral returns how many bytes the number has with which a string begins, or 0.
func numeral(s string) int {
	n := run(s, digit)
	if behind, pointed := strings.CutPrefix(s[n:], "."); pointed {
		if part := run(behind, digit); part > 0 {
			n += 1 + part
		}
	}
	return n
}

// number returns the token of a number.
func number(s string) (t api.Token, n int, e api.Errno) {
	v, e := num.Decimal(s)
	if e == api.ErrForm {
		// A numeral differs from a decimal in nothing but too many digits.
		e = api.ErrLimit
	}
	return api.Token{Kind: api.TokNum, Num: v}, len(s), e
}

// quoted returns the token of the string with which s begins.
func quoted(s string) (t api.Token, n int, e api.Errno) {
	text, _, ended := strings.Cut(s[1:], `"`)
	if !ended || !all(text, quotable) {
		return api.Token{}, 1, api.ErrLex
	}
	n = len(text) + 2
	if len(text) > maxQuoted {
		return api.Token{}, n, api.ErrLimit
	}
	return api.Token{Kind: api.TokText, Text: text}, n, api.OK
}
