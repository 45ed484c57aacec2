// Package cursor takes valid tokens one after the other: it is what the parsers of layers 5 and 6 share. Where a token cannot stand, it panics with the fault (api.Fault), which the function recovers that was called from outside.
package cursor

import (
	"fleuron/api"
	"fleuron/lex"
)

// Cursor is at a place of tokens, all of them valid.
type Cursor struct {
	Tokens []api.Token
	At     int // how many tokens have been taken
}

// Valid reports whether all tokens are valid.
func Valid(l []api.Token) bool {
	for _, t := range l {
		if !lex.Valid(t) {
			return false
		}
	}
	return true
}

// Fault returns a fault at a token.
func Fault(code api.Errno, t api.Token) api.Fault {
	name := t.Text
	if t.Kind == api.TokNum {
		name, _ = lex.Text([]api.Token{t})
	}
	return api.Fault{Code: code, Name: name, Line: t.Line, Col: t.Col}
}

// Fail panics with a fault at a token.
func Fail(code api.Errno, t api.Token) { panic(Fault(code, t)) }

// early panics because tokens are missing.
func (c *Cursor) early() {
	f := api.Fault{Code: api.ErrEnd, Line: 1, Col: 1}
	if n := len(c.Tokens); n > 0 {
		f.Line, f.Col = c.Tokens[n-1].Line, c.Tokens[n-1].Col
	}
	panic(f)
}

// Next returns the next token, which has to be there, and leaves it where it is.
func (c *Cursor) Next() api.Token {
	if c.At == len(c.Tokens) {
		c.early()
	}
	return c.Tokens[c.At]
}

// Ahead returns the word or the sign that comes next, or an empty string, if none does.
func (c *Cursor) Ahead() string {
	if c.At < len(c.Tokens) {
		if t := c.Tokens[c.At]; t.Kind == api.TokWord || t.Kind == api.TokSign {
			return t.Text
		}
	}
	return ""
}

// Take takes the next token, which has to be there.
func (c *Cursor) Take() api.Token {
	t := c.Next()
	c.At++
	return t
}

// Name takes a name, which has to come next.
func (c *Cursor) Name() api.Token {
	t := c.Take()
	if t.Kind != api.TokName {
		Fail(api.ErrSyntax, t)
	}
	return t
}

// Skip takes a word or a sign, if it comes next, and reports whether it did.
func (c *Cursor) Skip(text string) bool {
	if c.Ahead() != text {
		return false
	}
	c.At++
	return true
}

// Demand takes a word or a sign, which has to come next.
func (c *Cursor) Demand(text string) {
	if !c.Skip(text) {
		Fail(api.ErrSyntax, c.Take())
	}
}
