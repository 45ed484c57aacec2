package syntax

import (
	"fleuron/api"
	"fleuron/cursor"
	"fleuron/expr"
)

// few is how many tokens are looked at first for an expression.
const few = 16

// expressions takes expressions, and what is made of them alone, where it is at valid tokens.
type expressions struct{ cursor.Cursor }

// expr takes an expression.
func (e *expressions) expr() api.Expr { return e.expression(false) }

// cond takes a condition.
func (e *expressions) cond() api.Expr { return e.expression(true) }

// expression takes an expression, or a condition.
func (e *expressions) expression(cond bool) api.Expr {
	e.Next()
	rest := e.Tokens[e.At:]
	// Next checks all tokens that it is given, so that it gets no more of them than it needs: a fault or an end ahead of the last one does not depend on those behind.
	for size := few; ; size *= 2 {
		l := rest[:min(size, len(rest))]
		x, n, f := expr.Next(l, cond)
		open := f.Code == api.ErrEnd || n == len(l)
		switch {
		case open && len(l) < len(rest):
		case f.Code != api.OK:
			panic(f)
		default:
			e.At += n
			return x
		}
	}
}

// list takes an expression, and one more behind each of these words or signs.
func (e *expressions) list(between string) []api.Expr {
	l := []api.Expr{e.expr()}
	for e.Skip(between) {
		l = append(l, e.expr())
	}
	return l
}

// names takes names, as variables without suffixes, with commas between them.
func (e *expressions) names() []api.Expr {
	l := []api.Expr{tag(e.Name())}
	for e.Skip(",") {
		l = append(l, tag(e.Name()))
	}
	return l
}

// tag returns the variable without suffixes that a name is.
func tag(t api.Token) api.Expr {
	return api.Expr{Op: api.EVar, Text: t.Text, Line: t.Line, Col: t.Col}
}
