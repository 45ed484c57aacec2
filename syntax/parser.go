package syntax

import (
	"slices"

	"fleuron/api"
	"fleuron/cursor"
)

// parser takes statements; what is no statement in them, its expressions take.
type parser struct {
	expressions
	depth int // how many ifs, loops, groups and chars the place is within
}

// parsed returns the statements that valid tokens are.
func parsed(l []api.Token) (program []api.Stmt, f api.Fault) {
	defer func() {
		switch caught := recover().(type) {
		case nil:
		case api.Fault:
			program, f = nil, caught
		default:
			panic(caught)
		}
	}()
	p := &parser{expressions: expressions{cursor.Cursor{Tokens: l}}}
	for p.At < len(l) {
		program = p.further(program)
	}
	return program, api.Fault{}
}

// further takes a statement and its ; and adds it to those before it, if it is not empty.
func (p *parser) further(l []api.Stmt) []api.Stmt {
	if p.Skip(";") {
		return l
	}
	s := p.statement()
	p.Demand(";")
	return append(l, s)
}

// body takes the statements up to one of the words that can end them.
func (p *parser) body(ends ...string) []api.Stmt {
	var l []api.Stmt
	for !slices.Contains(ends, p.Ahead()) {
		l = p.further(l)
	}
	return l
}

// statement takes a statement that is not empty.
func (p *parser) statement() api.Stmt {
	first := p.Next()
	var s api.Stmt
	switch p.Ahead() {
	case "if", "for", "forever", "begingroup", "beginchar":
		if p.depth == api.MaxNest {
			cursor.Fail(api.ErrDeep, first)
		}
		p.depth++
		s = p.nest()
		p.depth--
	default:
		s = p.line()
	}
	s.Line, s.Col = first.Line, first.Col
	return s
}

// line takes a statement in which no others stand.
func (p *parser) line() api.Stmt {
	word := p.Ahead()
	switch {
	case isType(word):
		p.Take()
		return api.Stmt{Op: api.SDeclare, Text: word, Exprs: p.names()}
	case p.Skip("save"):
		return api.Stmt{Op: api.SSave, Exprs: p.names()}
	case p.Skip("exitif"):
		return api.Stmt{Op: api.SExit, Exprs: []api.Expr{p.cond()}}
	case p.Skip("pickup"):
		return api.Stmt{Op: api.SPickup, Exprs: []api.Expr{p.expr()}}
	case isFill(word):
		return p.painting(api.SFill)
	case word == "draw":
		return p.painting(api.SDraw)
	case isClip(word):
		p.Take()
		return api.Stmt{Op: api.SClip, Text: word, Exprs: p.list("also")}
	case p.Skip("unclip"):
		return api.Stmt{Op: api.SUnclip}
	case p.Skip("ligtable"):
		return p.ligtable()
	case p.Skip("message"):
		return api.Stmt{Op: api.SMessage, Exprs: []api.Expr{p.expr()}}
	case p.Skip("show"):
		return api.Stmt{Op: api.SShow, Exprs: p.list(",")}
	}
	return p.equation()
}

// equation takes equations or an assignment.
func (p *parser) equation() api.Stmt {
	first := p.Next()
	x := p.expr()
	// A variable between brackets does not begin with its name.
	if first.Kind == api.TokName && x.Op == api.EVar && p.Skip(":=") {
		return api.Stmt{Op: api.SAssign, Exprs: []api.Expr{x, p.expr()}}
	}
	p.Demand("=")
	sides := append([]api.Expr{x}, p.list("=")...)
	return api.Stmt{Op: api.SEquals, Exprs: sides}
}

// painting takes a statement that fills or draws.
func (p *parser) painting(op api.StmtOp) api.Stmt {
	s := api.Stmt{Op: op, Text: p.Take().Text}
	s.Exprs = p.list("also")
	if p.Skip("withink") {
		s.Ink = []api.Expr{p.expr()}
	}
	return s
}

// ligtable takes a code and its rules, behind ligtable.
func (p *parser) ligtable() api.Stmt {
	s := api.Stmt{Op: api.SLig, Exprs: []api.Expr{p.expr()}}
	p.Demand(":")
	s.Rules = []api.Rule{p.rule()}
	for p.Skip(",") {
		s.Rules = append(s.Rules, p.rule())
	}
	return s
}

// rule takes a rule of ligtable.
func (p *parser) rule() api.Rule {
	next := p.expr()
	word := p.Ahead()
	t := p.Take()
	if !isRule(word) {
		cursor.Fail(api.ErrSyntax, t)
	}
	return api.Rule{Text: word, Next: next, Value: p.expr()}
}
