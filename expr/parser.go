package expr

import (
	"fleuron/api"
	"fleuron/lex"
)

// parser is at a place of tokens, all of them valid.
type parser struct {
	tokens    []api.Token
	at        int // how many tokens have been taken
	depth     int // how many brackets and operations the place is within
	undivided int // how many tokens had been taken up to the last number that is not divided by one
}

// parsed returns the expression with which valid tokens begin, and how many it has.
func parsed(l []api.Token, cond bool) (x api.Expr, n int, f api.Fault) {
	defer func() {
		switch caught := recover().(type) {
		case nil:
		case api.Fault:
			x, n, f = api.Expr{}, 0, caught
		default:
			panic(caught)
		}
	}()
	p := &parser{tokens: l}
	x = p.expr(cond)
	return x, p.at, api.Fault{}
}

// faultAt returns a fault at a token.
func faultAt(code api.Errno, t api.Token) api.Fault {
	name := t.Text
	if t.Kind == api.TokNum {
		name, _ = lex.Text([]api.Token{t})
	}
	return api.Fault{Code: code, Name: name, Line: t.Line, Col: t.Col}
}

// fail ends parsing with a fault at a token.
func fail(code api.Errno, t api.Token) { panic(faultAt(code, t)) }

// early ends parsing because tokens are missing.
func (p *parser) early() {
	f := api.Fault{Code: api.ErrEnd, Line: 1, Col: 1}
	if n := len(p.tokens); n > 0 {
		f.Line, f.Col = p.tokens[n-1].Line, p.tokens[n-1].Col
	}
	panic(f)
}

// ahead returns the word or the sign that comes next, if one does.
func (p *parser) ahead() string {
	if p.at < len(p.tokens) {
		if t := p.tokens[p.at]; t.Kind == api.TokWord || t.Kind == api.TokSign {
			return t.Text
		}
	}
	return ""
}

// isNumber reports whether a number comes next, behind some more tokens.
func (p *parser) isNumber(behind int) bool {
	i := p.at + behind
	return i < len(p.tokens) && p.tokens[i].Kind == api.TokNum
}

// take takes the next token, which has to be there.
func (p *parser) take() api.Token {
	if p.at == len(p.tokens) {
		p.early()
	}
	t := p.tokens[p.at]
	p.at++
	return t
}

// skip takes a word or a sign, if it comes next, and reports whether it did.
func (p *parser) skip(text string) bool {
	if p.ahead() != text {
		return false
	}
	p.at++
	return true
}

// demand takes a word or a sign, which has to come next.
func (p *parser) demand(text string) {
	if !p.skip(text) {
		fail(api.ErrSyntax, p.take())
	}
}

// enter takes the token of a bracket or an operation: what follows is within it, until leave.
func (p *parser) enter() api.Token {
	t := p.take()
	if p.depth == api.MaxNest {
		fail(api.ErrDeep, t)
	}
	p.depth++
	return t
}

// leave ends what is within an operation.
func (p *parser) leave() { p.depth-- }

// leaveBy ends what is within a bracket, by the one that closes it.
func (p *parser) leaveBy(bracket string) {
	p.demand(bracket)
	p.leave()
}

// beginning returns a node whose first token this is.
func beginning(t api.Token, op api.ExprOp, text string, kids ...api.Expr) api.Expr {
	return api.Expr{Op: op, Text: text, Kids: kids, Line: t.Line, Col: t.Col}
}

// combined returns a node that begins where its first kid does.
func combined(op api.ExprOp, text string, kids ...api.Expr) api.Expr {
	return api.Expr{Op: op, Text: text, Kids: kids, Line: kids[0].Line, Col: kids[0].Col}
}

// expr parses an expression, or a condition.
func (p *parser) expr(cond bool) api.Expr {
	x := p.tert()
	switch {
	case isJoin(p.ahead()):
		return p.path(x)
	case cond:
		return p.chain(x, isComparisonOrEqual, p.tert)
	}
	return p.chain(x, isComparison, p.tert)
}

func (p *parser) tert() api.Expr { return p.chain(p.sec(), isSum, p.sec) }

func (p *parser) sec() api.Expr { return p.chain(p.prim(), isProduct, p.prim) }

// chain parses what follows a first operand: operations that fit, each with one more operand.
func (p *parser) chain(x api.Expr, fits func(s string) bool, operand func() api.Expr) api.Expr {
	for fits(p.ahead()) {
		t := p.take()
		x = combined(api.EBinary, t.Text, x, operand())
	}
	return x
}
