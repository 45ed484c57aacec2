package expr

import (
	"fleuron/api"
	"fleuron/cursor"
	"fleuron/tree"
)

// parser is at a place of tokens, all of them valid.
type parser struct {
	cursor.Cursor
	depth     int // how many brackets and operations the place is within
	undivided int // how many tokens had been taken up to the last number that is not divided by one
}

// parsed returns the expression with which valid tokens begin, and how many it has.
func parsed(l []api.Token, cond bool) (x api.Expr, n int, f api.Fault) {
	defer func() {
		switch caught := recover().(type) {
		case nil:
		case api.Fault:
			x, n, f = api.Expr{}, 0, caught
		default:
			panic(caught)
		}
	}()
	p := &parser{Cursor: cursor.Cursor{Tokens: l}}
	x = p.expr(cond)
	return x, p.At, api.Fault{}
}

// isNumber reports whether a number comes next, behind some more tokens.
func (p *parser) isNumber(behind int) bool {
	i := p.At + behind
	return i < len(p.Tokens) && p.Tokens[i].Kind == api.TokNum
}

// enter takes the token of a bracket or an operation: what follows is within it, until leave.
func (p *parser) enter() api.Token {
	t := p.Take()
	if p.depth == api.MaxNest {
		cursor.Fail(api.ErrDeep, t)
	}
	p.depth++
	return t
}

// leave ends what is within an operation.
func (p *parser) leave() { p.depth-- }

// leaveBy ends what is within a bracket, by the one that closes it.
func (p *parser) leaveBy(bracket string) {
	p.Demand(bracket)
	p.leave()
}

// beginning returns a node whose first token this is.
func beginning(t api.Token, op api.ExprOp, text string, kids ...api.Expr) api.Expr {
	return api.Expr{Op: op, Text: text, Kids: kids, Line: t.Line, Col: t.Col}
}

// combined returns a node that begins where its first kid does.
func combined(op api.ExprOp, text string, kids ...api.Expr) api.Expr {
	return api.Expr{Op: op, Text: text, Kids: kids, Line: kids[0].Line, Col: kids[0].Col}
}

// expr parses an expression, or a condition.
func (p *parser) expr(cond bool) api.Expr {
	x := p.tert()
	switch {
	case isJoin(p.Ahead()):
		return p.path(x)
	case cond:
		return p.chain(x, isComparisonOrEqual, p.tert)
	}
	return p.chain(x, tree.IsComparison, p.tert)
}

func (p *parser) tert() api.Expr { return p.chain(p.sec(), tree.IsSum, p.sec) }

func (p *parser) sec() api.Expr { return p.chain(p.prim(), tree.IsProduct, p.prim) }

// chain parses what follows a first operand: operations that fit, each with one more operand.
func (p *parser) chain(x api.Expr, fits func(s string) bool, operand func() api.Expr) api.Expr {
	for fits(p.Ahead()) {
		t := p.Take()
		x = combined(api.EBinary, t.Text, x, operand())
	}
	return x
}

// isComparisonOrEqual reports whether a sign stands in a condition between its parts.
func isComparisonOrEqual(s string) bool { return s == "=" || tree.IsComparison(s) }

// isJoin reports whether a join begins with a sign.
func isJoin(s string) bool { return s == ".." || s == "--" || s == "{" }
