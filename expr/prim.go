package expr

import (
	"fleuron/api"
	"fleuron/cursor"
	"fleuron/num"
	"fleuron/tree"
)

// prim parses what binds most: everything between two operations.
func (p *parser) prim() api.Expr {
	x := p.unmediated()
	for p.Ahead() == "[" {
		p.enter()
		x = p.between(x, p.expr(false))
	}
	return x
}

// between parses the rest of a mediation, behind the first expression in its brackets.
func (p *parser) between(x, from api.Expr) api.Expr {
	p.Demand(",")
	to := p.expr(false)
	p.leaveBy("]")
	return combined(api.EBetween, "", x, from, to)
}

// unmediated parses a prim up to where a mediation of it can begin.
func (p *parser) unmediated() api.Expr {
	s := p.Ahead()
	switch {
	case s == "(":
		return p.inBrackets()
	case tree.IsUnary(s):
		return p.unary()
	case tree.IsOf(s):
		return p.of()
	}
	t := p.Take()
	switch {
	case t.Kind == api.TokName:
		return p.variable(t)
	case t.Kind == api.TokNum:
		return p.number(t)
	case t.Kind == api.TokText:
		return beginning(t, api.EText, t.Text)
	case !tree.IsConstant(s):
		cursor.Fail(api.ErrSyntax, t)
	}
	return beginning(t, api.EUnary, t.Text)
}

// inBrackets parses an expression in round brackets, or a pair.
func (p *parser) inBrackets() api.Expr {
	t := p.enter()
	x := p.expr(true)
	if p.Skip(",") {
		x = beginning(t, api.EPair, "", x, p.expr(true))
	}
	p.leaveBy(")")
	return x
}

// unary parses an operation of one operand.
func (p *parser) unary() api.Expr {
	t := p.enter()
	x := p.prim()
	p.leave()
	return beginning(t, api.EUnary, t.Text, x)
}

// of parses an operation whose two operands have of between them.
func (p *parser) of() api.Expr {
	t := p.enter()
	x := p.expr(false)
	p.Demand("of")
	y := p.prim()
	p.leave()
	return beginning(t, api.EBinary, t.Text, x, y)
}

// variable parses the suffixes of a variable; or, where one of them turns out to be a mediation, that.
func (p *parser) variable(t api.Token) api.Expr {
	x := beginning(t, api.EVar, t.Text)
	for {
		switch {
		case p.isNumber(0):
			x.Kids = append(x.Kids, numeral(p.Take()))
		case p.Ahead() == ".":
			x.Kids = append(x.Kids, p.dot())
		case p.Ahead() == "[":
			p.enter()
			inner := p.expr(false)
			if p.Ahead() == "," {
				return p.between(x, inner)
			}
			p.leaveBy("]")
			x.Kids = append(x.Kids, inner)
		default:
			return x
		}
	}
}

// dot parses a suffix that is a name.
func (p *parser) dot() api.Expr {
	point := p.Take()
	name := p.Name()
	return beginning(point, api.EDot, name.Text)
}

// numeral returns the node of a number.
func numeral(t api.Token) api.Expr {
	x := beginning(t, api.ENum, "")
	x.Num = t.Num
	return x
}

// number parses what follows a number: one by which it is divided, and a prim that it is multiplied by.
func (p *parser) number(t api.Token) api.Expr {
	x := numeral(t)
	if p.Ahead() == "/" && p.isNumber(1) {
		p.Take()
		x.Num = quotient(t, p.Take())
	} else {
		p.undivided = p.At
	}
	if p.factorAhead() {
		return combined(api.EBinary, "*", x, p.prim())
	}
	return x
}

// quotient returns the quotient of two numbers.
func quotient(t, by api.Token) api.Num {
	q, e := num.Div(t.Num, by.Num)
	switch e {
	case api.OK:
	case api.ErrZero:
		cursor.Fail(e, by)
	default:
		cursor.Fail(e, t)
	}
	return q
}

// factorAhead reports whether a prim comes next that multiplies the number ahead of it.
func (p *parser) factorAhead() bool {
	if p.At == len(p.Tokens) {
		return false
	}
	t := p.Tokens[p.At]
	switch t.Kind {
	case api.TokName, api.TokText:
		return true
	case api.TokWord:
		return tree.IsConstant(t.Text) || tree.IsUnary(t.Text) || tree.IsOf(t.Text)
	case api.TokSign:
		return t.Text == "("
	}
	return false
}
