package show

import (
	"fleuron/api"
	"fleuron/lex"
	"fleuron/num"
	"fleuron/tree"
)

// rule is one of the rules of expressions.
type rule int

// The rules, each narrower than the one before it: what is written by it is by that one, too.
const (
	cond  rule = iota
	whole      // no condition, so that = is no sign of it
	tert
	sec
	prim
	base // a prim that goes up to the [ of a mediation behind it
)

// narrowest returns the narrowest rule by which a node is written without brackets.
func narrowest(x *api.Expr) rule {
	switch {
	case x.Op == api.EPath:
		return whole
	case x.Op == api.EUnary && len(x.Kids) > 0:
		return prim
	case x.Op == api.EBinary:
		return narrowestOfTwo(x)
	}
	return base
}

// narrowestOfTwo returns the narrowest rule for an operation of two operands.
func narrowestOfTwo(x *api.Expr) rule {
	switch {
	case x.Text == "=":
		return cond
	case tree.IsComparison(x.Text):
		return whole
	case tree.IsSum(x.Text):
		return tert
	case tree.IsOf(x.Text) || hasFactor(x):
		return prim
	}
	return sec
}

// hasFactor reports whether a node is the product of a number and something, which can do without a sign.
func hasFactor(x *api.Expr) bool {
	return x.Op == api.EBinary && x.Text == "*" && x.Kids[0].Op == api.ENum
}

// expr writes an expression by a rule, in brackets if it has to.
func (w *writer) expr(x *api.Expr, r rule) {
	w.begin()
	if narrowest(x) < r || w.factor && misread(x) {
		w.put("(")
		w.node(x, cond)
		w.put(")")
		return
	}
	w.node(x, r)
}

// list writes expressions by a rule, with these words or signs between them, in turn.
func (w *writer) list(l []api.Expr, r rule, between ...string) {
	for i := range l {
		if i > 0 {
			w.put(between[(i-1)%len(between)])
		}
		w.expr(&l[i], r)
	}
}

// misread reports whether a node begins with a token that, behind a number, would not begin a prim.
func misread(x *api.Expr) bool {
	return x.Op == api.ENum || x.Op == api.EUnary && (x.Text == "+" || x.Text == "-") || hasFactor(x)
}

// node writes a node by a rule that does not ask for brackets.
func (w *writer) node(x *api.Expr, r rule) {
	switch x.Op {
	case api.ENum:
		w.number(x.Num)
	case api.EText:
		w.put(`"` + x.Text + `"`)
	case api.EVar:
		w.variable(x)
	case api.EPair:
		w.put("(")
		w.list(x.Kids, cond, ",")
		w.put(")")
	case api.EUnary:
		w.put(x.Text)
		w.list(x.Kids, prim)
	case api.EBinary:
		w.binary(x, r)
	case api.EBetween:
		w.expr(&x.Kids[0], base)
		w.put("[")
		w.list(x.Kids[1:], whole, ",")
		w.put("]")
	case api.EPath:
		w.path(x)
	}
}

// number writes a number as one token, or, if there is none of it, as a quotient of two.
func (w *writer) number(n api.Num) {
	if w.tail == divided {
		// The number behind the / would go on with the one ahead of it, if that were not a quotient already.
		w.put("1", "/")
	}
	if s, ok := numeral(n); ok {
		w.put(s)
		w.tail = undivided
		return
	}
	over, under := quotient(n)
	w.put(over, "/", under)
}

// numeral returns the token of a number, if there is one.
func numeral(n api.Num) (string, bool) {
	s, e := lex.Text([]api.Token{{Kind: api.TokNum, Num: n}})
	return s, e == api.OK
}

// quotient returns two tokens of which a number is the quotient.
func quotient(n api.Num) (over, under string) {
	over, fits := numeral(api.Num{P: n.P, Q: 1})
	under, fitsToo := numeral(api.Num{P: n.Q, Q: 1})
	if fits && fitsToo {
		return over, under
	}
	return tenth(n.P), tenth(n.Q)
}

// tenth returns the token of a tenth of a number, which has a digit less in front of its point.
func tenth(p int64) string {
	n, _ := num.Make(p, 10)
	s, _ := numeral(n)
	return s
}

// variable writes a variable with its suffixes.
func (w *writer) variable(x *api.Expr) {
	w.put(x.Text)
	for i := range x.Kids {
		w.suffix(&x.Kids[i])
	}
}

// suffix writes a suffix of a variable.
func (w *writer) suffix(x *api.Expr) {
	if x.Op == api.EDot {
		w.put(".", x.Text)
		return
	}
	// The Num of a node that is no number is none, either.
	if s, ok := numeral(x.Num); ok {
		w.put(s)
		return
	}
	w.put("[")
	w.expr(x, whole)
	w.put("]")
}

// binary writes an operation of two operands by a rule that does not ask for brackets.
func (w *writer) binary(x *api.Expr, r rule) {
	a, b := &x.Kids[0], &x.Kids[1]
	own := narrowest(x)
	switch {
	case tree.IsOf(x.Text):
		w.put(x.Text)
		w.expr(a, whole)
		w.put("of")
		w.expr(b, prim)
	case own == prim && r == prim:
		w.number(a.Num)
		w.factor = true
		w.expr(b, prim)
	case own == prim:
		w.between(x, sec, prim)
	case own >= tert:
		w.between(x, own, own+1)
	case a.Op == api.EPath:
		w.between(x, tert, tert)
	default:
		w.between(x, r, tert)
	}
}

// between writes an operation whose word or sign stands between its operands, each of which follows a rule.
func (w *writer) between(x *api.Expr, left, right rule) {
	w.expr(&x.Kids[0], left)
	w.put(x.Text)
	w.expr(&x.Kids[1], right)
}
