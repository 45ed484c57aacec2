package expr_test

import (
	"math/rand/v2"
	"slices"
	"strings"

	"fleuron/api"
	"fleuron/sample"
)

// random makes expressions and tokens of which nobody has thought.
type random struct {
	*rand.Rand
	sample.Maker
}

func newRandom() random {
	r := rand.New(rand.NewPCG(9, 10))
	// Some names are spelled as words.
	return random{r, sample.Maker{Pick: r.IntN, Names: "a b c x_ Z and true point " + strings.Repeat("n", 40)}}
}

// writer writes expressions as tokens, each on a line or in a column of its own. It sets brackets where they are needed, and sometimes more.
type writer struct {
	random
	l      tokens
	number bool // the last token is a number that would be divided by one behind a /
}

func (w *writer) put(kind api.TokKind, text string, value api.Num) (line, col int) {
	line, col = len(w.l)/7+1, len(w.l)%7+1
	w.l = append(w.l, api.Token{Kind: kind, Text: text, Num: value, Line: line, Col: col})
	w.number = kind == api.TokNum
	return line, col
}

func (w *writer) name(s string) (line, col int) { return w.put(api.TokName, s, api.Num{}) }

// mark writes a word or a sign.
func (w *writer) mark(s string) (line, col int) {
	kind := api.TokSign
	if strings.Contains("abcdefghijklmnopqrstuvwxyz", s[:1]) {
		kind = api.TokWord
	}
	return w.put(kind, s, api.Num{})
}

// numeral writes a number, if there is a token of it.
func (w *writer) numeral(n api.Num) (line, col int, ok bool) {
	if n.P/n.Q > 999999999 || 100000%n.Q != 0 {
		return 0, 0, false
	}
	line, col = w.put(api.TokNum, "", n)
	return line, col, true
}

// What an expression is written as: the more, the more it binds. A cond is an expr in which = is no fault.
const (
	asCond = iota
	asExpr
	asTert
	asSec
	asPrim
)

// rank returns as what an expression can be written without brackets.
func rank(x api.Expr) int {
	is := func(ops string) bool { return slices.Contains(strings.Fields(ops), x.Text) }
	switch {
	case x.Op == api.EPath:
		return asExpr
	case x.Op != api.EBinary || is(sample.Of):
		return asPrim
	case is(sample.Products):
		return asSec
	case is(sample.Sums):
		return asTert
	case is(sample.Comparisons):
		return asExpr
	}
	return asCond
}

// write writes an expression, and returns it with the places where its nodes are.
func (w *writer) write(x api.Expr, as int) api.Expr {
	if rank(x) < as || w.IntN(12) == 0 {
		w.mark("(")
		x = w.write(x, asCond)
		w.mark(")")
		return x
	}
	x.Kids = slices.Clone(x.Kids)
	switch x.Op {
	case api.ENum:
		x.Line, x.Col = w.quotient(x.Num)
	case api.EText:
		x.Line, x.Col = w.put(api.TokText, x.Text, api.Num{})
	case api.EVar:
		w.variable(&x)
	case api.EPair:
		x.Line, x.Col = w.mark("(")
		x.Kids[0] = w.write(x.Kids[0], asCond)
		w.mark(",")
		x.Kids[1] = w.write(x.Kids[1], asCond)
		w.mark(")")
	case api.EUnary:
		x.Line, x.Col = w.mark(x.Text)
		if len(x.Kids) == 1 {
			x.Kids[0] = w.write(x.Kids[0], asPrim)
		}
	case api.EBinary:
		w.binary(&x, as)
	case api.EBetween:
		w.between(&x)
	case api.EPath:
		w.path(&x)
	}
	return x
}

// quotient writes a number, as one token or as two.
func (w *writer) quotient(n api.Num) (line, col int) {
	if w.IntN(3) > 0 {
		if line, col, ok := w.numeral(n); ok {
			return line, col
		}
	}
	by := int64(10)
	if n.P < 1000 && n.Q < 1000 {
		by = []int64{1, 2, 5, 20}[w.IntN(4)]
	}
	part := func(p int64) api.Num {
		q := by
		for _, d := range []int64{2, 2, 5} {
			if p%d == 0 && q%d == 0 {
				p, q = p/d, q/d
			}
		}
		return api.Num{P: p, Q: q}
	}
	line, col, _ = w.numeral(part(n.P))
	w.mark("/")
	w.numeral(part(n.Q))
	w.number = false
	return line, col
}

func (w *writer) variable(x *api.Expr) {
	x.Line, x.Col = w.name(x.Text)
	for i, k := range x.Kids {
		switch {
		case k.Op == api.EDot:
			k.Line, k.Col = w.mark(".")
			w.name(k.Text)
		case k.Op == api.ENum && w.IntN(2) == 0 && 100000%k.Num.Q == 0 && k.Num.P/k.Num.Q < 1000000000:
			k.Line, k.Col, _ = w.numeral(k.Num)
			w.number = false
		default:
			w.mark("[")
			k = w.write(k, asExpr)
			w.mark("]")
		}
		x.Kids[i] = k
	}
}

func (w *writer) binary(x *api.Expr, as int) {
	a, b := x.Kids[0], x.Kids[1]
	if slices.Contains(strings.Fields(sample.Of), x.Text) {
		x.Line, x.Col = w.mark(x.Text)
		a = w.write(a, asExpr)
		w.mark("of")
		x.Kids = []api.Expr{a, w.write(b, asPrim)}
		return
	}
	r := rank(*x)
	left, right := r, r+1
	if r <= asExpr {
		left, right = as, asTert
		if a.Op == api.EPath {
			left = asPrim
		}
	}
	a = w.write(a, left)
	number, before := w.number, len(w.l)
	w.mark(x.Text)
	b = w.write(x.Kids[1], right)
	if number && x.Text == "/" && w.l[before+1].Kind == api.TokNum {
		w.l = w.l[:before+1]
		w.mark("(")
		b = w.write(x.Kids[1], asCond)
		w.mark(")")
	}
	x.Kids = []api.Expr{a, b}
	x.Line, x.Col = a.Line, a.Col
}

func (w *writer) between(x *api.Expr) {
	a := x.Kids[0]
	if a.Op == api.EUnary && len(a.Kids) > 0 || a.Op == api.EBinary || a.Op == api.EPath {
		w.mark("(")
		a = w.write(a, asCond)
		w.mark(")")
	} else {
		a = w.write(a, asPrim)
	}
	w.mark("[")
	b := w.write(x.Kids[1], asExpr)
	w.mark(",")
	c := w.write(x.Kids[2], asExpr)
	w.mark("]")
	x.Kids = []api.Expr{a, b, c}
	x.Line, x.Col = a.Line, a.Col
}

func (w *writer) path(x *api.Expr) {
	x.Joins = slices.Clone(x.Joins)
	for i := range x.Joins {
		x.Kids[i] = w.write(x.Kids[i], asTert)
		x.Joins[i] = w.join(x.Joins[i])
	}
	if x.Cycle {
		w.mark("cycle")
	} else {
		last := len(x.Joins)
		x.Kids[last] = w.write(x.Kids[last], asTert)
	}
	x.Line, x.Col = x.Kids[0].Line, x.Kids[0].Col
}

func (w *writer) join(j api.Join) api.Join {
	if j.Op == api.JLine {
		w.mark("--")
		return j
	}
	j.Leave = w.dir(j.Leave)
	w.mark("..")
	if len(j.A) > 0 {
		w.mark([]string{api.JCurve: "tension", api.JControls: "controls"}[j.Op])
		j.A = slices.Clone(j.A)
		for i, a := range j.A {
			if i > 0 {
				w.mark("and")
			}
			j.A[i] = w.write(a, asPrim)
		}
		w.mark("..")
	}
	j.Come = w.dir(j.Come)
	return j
}

func (w *writer) dir(d api.Dir) api.Dir {
	if d.Op == api.DirNone {
		return d
	}
	w.mark("{")
	if d.Op == api.DirCurl {
		w.mark("curl")
	}
	d.E = []api.Expr{w.write(d.E[0], asExpr)}
	w.mark("}")
	return d
}
