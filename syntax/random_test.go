package syntax_test

import (
	"fmt"
	"math/rand/v2"
	"regexp"
	"slices"
	"strings"
	"testing"

	"fleuron/api"
	"fleuron/expr"
	"fleuron/lex"
	"fleuron/sample"
)

// samples are expressions of many kinds and lengths; the first ones are tags, the next ones variables with suffixes, the last ones conditions alone.
func samples() (tags, variables, others, conditions []string) {
	return []string{"a", "b", "z", "N_fill", "N_and"},
		[]string{"x1", "x[a+b].c", "x.N_of", "x" + strings.Repeat("[b]2", 9)},
		[]string{
			"1/2a", `"s"`, "-a[b,c]", "(a,b)", "(a=b)*(c,d=e)", "point 1/2 of p", "a{dir 30}..tension 1 and 2..{curl 2}b--cycle", "a<b", "a..b", "true", "2", "x scaled 2 rotated 30",
			"(" + strings.Repeat("a,b)+(", 40) + "1)", "a" + strings.Repeat("*b", 8), strings.Repeat("a+", 7) + "a", strings.Repeat("a+", 15) + "a", "a" + strings.Repeat("--b", 70) + "--cycle",
		},
		[]string{"a=b", "a=b<c=d", "a" + strings.Repeat("=b", 20)}
}

// random makes programs of which nobody has thought.
type random struct {
	*rand.Rand
	sample.Maker
	tags, variables, exprs, conds []api.Expr
	pool                          map[string]tokens // of each expression its tokens
}

func newRandom(t *testing.T) random {
	numbers := rand.New(rand.NewPCG(9, 10))
	r := random{Rand: numbers, Maker: sample.Maker{Pick: numbers.IntN, Names: "i j fill endfor"}, pool: map[string]tokens{}}
	add := func(l []string) (out []api.Expr) {
		for _, s := range l {
			k := parsed(t, s)
			x, f := expr.Cond(k)
			if f != (api.Fault{}) {
				t.Fatalf("Cond of %s: %v", s, f)
			}
			r.pool[shape(x)] = k
			out = append(out, x)
		}
		return out
	}
	tags, variables, others, conditions := samples()
	r.tags = add(tags)
	r.variables = append(add(variables), r.tags...)
	r.exprs = append(add(others), r.variables...)
	r.conds = append(add(conditions), r.exprs...)
	return r
}

var positions = regexp.MustCompile(`Line:-?\d+ Col:-?\d+`)

// shape writes all that there is in an expression, or in statements, but positions.
func shape(x any) string { return positions.ReplaceAllString(fmt.Sprintf("%+v", x), "") }

// any returns an expression of a list.
func (r random) any(l []api.Expr) api.Expr { return l[r.IntN(len(l))] }

// some returns from least to most of a list's expressions.
func (r random) some(l []api.Expr, least, most int) []api.Expr {
	return r.List(func() api.Expr { return r.any(l) }, least, most)
}

// program returns up to three statements that are nested at most so deep.
func (r random) program(depth int) []api.Stmt {
	return r.Program(depth, sample.Parts{
		Tag:      func() api.Expr { return r.any(r.tags) },
		Variable: func() api.Expr { return r.any(r.variables) },
		Expr:     func() api.Expr { return r.any(r.conds) },
	})
}

// writer writes statements as tokens, each on a line or in a column of its own. What a statement is written as depends on its kind alone, whether it is valid or not.
type writer struct {
	random
	l tokens
}

func (w *writer) put(k api.Token) {
	k.Line, k.Col = len(w.l)/7+1, len(w.l)%7+1
	w.l = append(w.l, k)
}

// mark writes words or signs.
func (w *writer) mark(words ...string) {
	for _, s := range words {
		kind := api.TokSign
		if lex.Word(s) {
			kind = api.TokWord
		}
		w.put(api.Token{Kind: kind, Text: s})
	}
}

// How an expression is written: as a variable without brackets, as an expression, or as a condition.
const (
	asVariable = iota
	asExpr
	asCond
)

// expr writes an expression, and returns it with the places where its nodes are.
func (w *writer) expr(x api.Expr, as int) api.Expr {
	l, ok := w.pool[shape(x)]
	if !ok {
		panic("no such sample")
	}
	_, f := expr.Parse(l)
	brackets := as == asExpr && f.Code != api.OK || as != asVariable && w.IntN(8) == 0
	if brackets {
		w.mark("(")
	}
	start := len(w.l)
	for _, k := range l {
		w.put(k)
	}
	y, _ := expr.Cond(w.l[start:])
	if brackets {
		w.mark(")")
	}
	return y
}

// list writes expressions with a word or a sign between them.
func (w *writer) list(l []api.Expr, between string, as int) []api.Expr {
	var out []api.Expr
	for i, x := range l {
		if i > 0 {
			w.mark(between)
		}
		out = append(out, w.expr(x, as))
	}
	return out
}

// program writes statements, and returns them with their places; empty ones are among them.
func (w *writer) program(l []api.Stmt) []api.Stmt {
	var out []api.Stmt
	for _, s := range l {
		for w.IntN(4) == 0 {
			w.mark(";")
		}
		first := len(w.l)
		s = w.statement(s)
		s.Line, s.Col = w.l[first].Line, w.l[first].Col
		out = append(out, s)
		w.mark(";")
	}
	if w.IntN(4) == 0 {
		w.mark(";")
	}
	return out
}

// bodies writes the statements that stand within a statement.
func (w *writer) bodies(l [][]api.Stmt) [][]api.Stmt {
	var out [][]api.Stmt
	for _, b := range l {
		out = append(out, w.program(b))
	}
	return out
}

// statement writes a statement, and returns it with the places of what it is made of.
func (w *writer) statement(s api.Stmt) api.Stmt {
	simple := func(word, between string, as int) {
		w.mark(word)
		s.Exprs = w.list(s.Exprs, between, as)
	}
	switch s.Op {
	case api.SEquals:
		s.Exprs = w.list(s.Exprs, "=", asExpr)
	case api.SAssign:
		x := w.expr(s.Exprs[0], asVariable)
		w.mark(":=")
		s.Exprs = append([]api.Expr{x}, w.list(s.Exprs[1:], ":=", asExpr)...)
	case api.SDeclare:
		simple(s.Text, ",", asVariable)
	case api.SSave:
		simple("save", ",", asVariable)
	case api.SExit:
		simple("exitif", ",", asCond)
	case api.SPickup:
		simple("pickup", ",", asExpr)
	case api.SMessage:
		simple("message", ",", asExpr)
	case api.SShow:
		simple("show", ",", asExpr)
	case api.SFill, api.SDraw, api.SClip:
		simple(s.Text, "also", asExpr)
		s.Ink = slices.Clone(s.Ink)
		for i, x := range s.Ink {
			w.mark("withink")
			s.Ink[i] = w.expr(x, asExpr)
		}
	case api.SUnclip:
		w.mark("unclip")
	case api.SLig:
		simple("ligtable", ",", asExpr)
		s.Rules = w.rules(s.Rules)
	default:
		return w.nest(s)
	}
	return s
}

// rules writes the rules of ligtable.
func (w *writer) rules(l []api.Rule) []api.Rule {
	var out []api.Rule
	for i, r := range l {
		w.mark([]string{":", ","}[min(i, 1)])
		r.Next = w.expr(r.Next, asExpr)
		w.mark(r.Text)
		r.Value = w.expr(r.Value, asExpr)
		out = append(out, r)
	}
	return out
}

// nest writes a statement in which others stand.
func (w *writer) nest(s api.Stmt) api.Stmt {
	switch s.Op {
	case api.SIf:
		return w.choice(s)
	case api.SFor, api.SEach:
		w.mark("for")
		w.put(api.Token{Kind: api.TokName, Text: s.Text})
		w.mark("=")
		if s.Op == api.SEach {
			s.Exprs = w.list(s.Exprs, ",", asExpr)
		} else {
			x := w.expr(s.Exprs[0], asExpr)
			w.mark("step")
			y := w.expr(s.Exprs[1], asExpr)
			w.mark("until")
			s.Exprs = append([]api.Expr{x, y}, w.list(s.Exprs[2:], ",", asExpr)...)
		}
		w.mark(":")
		s.Bodies = w.bodies(s.Bodies)
		w.mark("endfor")
	case api.SForever:
		w.mark("forever", ":")
		s.Bodies = w.bodies(s.Bodies)
		w.mark("endfor")
	case api.SGroup:
		w.mark("begingroup")
		s.Bodies = w.bodies(s.Bodies)
		w.mark("endgroup")
	case api.SChar:
		w.mark("beginchar", "(")
		s.Exprs = w.list(s.Exprs, ",", asExpr)
		w.mark(")")
		s.Bodies = w.bodies(s.Bodies)
		w.mark("endchar")
	default:
		panic("no such kind")
	}
	return s
}

func (w *writer) choice(s api.Stmt) api.Stmt {
	s.Exprs, s.Bodies = slices.Clone(s.Exprs), slices.Clone(s.Bodies)
	for i, x := range s.Exprs {
		w.mark([]string{"if", "elseif"}[min(i, 1)])
		s.Exprs[i] = w.expr(x, asCond)
		w.mark(":")
		s.Bodies[i] = w.program(s.Bodies[i])
	}
	for i := len(s.Exprs); i < len(s.Bodies); i++ {
		w.mark("else", ":")
		s.Bodies[i] = w.program(s.Bodies[i])
	}
	w.mark("fi")
	return s
}
