package syntax_test

import (
	"fmt"
	"math/rand/v2"
	"regexp"
	"slices"
	"strings"
	"testing"

	"fleuron/api"
	"fleuron/expr"
	"fleuron/lex"
)

// samples are expressions of many kinds and lengths; the first ones are tags, the next ones variables with suffixes, the last ones conditions alone.
func samples() (tags, variables, others, conditions []string) {
	return []string{"a", "b", "z", "N_fill", "N_and"},
		[]string{"x1", "x[a+b].c", "x.N_of", "x" + strings.Repeat("[b]2", 9)},
		[]string{
			"1/2a", `"s"`, "-a[b,c]", "(a,b)", "(a=b)*(c,d=e)", "point 1/2 of p", "a{dir 30}..tension 1 and 2..{curl 2}b--cycle", "a<b", "a..b", "true", "2", "x scaled 2 rotated 30",
			"(" + strings.Repeat("a,b)+(", 40) + "1)", "a" + strings.Repeat("*b", 8), strings.Repeat("a+", 7) + "a", strings.Repeat("a+", 15) + "a", "a" + strings.Repeat("--b", 70) + "--cycle",
		},
		[]string{"a=b", "a=b<c=d", "a" + strings.Repeat("=b", 20)}
}

// random makes programs of which nobody has thought.
type random struct {
	*rand.Rand
	tags, variables, exprs, conds []api.Expr
	pool                          map[string]tokens // of each expression its tokens
}

func newRandom(t *testing.T) random {
	r := random{Rand: rand.New(rand.NewPCG(9, 10)), pool: map[string]tokens{}}
	add := func(l []string) (out []api.Expr) {
		for _, s := range l {
			k := parsed(t, s)
			x, f := expr.Cond(k)
			if f != (api.Fault{}) {
				t.Fatalf("Cond of %s: %v", s, f)
			}
			r.pool[shape(x)] = k
			out = append(out, x)
		}
		return out
	}
	tags, variables, others, conditions := samples()
	r.tags = add(tags)
	r.variables = append(add(variables), r.tags...)
	r.exprs = append(add(others), r.variables...)
	r.conds = append(add(conditions), r.exprs...)
	return r
}

var positions = regexp.MustCompile(`Line:-?\d+ Col:-?\d+`)

// shape writes all that there is in an expression, or in statements, but positions.
func shape(x any) string { return positions.ReplaceAllString(fmt.Sprintf("%+v", x), "") }

// some returns from least to most expressions.
func (r random) some(l []api.Expr, least, most int) []api.Expr {
	var out []api.Expr
	for range least + r.IntN(most-least+1) {
		out = append(out, l[r.IntN(len(l))])
	}
	return out
}

// one returns one of the words of a string.
func (r random) one(words string) string {
	l := strings.Fields(words)
	return l[r.IntN(len(l))]
}

// program returns up to three statements that are nested at most so deep.
func (r random) program(depth int) []api.Stmt {
	var l []api.Stmt
	for range r.IntN(4) {
		l = append(l, r.statement(depth))
	}
	return l
}

// statement returns a valid statement.
func (r random) statement(depth int) api.Stmt {
	s := api.Stmt{Op: api.StmtOp(r.IntN(int(api.SShow) + 1))}
	bodies := 0
	switch s.Op {
	case api.SEquals:
		s.Exprs = r.some(r.conds, 2, 4)
	case api.SAssign:
		s.Exprs = append(r.some(r.variables, 1, 1), r.some(r.conds, 1, 1)...)
	case api.SDeclare:
		s.Text, s.Exprs = r.one("numeric pair boolean string transform path pen"), r.some(r.tags, 1, 4)
	case api.SSave:
		s.Exprs = r.some(r.tags, 1, 4)
	case api.SIf:
		s.Exprs = r.some(r.conds, 1, 3)
		bodies = len(s.Exprs) + r.IntN(2)
	case api.SFor:
		s.Text, s.Exprs, bodies = r.one("i j fill endfor"), r.some(r.conds, 3, 3), 1
	case api.SEach:
		s.Text, s.Exprs, bodies = r.one("i j fill endfor"), r.some(r.conds, 1, 4), 1
	case api.SForever, api.SGroup:
		bodies = 1
	case api.SChar:
		s.Exprs, bodies = r.some(r.conds, 4, 4), 1
	case api.SFill:
		s.Text, s.Exprs, s.Ink = r.one("fill evenfill"), r.some(r.conds, 1, 3), r.some(r.conds, 0, 1)
	case api.SDraw:
		s.Text, s.Exprs, s.Ink = "draw", r.some(r.conds, 1, 3), r.some(r.conds, 0, 1)
	case api.SClip:
		s.Text, s.Exprs = r.one("clip evenclip"), r.some(r.conds, 1, 3)
	case api.SExit, api.SPickup, api.SMessage:
		s.Exprs = r.some(r.conds, 1, 1)
	case api.SLig:
		s.Exprs = r.some(r.conds, 1, 1)
		for range 1 + r.IntN(3) {
			k := r.some(r.conds, 2, 2)
			s.Rules = append(s.Rules, api.Rule{Text: r.one("kern =: |=: =:| |=:|"), Next: k[0], Value: k[1]})
		}
	case api.SShow:
		s.Exprs = r.some(r.conds, 1, 4)
	}
	if bodies > 0 && depth <= 1 {
		return r.statement(depth)
	}
	for range bodies {
		s.Bodies = append(s.Bodies, r.program(depth-1))
	}
	return s
}

// writer writes statements as tokens, each on a line or in a column of its own. What a statement is written as depends on its kind alone, whether it is valid or not.
type writer struct {
	random
	l tokens
}

func (w *writer) put(k api.Token) {
	k.Line, k.Col = len(w.l)/7+1, len(w.l)%7+1
	w.l = append(w.l, k)
}

// mark writes words or signs.
func (w *writer) mark(words ...string) {
	for _, s := range words {
		kind := api.TokSign
		if lex.Word(s) {
			kind = api.TokWord
		}
		w.put(api.Token{Kind: kind, Text: s})
	}
}

// How an expression is written: as a variable without brackets, as an expression, or as a condition.
const (
	asVariable = iota
	asExpr
	asCond
)

// expr writes an expression, and returns it with the places where its nodes are.
func (w *writer) expr(x api.Expr, as int) api.Expr {
	l, ok := w.pool[shape(x)]
	if !ok {
		panic("no such sample")
	}
	_, f := expr.Parse(l)
	brackets := as == asExpr && f.Code != api.OK || as != asVariable && w.IntN(8) == 0
	if brackets {
		w.mark("(")
	}
	start := len(w.l)
	for _, k := range l {
		w.put(k)
	}
	y, _ := expr.Cond(w.l[start:])
	if brackets {
		w.mark(")")
	}
	return y
}

// list writes expressions with a word or a sign between them.
func (w *writer) list(l []api.Expr, between string, as int) []api.Expr {
	var out []api.Expr
	for i, x := range l {
		if i > 0 {
			w.mark(between)
		}
		out = append(out, w.expr(x, as))
	}
	return out
}

// program writes statements, and returns them with their places; empty ones are among them.
func (w *writer) program(l []api.Stmt) []api.Stmt {
	var out []api.Stmt
	for _, s := range l {
		for w.IntN(4) == 0 {
			w.mark(";")
		}
		first := len(w.l)
		s = w.statement(s)
		s.Line, s.Col = w.l[first].Line, w.l[first].Col
		out = append(out, s)
		w.mark(";")
	}
	if w.IntN(4) == 0 {
		w.mark(";")
	}
	return out
}

// bodies writes the statements that stand within a statement.
func (w *writer) bodies(l [][]api.Stmt) [][]api.Stmt {
	var out [][]api.Stmt
	for _, b := range l {
		out = append(out, w.program(b))
	}
	return out
}

// statement writes a statement, and returns it with the places of what it is made of.
func (w *writer) statement(s api.Stmt) api.Stmt {
	simple := func(word, between string, as int) {
		w.mark(word)
		s.Exprs = w.list(s.Exprs, between, as)
	}
	switch s.Op {
	case api.SEquals:
		s.Exprs = w.list(s.Exprs, "=", asExpr)
	case api.SAssign:
		x := w.expr(s.Exprs[0], asVariable)
		w.mark(":=")
		s.Exprs = append([]api.Expr{x}, w.list(s.Exprs[1:], ":=", asExpr)...)
	case api.SDeclare:
		simple(s.Text, ",", asVariable)
	case api.SSave:
		simple("save", ",", asVariable)
	case api.SExit:
		simple("exitif", ",", asCond)
	case api.SPickup:
		simple("pickup", ",", asExpr)
	case api.SMessage:
		simple("message", ",", asExpr)
	case api.SShow:
		simple("show", ",", asExpr)
	case api.SFill, api.SDraw, api.SClip:
		simple(s.Text, "also", asExpr)
		s.Ink = slices.Clone(s.Ink)
		for i, x := range s.Ink {
			w.mark("withink")
			s.Ink[i] = w.expr(x, asExpr)
		}
	case api.SUnclip:
		w.mark("unclip")
	case api.SLig:
		simple("ligtable", ",", asExpr)
		s.Rules = w.rules(s.Rules)
	default:
		return w.nest(s)
	}
	return s
}

// rules writes the rules of ligtable.
func (w *writer) rules(l []api.Rule) []api.Rule {
	var out []api.Rule
	for i, r := range l {
		w.mark([]string{":", ","}[min(i, 1)])
		r.Next = w.expr(r.Next, asExpr)
		w.mark(r.Text)
		r.Value = w.expr(r.Value, asExpr)
		out = append(out, r)
	}
	return out
}

// nest writes a statement in which others stand.
func (w *writer) nest(s api.Stmt) api.Stmt {
	switch s.Op {
	case api.SIf:
		return w.choice(s)
	case api.SFor, api.SEach:
		w.mark("for")
		w.put(api.Token{Kind: api.TokName, Text: s.Text})
		w.mark("=")
		if s.Op == api.SEach {
			s.Exprs = w.list(s.Exprs, ",", asExpr)
		} else {
			x := w.expr(s.Exprs[0], asExpr)
			w.mark("step")
			y := w.expr(s.Exprs[1], asExpr)
			w.mark("until")
			s.Exprs = append([]api.Expr{x, y}, w.list(s.Exprs[2:], ",", asExpr)...)
		}
		w.mark(":")
		s.Bodies = w.bodies(s.Bodies)
		w.mark("endfor")
	case api.SForever:
		w.mark("forever", ":")
		s.Bodies = w.bodies(s.Bodies)
		w.mark("endfor")
	case api.SGroup:
		w.mark("begingroup")
		s.Bodies = w.bodies(s.Bodies)
		w.mark("endgroup")
	case api.SChar:
		w.mark("beginchar", "(")
		s.Exprs = w.list(s.Exprs, ",", asExpr)
		w.mark(")")
		s.Bodies = w.bodies(s.Bodies)
		w.mark("endchar")
	default:
		panic("no such kind")
	}
	return s
}

func (w *writer) choice(s api.Stmt) api.Stmt {
	s.Exprs, s.Bodies = slices.Clone(s.Exprs), slices.Clone(s.Bodies)
	for i, x := range s.Exprs {
		w.mark([]string{"if", "elseif"}[min(i, 1)])
		s.Exprs[i] = w.expr(x, asCond)
		w.mark(":")
		s.Bodies[i] = w.program(s.Bodies[i])
	}
	for i := len(s.Exprs); i < len(s.Bodies); i++ {
		w.mark("else", ":")
		s.Bodies[i] = w.program(s.Bodies[i])
	}
	w.mark("fi")
	return s
}
