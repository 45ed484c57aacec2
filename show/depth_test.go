package show_test

import (
	"slices"
	"strings"
	"testing"

	"fleuron/api"
	"fleuron/expr"
	"fleuron/grammar"
	"fleuron/sample"
	"fleuron/syntax"
	"fleuron/tree"
)

// As what an expression is written. A factor stands behind a number, a base ahead of the [ of a mediation.
const (
	asCond = iota
	asExpr
	asTert
	asSec
	asPrim
	asFactor
	asBase
	asFactorAndBase
	tooDeep = 1 << 40
)

// depths are how deep brackets and operations are within each other at least, as each of these.
type depths [asFactorAndBase + 1]int

// least returns the depths of an expression, whatever tokens are it: the rules of DOC.md, all of them tried.
func least(x api.Expr) depths { return leastOf(x, false) }

// allowed returns the depths that a string may have: a product of a number and a prim without a sign between them may stand in brackets.
func allowed(x api.Expr) depths { return leastOf(x, true) }

func leastOf(x api.Expr, brackets bool) depths {
	var kids []depths
	for _, k := range x.Kids {
		kids = append(kids, leastOf(k, brackets))
	}
	path := leastOfPath(x, kids, brackets)
	var d depths
	for as := range d {
		d[as] = min(leastOfBinary(x, kids, as), leastOfPrim(x, kids, as))
		if brackets && x.Op == api.EBinary && x.Text == "*" && x.Kids[0].Op == api.ENum {
			d[as] = 1 + kids[1][asFactor]
			continue
		}
		if x.Op == api.EPath && as <= asExpr {
			d[as] = path
		}
		if as > asCond {
			d[as] = min(d[as], 1+d[asCond])
		}
	}
	return d
}

// leastOfBinary is least for an operation between two operands.
func leastOfBinary(x api.Expr, kids []depths, as int) int {
	is := func(operations string) bool {
		return x.Op == api.EBinary && slices.Contains(strings.Fields(operations), x.Text)
	}
	switch {
	case is(sample.Comparisons) && as <= asExpr || is("=") && as == asCond:
		left := kids[0][as]
		if x.Kids[0].Op == api.EPath {
			left = kids[0][asTert]
		}
		return max(left, kids[1][asTert])
	case is(sample.Sums) && as <= asTert:
		return max(kids[0][asTert], kids[1][asSec])
	case is(sample.Products) && as <= asSec:
		return max(kids[0][asSec], kids[1][asPrim])
	}
	return tooDeep
}

// leastOfPrim is least for what has no brackets around it and is a prim.
func leastOfPrim(x api.Expr, kids []depths, as int) int {
	factor, base := as == asFactor || as == asFactorAndBase, as >= asBase
	switch x.Op {
	case api.EText:
		return 0
	case api.ENum:
		if !factor {
			return 0
		}
	case api.EVar:
		deepest := 0
		for i, k := range x.Kids {
			if k.Op != api.EDot && (k.Op != api.ENum || k.Num.P/k.Num.Q > 999999999 || 100000%k.Num.Q != 0) {
				deepest = max(deepest, 1+kids[i][asExpr])
			}
		}
		return deepest
	case api.EPair:
		return 1 + max(kids[0][asCond], kids[1][asCond])
	case api.EUnary:
		if len(x.Kids) == 0 {
			return 0
		}
		if !base && !(factor && (x.Text == "+" || x.Text == "-")) {
			return 1 + kids[0][asPrim]
		}
	case api.EBetween:
		first := asBase
		if factor {
			first = asFactorAndBase
		}
		return max(kids[0][first], 1+kids[1][asExpr], 1+kids[2][asExpr])
	case api.EBinary:
		switch {
		case base:
		case slices.Contains(strings.Fields(sample.Of), x.Text):
			return 1 + max(kids[0][asExpr], kids[1][asPrim])
		case x.Text == "*" && x.Kids[0].Op == api.ENum && !factor:
			return kids[1][asFactor]
		}
	}
	return tooDeep
}

// leastOfPath is least for a path that has no brackets around it.
func leastOfPath(x api.Expr, kids []depths, brackets bool) int {
	deepest := 0
	for _, k := range kids {
		deepest = max(deepest, k[asTert])
	}
	for _, j := range x.Joins {
		for _, k := range j.A {
			deepest = max(deepest, leastOf(k, brackets)[asPrim])
		}
		for _, k := range append(slices.Clip(j.Leave.E), j.Come.E...) {
			deepest = max(deepest, 1+leastOf(k, brackets)[asExpr])
		}
	}
	return deepest
}

// deep returns how deep brackets and operations are within each other in tokens: they can be within as many brackets more as are missing to 40. (More than 40 are 41.)
func deep(d side, l []api.Token) int {
	ahead, _ := grammar.Tokens(strings.Repeat(d.inner[0]+" ", api.MaxNest))
	behind, _ := grammar.Tokens(strings.Repeat(d.inner[1]+" ", api.MaxNest))
	one := len(ahead) / api.MaxNest
	for deepest := range api.MaxNest + 1 {
		more := api.MaxNest - deepest
		if _, f := d.read(slices.Concat(ahead[:more*one], l, behind[:more])); f.Code != api.ErrDeep {
			return deepest
		}
	}
	return api.MaxNest + 1
}

// as returns as what a side has expressions written.
func (d side) as() int {
	if d.name == "Cond" {
		return asCond
	}
	return asExpr
}

// P7.1: strings of expressions of which nobody has thought are no deeper than they have to be.
func TestLeast(t *testing.T) {
	t.Parallel()
	m := newMaker()
	for range 6000 {
		x := short(m, 1+m.Pick(5))
		for _, d := range sides() {
			s := checked(t, d, x)
			l, _ := grammar.Tokens(s)
			if got, want := deep(d, l), allowed(x)[d.as()]; got > want || got < least(x)[d.as()] {
				t.Fatalf("%s of %.1000s is %s, which is %d deep; it could be %d", d.name, shape(x), s, got, want)
			}
		}
	}
}

// someTokens are one of each kind of tokens that an expression tells apart.
const someTokens = `a 2 true sqrt - point of ( ) [ ] , / * = .. -- { } tension and`

// P7.1, P7.3, P7.4: whatever a few tokens are, the string of it is read as that, and nests no deeper than they do.
func TestShortRows(t *testing.T) {
	const longest = 5
	some, _ := grammar.Tokens(someTokens)
	var all func(t *testing.T, d side, l []api.Token)
	all = func(t *testing.T, d side, l []api.Token) {
		x, f := d.read(l)
		switch f.Code {
		case api.OK:
			reads(t, d, x)
			s := checked(t, d, x)
			k, _ := grammar.Tokens(s)
			if deep(d, k) > allowed(x)[d.as()] || deep(d, l) < least(x)[d.as()] {
				t.Fatalf("%s of %s is %s, which is deeper", d.name, grammar.Written(l), s)
			}
		case api.ErrEnd:
		default:
			return
		}
		if len(l) < longest {
			for _, k := range some {
				all(t, d, append(slices.Clip(l), k))
			}
		}
	}
	for _, d := range sides() {
		for _, k := range some {
			t.Run(d.name+" "+grammar.Written([]api.Token{k}), func(t *testing.T) {
				t.Parallel()
				all(t, d, []api.Token{k})
			})
		}
	}
}

// within are expressions in which another one, a, stands.
const within = "- ~|2 * ~|2 * - ~|~ + b|b - ~|~ * b|b * ~|~ < b|b < ~|~ = b|b = ~|(~, b)|(b, ~)|~[b, c]|b[~, c]|b[c, ~]|x[~]|x[~][b, c]|point ~ of b|point b of ~|(point b of ~)[c, d]|~..b|b..~|b--~..c|" +
	"b{~}..c|b..{curl ~}c|b..{~}cycle|b..tension ~..c|b..tension 1 and ~..c|b..controls ~..c|sqrt ~|(sqrt ~)[b, c]|(2 * ~)[b, c]|(~..b) & c"

// around returns an expression that has another one where the sign ~ is.
func around(t *testing.T, s string, inner api.Expr) api.Expr {
	t.Helper()
	x := condition(t, strings.Replace(s, "~", "(Inner)", 1))
	tree.Visit(&x, func(k *api.Expr) bool {
		if k.Text != "Inner" {
			return true
		}
		*k = inner
		return false
	})
	return x
}

// P7.3: what is within each other, in all ways that there are, is read again if it is 15 deep.
func TestFifteen(t *testing.T) {
	t.Parallel()
	m := newMaker()
	all := strings.Split(within, "|")
	for i := range 1500 {
		x := condition(t, "a")
		for depth := 1; depth < 15; depth++ {
			outer := m.Pick(len(all))
			if i < len(all)*len(all) {
				outer = []int{i % len(all), i / len(all)}[depth%2]
			}
			x = around(t, all[outer], x)
		}
		for _, d := range sides() {
			reads(t, d, x)
		}
		deepest := allowed(x)[asExpr]
		for outside := range 4 {
			l := []api.Stmt{{Op: api.SShow, Exprs: []api.Expr{x}}}
			for range outside {
				l = []api.Stmt{{Op: api.SGroup, Bodies: [][]api.Stmt{l}}}
			}
			if deepest <= api.MaxNest {
				readsProgram(t, l)
			}
		}
	}
}

// P7.3: up to 40 deep expressions are read again; what is deeper has its string, too.
func TestForty(t *testing.T) {
	t.Parallel()
	for _, s := range strings.Split(within, "|") {
		x := condition(t, "a")
		for depth := 1; depth <= 60; depth++ {
			x = around(t, s, x)
			for _, d := range sides() {
				s := checked(t, d, x)
				l, _ := grammar.Tokens(s)
				y, f := d.read(l)
				tooDeep := f.Code == api.ErrDeep && allowed(x)[d.as()] > api.MaxNest
				if f.Code == api.OK && !expr.Same(x, y) || f.Code != api.OK && !tooDeep {
					t.Errorf("%s of %s: %v", d.name, s, f)
				}
			}
		}
	}
}

// P7.2, P7.3: 40 statements within each other are read again; one more has its string, too.
func TestStatementsWithin(t *testing.T) {
	for _, word := range []string{"if a:|fi", "if a:elseif b:|fi", "if a:else:|fi", "for i=1 step 2 until 3:|endfor", "for i=1,2:|endfor", "forever:|endfor", "begingroup|endgroup", "beginchar(1,2,3,4)|endchar"} {
		l := program(t, "show a;")
		for depth := 1; depth <= api.MaxNest+1; depth++ {
			outer := program(t, strings.Replace(word, "|", " ", 1)+";")
			outer[0].Bodies[len(outer[0].Bodies)-1] = l
			l = outer
			if depth <= api.MaxNest {
				readsProgram(t, l)
				continue
			}
			s := checkedProgram(t, l)
			if _, f := syntax.Read(s); f.Code != api.ErrDeep {
				t.Errorf("Read of %s: %v", s, f)
			}
		}
	}
}
