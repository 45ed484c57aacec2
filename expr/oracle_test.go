package expr_test

import (
	"fmt"
	"math/bits"
	"slices"
	"strings"
	"testing"

	"fleuron/api"
	"fleuron/expr"
	"fleuron/lex"
)

type tokens = []api.Token

// parsed returns the tokens of a string: names that are spelled as words are TokWords, and N_fill is the TokName fill.
func parsed(t *testing.T, s string) tokens {
	t.Helper()
	l, f := lex.Tokens(s)
	if f != (api.Fault{}) {
		t.Fatalf("Tokens of %.200q: %v", s, f)
	}
	for i := range l {
		if l[i].Kind != api.TokName {
			continue
		}
		if lex.Word(l[i].Text) {
			l[i].Kind = api.TokWord
		}
		l[i].Text = strings.TrimPrefix(l[i].Text, "N_")
	}
	return l
}

// written returns tokens as a string.
func written(l tokens) string {
	var out []string
	for _, t := range l {
		s, e := lex.Text(tokens{t})
		if e != api.OK {
			s = fmt.Sprintf("%#v", t)
		}
		out = append(out, s)
	}
	return strings.Join(out, " ")
}

// fault returns a fault with these fields.
func fault(code api.Errno, name string, line, col int) api.Fault {
	return api.Fault{Code: code, Name: name, Line: line, Col: col}
}

// dump writes an expression: nodes with Kids in brackets, suffixes of variables in <>.
// With places it writes the column of each node behind @, and its line, if that is not 1.
func dump(x api.Expr, places bool) string {
	at := ""
	if places {
		at = fmt.Sprint("@", x.Col)
		if x.Line != 1 {
			at = fmt.Sprint("@", x.Line, ":", x.Col)
		}
	}
	all := func(l []api.Expr) string {
		var out []string
		for _, k := range l {
			out = append(out, dump(k, places))
		}
		return strings.Join(out, " ")
	}
	switch x.Op {
	case api.ENum:
		if x.Num.Q == 1 {
			return fmt.Sprint(x.Num.P, at)
		}
		return fmt.Sprint(x.Num.P, "/", x.Num.Q, at)
	case api.EText:
		return `"` + x.Text + `"` + at
	case api.EVar:
		if len(x.Kids) == 0 {
			return x.Text + at
		}
		return x.Text + at + "<" + all(x.Kids) + ">"
	case api.EDot:
		return "." + x.Text + at
	case api.EPair:
		return "(pair" + at + " " + all(x.Kids) + ")"
	case api.EUnary:
		if len(x.Kids) == 0 {
			return x.Text + at
		}
		return "(" + x.Text + at + " " + all(x.Kids) + ")"
	case api.EBinary:
		return "(" + x.Text + at + " " + all(x.Kids) + ")"
	case api.EBetween:
		return "(between" + at + " " + all(x.Kids) + ")"
	case api.EPath:
		return "(path" + at + dumpPath(x, all) + ")"
	}
	return fmt.Sprintf("%#v", x)
}

// dumpPath writes the knots and the joins of a path.
func dumpPath(x api.Expr, all func(l []api.Expr) string) string {
	dir := func(d api.Dir) string {
		switch d.Op {
		case api.DirTo:
			return "{" + all(d.E) + "}"
		case api.DirCurl:
			return "{curl " + all(d.E) + "}"
		}
		return ""
	}
	out := ""
	for i := range max(len(x.Kids), len(x.Joins)) {
		if i < len(x.Kids) {
			out += " " + all(x.Kids[i:i+1])
		}
		if i >= len(x.Joins) {
			continue
		}
		j := x.Joins[i]
		switch {
		case j.Op == api.JLine:
			out += " --"
		case j.Op == api.JControls:
			out += " " + dir(j.Leave) + "..controls " + all(j.A) + ".." + dir(j.Come)
		case len(j.A) > 0:
			out += " " + dir(j.Leave) + "..tension " + all(j.A) + ".." + dir(j.Come)
		default:
			out += " " + dir(j.Leave) + ".." + dir(j.Come)
		}
	}
	if x.Cycle {
		out += " cycle"
	}
	return out
}

// The grammar is that of DOC.md, but for three things. A prim that begins with a prim is one with any number of mediations behind it.
// A factor is a prim that may stand behind a number without a sign. A cond is an expr in which = is one more of the signs.
const documentedGrammar = `
	expr     = tert { ( "<" | "<=" | ">" | ">=" | "<>" | "&" ) tert } | pathexpr ;
	cond     = tert { ( "<" | "<=" | ">" | ">=" | "<>" | "&" | "=" ) tert } | pathexpr ;
	pathexpr = tert join tert { join tert } [ join "cycle" ] | tert join "cycle" ;
	join     = [ dir ] ".." [ "tension" prim [ "and" prim ] ".." | "controls" prim [ "and" prim ] ".." ] [ dir ] | "--" ;
	dir      = "{" ( "curl" expr | expr ) "}" ;
	tert     = sec { ( "+" | "-" | "++" | "+-+" | "or" ) sec } ;
	sec      = prim { ( "*" | "/" | "**" | "and" | "mod" | "dotprod" | "scaled" | "xscaled" | "yscaled" | "shifted" | "rotated" | "slanted" | "transformed" ) prim } ;
	prim     = ( number [ "/" number ] [ factor ] | ( "+" | "-" ) prim | factor ) { "[" expr "," expr "]" } ;
	factor   = string | "true" | "false" | "identity" | "pencircle" | "pensquare"
	         | variable
	         | "(" cond ")" | "(" cond "," cond ")"
	         | unary prim
	         | ( "point" | "direction" | "subpath" | "precontrol" | "postcontrol" ) expr "of" prim ;
	unary    = "not" | "known" | "unknown" | "odd" | "floor" | "abs" | "sqrt" | "sind" | "cosd" | "angle" | "dir" | "length" | "xpart" | "ypart" | "xxpart" | "xypart" | "yxpart" | "yypart" | "inverse" | "decimal" | "char" | "code" | "reverse" ;
	variable = name { number | "[" expr "]" | "." name } ;
	Parse    = expr end ;
	Cond     = cond end ;`

// A set has a bit for each of up to 63 tokens, or places between them.
type set = uint64

// matcher looks for all ways in which tokens are what a rule says.
type matcher struct {
	l        tokens
	examined set // the places at which a token was looked at, behind tokens that can stand there
	known    map[place]set
	rules    map[string]rule
}

// place is where a rule is looked at.
type place struct {
	name string
	from int
}

// A rule, or a part of one, says where what it stands for can end, if it begins at a place.
type rule func(m *matcher, from int) set

// token returns the rule of a token.
func token(fits func(t api.Token) bool) rule {
	return func(m *matcher, from int) set {
		m.examined |= 1 << from
		if from < len(m.l) && fits(m.l[from]) {
			return 1 << (from + 1)
		}
		return 0
	}
}

// then returns the rule of the one and the other behind it.
func then(a, b rule) rule {
	return func(m *matcher, from int) set {
		var out set
		for ends := a(m, from); ends != 0; ends &= ends - 1 {
			out |= b(m, bits.TrailingZeros64(ends))
		}
		return out
	}
}

// either returns the rule of the one or the other.
func either(a, b rule) rule {
	return func(m *matcher, from int) set { return a(m, from) | b(m, from) }
}

func nothing(m *matcher, from int) set { return 1 << from }

// repeated returns the rule of any number of these.
func repeated(a rule) rule {
	return func(m *matcher, from int) set {
		var out set
		for waiting := set(1) << from; waiting != 0; {
			at := bits.TrailingZeros64(waiting)
			out |= 1 << at
			waiting = (waiting | a(m, at)) &^ out
		}
		return out
	}
}

// ruleOf returns the rule of this name.
func ruleOf(name string) rule {
	kinds := map[string]api.TokKind{"name": api.TokName, "number": api.TokNum, "string": api.TokText}
	if kind, ok := kinds[name]; ok {
		return token(func(t api.Token) bool { return t.Kind == kind })
	}
	return func(m *matcher, from int) set {
		if name == "end" {
			m.examined |= 1 << from
			if from == len(m.l) {
				return 1 << from
			}
			return 0
		}
		key := place{name, from}
		if _, ok := m.known[key]; !ok {
			m.known[key] = m.rules[name](m, from)
		}
		return m.known[key]
	}
}

// alternatives reads rules with | between them, up to the word that ends them.
func alternatives(words []string) (rule, []string) {
	a, words := sequence(words)
	for words[0] == "|" {
		var b rule
		b, words = sequence(words[1:])
		a = either(a, b)
	}
	return a, words
}

// sequence reads rules one behind the other.
func sequence(words []string) (rule, []string) {
	all := rule(nothing)
	for !slices.Contains([]string{"|", ";", ")", "]", "}"}, words[0]) {
		var a rule
		switch word := words[0]; word {
		case "(", "[", "{":
			a, words = alternatives(words[1:])
			if word == "[" {
				a = either(a, nothing)
			}
			if word == "{" {
				a = repeated(a)
			}
		default:
			a = ruleOf(word)
			if text := strings.Trim(word, `"`); text != word {
				a = token(func(t api.Token) bool { return (t.Kind == api.TokWord || t.Kind == api.TokSign) && t.Text == text })
			}
		}
		all, words = then(all, a), words[1:]
	}
	return all, words
}

// documentedRules are the rules of the grammar.
var documentedRules = func() map[string]rule {
	rules := map[string]rule{}
	for words := strings.Fields(documentedGrammar); len(words) > 0; words = words[1:] {
		name := words[0]
		rules[name], words = alternatives(words[2:])
	}
	return rules
}()

// match returns where the rule of this name can end, and the first place at which no token can stand that stands there.
func match(name string, l tokens) (ends set, stopped int) {
	m := &matcher{l: l, known: map[place]set{}, rules: documentedRules}
	ends = documentedRules[name](m, 0)
	return ends, bits.Len64(m.examined) - 1
}

// faultOf returns the fault at the place of a token, or behind the last one.
func faultOf(l tokens, at int) api.Fault {
	switch {
	case len(l) == 0:
		return fault(api.ErrEnd, "", 1, 1)
	case at == len(l):
		return fault(api.ErrEnd, "", l[at-1].Line, l[at-1].Col)
	case l[at].Kind == api.TokNum:
		return fault(api.ErrSyntax, written(l[at:at+1]), l[at].Line, l[at].Col)
	}
	return fault(api.ErrSyntax, l[at].Text, l[at].Line, l[at].Col)
}

// compare compares the faults of Parse, Cond and Next with what the grammar says of tokens, among which no number is 0, and which are not nested too deep.
// It reports whether there can be tokens behind them with which they are an expression or a condition.
func compare(t *testing.T, l tokens) (viable bool) {
	t.Helper()
	before := slices.Clone(l)
	for _, cond := range []bool{false, true} {
		name, inner, parse := "Parse", "expr", expr.Parse
		if cond {
			name, inner, parse = "Cond", "cond", expr.Cond
		}
		ends, stopped := match(name, l)
		want := api.Fault{}
		if ends>>len(l) == 0 {
			want = faultOf(l, stopped)
		}
		x, f := parse(l)
		if f != want || f.Code != api.OK && !expr.Same(x, api.Expr{}) {
			t.Fatalf("%s of %s: %s, %v; want %v", name, written(l), dump(x, false), f, want)
		}
		viable = viable || stopped == len(l)
		count, want := 0, faultOf(l, stopped)
		if ends, _ := match(inner, l); ends>>stopped&1 != 0 {
			count, want = stopped, api.Fault{}
		}
		y, n, f := expr.Next(l, cond)
		if n != count || f != want || f.Code != api.OK && !expr.Same(y, api.Expr{}) {
			t.Fatalf("Next of %s, %v: %s, %d, %v; want %d, %v", written(l), cond, dump(y, false), n, f, count, want)
		}
		if z, f := parse(l[:n]); n > 0 && (f != (api.Fault{}) || dump(z, true) != dump(y, true)) {
			t.Fatalf("Next of %s, %v is %s; %s of these tokens is %s, %v", written(l), cond, dump(y, true), name, dump(z, true), f)
		}
	}
	if !slices.Equal(l, before) {
		t.Fatalf("the tokens %s were changed", written(before))
	}
	return viable
}
