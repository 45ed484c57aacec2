// Package grammar matches tokens with the rules of DOC.md, in all ways that there are: the tests of the parsers compare them with it.
package grammar

import (
	"math/bits"
	"slices"
	"strconv"
	"strings"

	"fleuron/api"
	"fleuron/cursor"
	"fleuron/lex"
)

// Expressions are the rules of an expression and of what it is made of, but for three things. A prim that begins with a prim is one with any number of mediations behind it.
// A factor is a prim that may stand behind a number without a sign. A cond is an expr in which = is one more of the signs.
const Expressions = `
	expr     = tert { ( "<" | "<=" | ">" | ">=" | "<>" | "&" ) tert } | pathexpr ;
	cond     = tert { ( "<" | "<=" | ">" | ">=" | "<>" | "&" | "=" ) tert } | pathexpr ;
	pathexpr = tert join tert { join tert } [ join "cycle" ] | tert join "cycle" ;
	join     = [ dir ] ".." [ "tension" prim [ "and" prim ] ".." | "controls" prim [ "and" prim ] ".." ] [ dir ] | "--" ;
	dir      = "{" ( "curl" expr | expr ) "}" ;
	tert     = sec { ( "+" | "-" | "++" | "+-+" | "or" ) sec } ;
	sec      = prim { ( "*" | "/" | "**" | "and" | "mod" | "dotprod" | "scaled" | "xscaled" | "yscaled" | "shifted" | "rotated" | "slanted" | "transformed" ) prim } ;
	prim     = ( number [ "/" number ] [ factor ] | ( "+" | "-" ) prim | factor ) { "[" expr "," expr "]" } ;
	factor   = string | "true" | "false" | "identity" | "pencircle" | "pensquare"
	         | variable
	         | "(" cond ")" | "(" cond "," cond ")"
	         | unary prim
	         | ( "point" | "direction" | "subpath" | "precontrol" | "postcontrol" ) expr "of" prim ;
	unary    = "not" | "known" | "unknown" | "odd" | "floor" | "abs" | "sqrt" | "sind" | "cosd" | "angle" | "dir" | "length" | "xpart" | "ypart" | "xxpart" | "xypart" | "yxpart" | "yypart" | "inverse" | "decimal" | "char" | "code" | "reverse" ;
	variable = name { number | "[" expr "]" | "." name } ;`

// A set has a bit for each of up to 63 tokens, or places between them.
type set = uint64

// Grammar is a grammar's rules.
type Grammar struct{ rules map[string]rule }

// New returns the grammar that a string describes, rule by rule: a name, = and what it stands for, as in DOC.md, and ; behind it.
// All of these have blanks between them. The rule end stands for the end of the tokens.
func New(s string) Grammar {
	g := Grammar{map[string]rule{}}
	for words := strings.Fields(s); len(words) > 0; words = words[1:] {
		name := words[0]
		g.rules[name], words = alternatives(words[2:])
	}
	return g
}

// Match returns where the rule of this name can end, if the tokens begin with it, and the first place at which no token can stand that stands there.
func (g Grammar) Match(name string, l []api.Token) (ends uint64, stopped int) {
	m := &matcher{l: l, known: map[place]set{}, rules: g.rules}
	ends = ruleOf(name)(m, 0)
	return ends, bits.Len64(m.examined) - 1
}

// Fault returns the fault at the place of a token, or behind the last one.
func Fault(l []api.Token, at int) api.Fault {
	switch {
	case len(l) == 0:
		return api.Fault{Code: api.ErrEnd, Line: 1, Col: 1}
	case at == len(l):
		return api.Fault{Code: api.ErrEnd, Line: l[at-1].Line, Col: l[at-1].Col}
	}
	return cursor.Fault(api.ErrSyntax, l[at])
}

// Tokens returns the tokens of a string as if they were expanded: names that are spelled as words are words, and N_fill is the name fill.
func Tokens(s string) ([]api.Token, api.Fault) {
	l, f := lex.Tokens(s)
	for i, t := range l {
		name, marked := strings.CutPrefix(t.Text, "N_")
		switch {
		case t.Kind != api.TokName:
		case marked:
			l[i].Text = name
		case lex.Word(t.Text):
			l[i].Kind = api.TokWord
		}
	}
	return l, f
}

// Written returns tokens as a string, whether they are valid or not.
func Written(l []api.Token) string {
	var out []string
	for _, t := range l {
		s, e := lex.Text([]api.Token{t})
		if e != api.OK {
			s = "(no token: " + strconv.Itoa(int(t.Kind)) + " " + strconv.Quote(t.Text) + ")"
		}
		out = append(out, s)
	}
	return strings.Join(out, " ")
}

// matcher looks for all ways in which tokens are what a rule says.
type matcher struct {
	l        []api.Token
	examined set // the places at which a token was looked at, behind tokens that can stand there
	known    map[place]set
	rules    map[string]rule
}

// place is where a rule is looked at.
type place struct {
	name string
	from int
}

// A rule, or a part of one, says where what it stands for can end, if it begins at a place.
type rule func(m *matcher, from int) set

// token returns the rule of a token.
func token(fits func(t api.Token) bool) rule {
	return func(m *matcher, from int) set {
		m.examined |= 1 << from
		if from < len(m.l) && fits(m.l[from]) {
			return 1 << (from + 1)
		}
		return 0
	}
}

// kind returns the rule of a token of this kind.
func kind(k api.TokKind) rule {
	return token(func(t api.Token) bool { return t.Kind == k })
}

// spelled returns the rule of this word or sign.
func spelled(s string) rule {
	return token(func(t api.Token) bool { return (t.Kind == api.TokWord || t.Kind == api.TokSign) && t.Text == s })
}

// then returns the rule of the one and the other behind it.
func then(a, b rule) rule {
	return func(m *matcher, from int) set {
		var out set
		for ends := a(m, from); ends != 0; ends &= ends - 1 {
			out |= b(m, bits.TrailingZeros64(ends))
		}
		return out
	}
}

// either returns the rule of the one or the other.
func either(a, b rule) rule {
	return func(m *matcher, from int) set {
		one := a(m, from)
		return one | b(m, from)
	}
}

// nothing is the rule of no token.
func nothing(m *matcher, from int) set { return 1 << from }

// end is the rule of the end of the tokens.
func end(m *matcher, from int) set {
	m.examined |= 1 << from
	if from < len(m.l) {
		return 0
	}
	return 1 << from
}

// repeated returns the rule of any number of these.
func repeated(a rule) rule {
	return func(m *matcher, from int) set {
		var out set
		for waiting := set(1) << from; waiting != 0; {
			at := bits.TrailingZeros64(waiting)
			out |= 1 << at
			more := a(m, at)
			waiting = (waiting | more) &^ out
		}
		return out
	}
}

// ruleOf returns the rule of this name, or of this token between quotation marks.
func ruleOf(name string) rule {
	if text := strings.Trim(name, `"`); text != name && text != "" {
		return spelled(text)
	}
	switch name {
	case `""`:
		return nothing
	case "name":
		return kind(api.TokName)
	case "number":
		return kind(api.TokNum)
	case "string":
		return kind(api.TokText)
	case "end":
		return end
	}
	return func(m *matcher, from int) set {
		at := place{name, from}
		ends, ok := m.known[at]
		if !ok {
			ends = m.rules[name](m, from)
			m.known[at] = ends
		}
		return ends
	}
}

// alternatives reads rules with | between them, up to the word that ends them.
func alternatives(words []string) (rule, []string) {
	a, words := sequence(words)
	for words[0] == "|" {
		var b rule
		b, words = sequence(words[1:])
		a = either(a, b)
	}
	return a, words
}

// sequence reads rules one behind the other.
func sequence(words []string) (rule, []string) {
	all := rule(nothing)
	for !slices.Contains([]string{"|", ";", ")", "]", "}"}, words[0]) {
		var a rule
		switch words[0] {
		case "(":
			a, words = alternatives(words[1:])
		case "[":
			a, words = alternatives(words[1:])
			a = either(a, nothing)
		case "{":
			a, words = alternatives(words[1:])
			a = repeated(a)
		default:
			a = ruleOf(words[0])
		}
		all, words = then(all, a), words[1:]
	}
	return all, words
}
