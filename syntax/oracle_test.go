package syntax_test

import (
	"slices"
	"testing"

	"fleuron/api"
	"fleuron/grammar"
	"fleuron/syntax"
)

type tokens = []api.Token

// parsed returns the tokens of a string, as grammar.Tokens has them.
func parsed(t *testing.T, s string) tokens {
	t.Helper()
	l, f := grammar.Tokens(s)
	if f != (api.Fault{}) {
		t.Fatalf("Tokens of %.200q: %v", s, f)
	}
	return l
}

// written returns tokens as a string.
func written(l tokens) string { return grammar.Written(l) }

// numbered returns tokens, each in a column of its own.
func numbered(l tokens) tokens {
	l = slices.Clone(l)
	for i := range l {
		l[i].Line, l[i].Col = 1, i+1
	}
	return l
}

// documented are the rules of DOC.md; a cond is an expression that is a condition.
var documented = grammar.New(grammar.Expressions + `
	program  = { stmt ";" } ;
	stmt     = ""
	         | expr "=" expr { "=" expr }
	         | variable ":=" expr
	         | type name { "," name }
	         | "save" name { "," name }
	         | "if" cond ":" { stmt ";" } { "elseif" cond ":" { stmt ";" } } [ "else" ":" { stmt ";" } ] "fi"
	         | "for" name "=" expr "step" expr "until" expr ":" { stmt ";" } "endfor"
	         | "for" name "=" expr { "," expr } ":" { stmt ";" } "endfor"
	         | "forever" ":" { stmt ";" } "endfor"
	         | "exitif" cond
	         | "begingroup" { stmt ";" } "endgroup"
	         | "pickup" expr
	         | ( "fill" | "evenfill" | "draw" ) expr { "also" expr } [ "withink" expr ]
	         | ( "clip" | "evenclip" ) expr { "also" expr }
	         | "unclip"
	         | "beginchar" "(" expr "," expr "," expr "," expr ")" { stmt ";" } "endchar"
	         | "ligtable" expr ":" rule { "," rule }
	         | "message" expr
	         | "show" expr { "," expr } ;
	rule     = expr ( "kern" | "=:" | "|=:" | "=:|" | "|=:|" ) expr ;
	type     = "numeric" | "pair" | "boolean" | "string" | "transform" | "path" | "pen" ;
	Program  = program end ;`)

// compare compares the fault of Program with what the grammar says of tokens, among which no number is 0, and which are not nested too deep.
// It reports whether there can be tokens behind them with which they are a program.
func compare(t *testing.T, l tokens) (viable bool) {
	t.Helper()
	before := slices.Clone(l)
	ends, stopped := documented.Match("Program", l)
	want := api.Fault{}
	if ends == 0 {
		want = grammar.Fault(l, stopped)
	}
	program, f := syntax.Program(l)
	if f != want || f.Code != api.OK && len(program) > 0 {
		t.Fatalf("Program of %s: %s, %v; want %v", written(l), dump(program), f, want)
	}
	if f.Code == api.OK && !syntax.Valid(program) {
		t.Fatalf("Program of %s is not valid: %s", written(l), dump(program))
	}
	if !slices.Equal(l, before) {
		t.Fatalf("the tokens %s were changed", written(before))
	}
	return stopped == len(l)
}
