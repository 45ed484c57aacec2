package expr_test

import (
	"fmt"
	"slices"
	"strings"
	"testing"

	"fleuron/api"
	"fleuron/expr"
	"fleuron/grammar"
)

type tokens = []api.Token

// parsed returns the tokens of a string, as grammar.Tokens has them.
func parsed(t *testing.T, s string) tokens {
	t.Helper()
	l, f := grammar.Tokens(s)
	if f != (api.Fault{}) {
		t.Fatalf("Tokens of %.200q: %v", s, f)
	}
	return l
}

// written returns tokens as a string.
func written(l tokens) string { return grammar.Written(l) }

// fault returns a fault with these fields.
func fault(code api.Errno, name string, line, col int) api.Fault {
	return api.Fault{Code: code, Name: name, Line: line, Col: col}
}

// dump writes an expression: nodes with Kids in brackets, suffixes of variables in <>.
// With places it writes the column of each node behind @, and its line, if that is not 1.
func dump(x api.Expr, places bool) string {
	at := ""
	if places {
		at = fmt.Sprint("@", x.Col)
		if x.Line != 1 {
			at = fmt.Sprint("@", x.Line, ":", x.Col)
		}
	}
	all := func(l []api.Expr) string {
		var out []string
		for _, k := range l {
			out = append(out, dump(k, places))
		}
		return strings.Join(out, " ")
	}
	switch x.Op {
	case api.ENum:
		if x.Num.Q == 1 {
			return fmt.Sprint(x.Num.P, at)
		}
		return fmt.Sprint(x.Num.P, "/", x.Num.Q, at)
	case api.EText:
		return `"` + x.Text + `"` + at
	case api.EVar:
		if len(x.Kids) == 0 {
			return x.Text + at
		}
		return x.Text + at + "<" + all(x.Kids) + ">"
	case api.EDot:
		return "." + x.Text + at
	case api.EPair:
		return "(pair" + at + " " + all(x.Kids) + ")"
	case api.EUnary:
		if len(x.Kids) == 0 {
			return x.Text + at
		}
		return "(" + x.Text + at + " " + all(x.Kids) + ")"
	case api.EBinary:
		return "(" + x.Text + at + " " + all(x.Kids) + ")"
	case api.EBetween:
		return "(between" + at + " " + all(x.Kids) + ")"
	case api.EPath:
		return "(path" + at + dumpPath(x, all) + ")"
	}
	return fmt.Sprintf("%#v", x)
}

// dumpPath writes the knots and the joins of a path.
func dumpPath(x api.Expr, all func(l []api.Expr) string) string {
	dir := func(d api.Dir) string {
		switch d.Op {
		case api.DirTo:
			return "{" + all(d.E) + "}"
		case api.DirCurl:
			return "{curl " + all(d.E) + "}"
		}
		return ""
	}
	out := ""
	for i := range max(len(x.Kids), len(x.Joins)) {
		if i < len(x.Kids) {
			out += " " + all(x.Kids[i:i+1])
		}
		if i >= len(x.Joins) {
			continue
		}
		j := x.Joins[i]
		switch {
		case j.Op == api.JLine:
			out += " --"
		case j.Op == api.JControls:
			out += " " + dir(j.Leave) + "..controls " + all(j.A) + ".." + dir(j.Come)
		case len(j.A) > 0:
			out += " " + dir(j.Leave) + "..tension " + all(j.A) + ".." + dir(j.Come)
		default:
			out += " " + dir(j.Leave) + ".." + dir(j.Come)
		}
	}
	if x.Cycle {
		out += " cycle"
	}
	return out
}

// documented are the rules of DOC.md.
var documented = grammar.New(grammar.Expressions + `
	Parse = expr end ;
	Cond  = cond end ;`)

// compare compares the faults of Parse, Cond and Next with what the grammar says of tokens, among which no number is 0, and which are not nested too deep.
// It reports whether there can be tokens behind them with which they are an expression or a condition.
func compare(t *testing.T, l tokens) (viable bool) {
	t.Helper()
	before := slices.Clone(l)
	for _, cond := range []bool{false, true} {
		name, inner, parse := "Parse", "expr", expr.Parse
		if cond {
			name, inner, parse = "Cond", "cond", expr.Cond
		}
		ends, stopped := documented.Match(name, l)
		want := api.Fault{}
		if ends>>len(l) == 0 {
			want = grammar.Fault(l, stopped)
		}
		x, f := parse(l)
		if f != want || f.Code != api.OK && !expr.Same(x, api.Expr{}) {
			t.Fatalf("%s of %s: %s, %v; want %v", name, written(l), dump(x, false), f, want)
		}
		viable = viable || stopped == len(l)
		count, want := 0, grammar.Fault(l, stopped)
		if ends, _ := documented.Match(inner, l); ends>>stopped&1 != 0 {
			count, want = stopped, api.Fault{}
		}
		y, n, f := expr.Next(l, cond)
		if n != count || f != want || f.Code != api.OK && !expr.Same(y, api.Expr{}) {
			t.Fatalf("Next of %s, %v: %s, %d, %v; want %d, %v", written(l), cond, dump(y, false), n, f, count, want)
		}
		if z, f := parse(l[:n]); n > 0 && (f != (api.Fault{}) || dump(z, true) != dump(y, true)) {
			t.Fatalf("Next of %s, %v is %s; %s of these tokens is %s, %v", written(l), cond, dump(y, true), name, dump(z, true), f)
		}
	}
	if !slices.Equal(l, before) {
		t.Fatalf("the tokens %s were changed", written(before))
	}
	return viable
}
