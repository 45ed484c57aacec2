package expr_test

import (
	"math"
	"slices"
	"strings"
	"testing"

	"fleuron/api"
	"fleuron/expr"
	"fleuron/sample"
)

// P5.1: where nodes are.
func TestPlaces(t *testing.T) {
	reads(t, true, []reading{
		{" 1/2", "1/2@2"},
		{" 2a", "(*@2 2@2 a@3)"},
		{"1/2 a", "(*@1 1/2@1 a@5)"},
		{"a1[b]. c[(d)]", "a@1<1@2 b@4 .c@6 d@11>"},
		{"(a,b)", "(pair@1 a@2 b@4)"},
		{"((a),(b))", "(pair@1 a@3 b@7)"},
		{"((a)+b)*c", "(*@3 (+@3 a@3 b@6) c@9)"},
		{"(a,b)+c", "(+@1 (pair@1 a@2 b@4) c@7)"},
		{"-(a)", "(-@1 a@3)"},
		{"(-a)-b", "(-@2 (-@2 a@3) b@6)"},
		{"a[b,c][d,e]", "(between@1 (between@1 a@1 b@3 c@5) d@8 e@10)"},
		{"(a)[b,c]", "(between@2 a@2 b@5 c@7)"},
		{"2[b,c]", "(between@1 2@1 b@3 c@5)"},
		{"-a[b,c]", "(-@1 (between@2 a@2 b@4 c@6))"},
		{"(point a of b)", "(point@2 a@8 b@13)"},
		{"a\n+b\n *c", "(+@1 a@1 (*@2:2 b@2:2 c@3:3))"},
		{"a{(b)}..tension c and (d)..{curl e}cycle", "(path@1 a@1 {b@4}..tension c@17 d@24..{curl e@34} cycle)"},
		{"(\na--b)", "(path@2:1 a@2:1 -- b@2:4)"},
	})
	// A position is what a token says, whatever that is.
	l := parsed(t, "a+b")
	l[0].Line, l[0].Col, l[2].Line, l[2].Col = math.MinInt, -7, 0, math.MaxInt
	x, f := expr.Parse(l)
	if f != (api.Fault{}) || x.Line != math.MinInt || x.Col != -7 || x.Kids[1].Line != 0 || x.Kids[1].Col != math.MaxInt {
		t.Errorf("%#v, %v", x, f)
	}
}

// P5.1: no tokens, or too few of them; the place of a missing token is that of the last one.
func TestEnd(t *testing.T) {
	fails(t, []failing{
		{"", early(1)}, {"a+", early(2)}, {"a+\n  b*\n", fault(api.ErrEnd, "", 2, 4)}, {"(a\n\n,b", fault(api.ErrEnd, "", 3, 2)}, {"sqrt", early(1)}, {"\n\n-", fault(api.ErrEnd, "", 3, 1)},
	})
	for _, l := range []tokens{nil, {}} {
		for _, cond := range []bool{false, true} {
			if x, n, f := expr.Next(l, cond); n != 0 || f != early(1) || !expr.Same(x, api.Expr{}) {
				t.Errorf("Next of no tokens: %s, %d, %v", dump(x, false), n, f)
			}
		}
	}
	l := parsed(t, "a+")
	l[1].Line, l[1].Col = 0, 0
	if _, f := expr.Parse(l); f != fault(api.ErrEnd, "", 0, 0) {
		t.Error(f)
	}
}

// P5.1: tokens mean what their kind and text say together; the Name of a fault is the text.
func TestKinds(t *testing.T) {
	name := func(s string) api.Token { return api.Token{Kind: api.TokName, Text: s, Line: 1, Col: 1} }
	word := func(s string) api.Token { return api.Token{Kind: api.TokWord, Text: s, Line: 1, Col: 2} }
	text := func(s string) api.Token { return api.Token{Kind: api.TokText, Text: s, Line: 1, Col: 3} }
	sign := func(s string) api.Token { return api.Token{Kind: api.TokSign, Text: s, Line: 1, Col: 4} }
	for _, c := range []struct {
		l    tokens
		want string
	}{
		{tokens{name("true")}, "true@1"}, {tokens{word("true")}, "true@2"}, {tokens{text("+"), sign("+"), name("sqrt")}, "(+@3 \"+\"@3 sqrt@1)"},
		{tokens{name("point"), sign("&"), word("sqrt"), name("cycle")}, "(&@1 point@1 (sqrt@2 cycle@1))"},
		{tokens{name("a"), sign("."), name("of")}, "a@1<.of@4>"},
	} {
		if x, f := expr.Parse(c.l); f != (api.Fault{}) || dump(x, true) != c.want {
			t.Errorf("%s: %s, %v", c.want, dump(x, true), f)
		}
	}
	for _, c := range []struct {
		l    tokens
		want api.Fault
	}{
		{tokens{name("a"), name("and"), name("b")}, syntax("and", 1)}, {tokens{name("a"), text("+"), name("b")}, syntax("+", 3)}, {tokens{name("a"), text("(")}, syntax("(", 3)},
		{tokens{text("("), name("a"), text(")")}, syntax("a", 1)}, {tokens{name("a"), sign(".."), name("cycle"), name("b")}, syntax("b", 1)}, {tokens{name("sqrt"), name("a")}, syntax("a", 1)},
		{tokens{name("a"), sign(".."), name("tension"), name("b")}, syntax("b", 1)}, {tokens{word("point"), name("a"), name("of")}, syntax("of", 1)}, {tokens{name("a"), text("")}, syntax("", 3)},
		{tokens{name("a"), sign("."), word("true")}, syntax("true", 2)}, {tokens{name("a"), sign("."), text("b")}, syntax("b", 3)}, {tokens{name("a"), word("true")}, syntax("true", 2)},
	} {
		if x, f := expr.Parse(c.l); f != c.want || !expr.Same(x, api.Expr{}) {
			t.Errorf("Parse of %s: %s, %v; want %v", written(c.l), dump(x, false), f, c.want)
		}
	}
}

// P5.1: each word and each sign that no expression begins with, or goes on with.
func TestStrangers(t *testing.T) {
	begins := strings.Fields(sample.Unary + " " + sample.Of + " " + sample.Constants + " (")
	goesOn := strings.Fields(sample.Comparisons + " " + sample.Sums + " " + sample.Products + " . .. -- { [")
	for _, s := range strings.Fields(sample.Unary + " " + sample.Of + " " + sample.Constants + " " + sample.Comparisons + " " + sample.Sums + " " + sample.Products +
		" . .. -- { [ ( ) ] } := =:| =: |=:| |=: = : ; , def enddef let begingroup endgroup save if elseif else fi for step until endfor forever exitif numeric pair boolean string transform" +
		" path pen cycle controls tension curl of pickup fill evenfill draw withink also clip evenclip unclip beginchar endchar ligtable kern message show") {
		l := parsed(t, s)
		if _, f := expr.Parse(l); slices.Contains(begins, s) == (f.Code == api.ErrSyntax) {
			t.Errorf("Parse of %s: %v", s, f)
		}
		compare(t, l)
		l = parsed(t, "a "+s)
		if _, f := expr.Parse(l); slices.Contains(goesOn, s) == (f.Code == api.ErrSyntax) {
			t.Errorf("Parse of a %s: %v", s, f)
		}
		compare(t, l)
	}
}

// P5.1 and P5.2: tokens that are not valid, wherever they stand, are ErrArg ahead of all other faults.
func TestInvalidTokens(t *testing.T) {
	for _, bad := range []api.Token{
		{}, {Kind: api.TokName, Text: "a1"}, {Kind: api.TokName, Text: strings.Repeat("a", 41)}, {Kind: api.TokWord, Text: "a"}, {Kind: api.TokSign, Text: "|"}, {Kind: api.TokSign, Text: "a"},
		{Kind: api.TokNum, Num: api.Num{P: -1, Q: 1}}, {Kind: api.TokNum, Num: api.Num{P: 1, Q: 3}}, {Kind: api.TokNum, Num: api.Num{P: 2, Q: 2}}, {Kind: api.TokNum},
		{Kind: api.TokText, Text: "\""}, {Kind: api.TokText, Text: strings.Repeat("a", 101)}, {Kind: 5, Text: "a"}, {Kind: -1, Text: "a"}, {Kind: api.TokName, Text: "a", Num: api.Num{P: 1, Q: 1}},
	} {
		bad.Line, bad.Col = 1, 1
		for _, s := range []string{"", "a+b", "a b", "1/0", ")", "(((", "a+"} {
			for place := range len(parsed(t, s)) + 1 {
				l := slices.Insert(parsed(t, s), place, bad)
				x, f := expr.Parse(l)
				y, g := expr.Cond(l)
				if want := (api.Fault{Code: api.ErrArg}); f != want || g != want || !expr.Same(x, api.Expr{}) || !expr.Same(y, api.Expr{}) {
					t.Errorf("Parse and Cond of %s: %s, %v; %s, %v", written(l), dump(x, false), f, dump(y, false), g)
				}
				for _, cond := range []bool{false, true} {
					if x, n, f := expr.Next(l, cond); f != (api.Fault{Code: api.ErrArg}) || n != 0 || !expr.Same(x, api.Expr{}) {
						t.Errorf("Next of %s: %s, %d, %v", written(l), dump(x, false), n, f)
					}
				}
			}
		}
	}
}

// P5.1: 40 brackets and operations within each other, and one more, of one kind and of two.
func TestDepth(t *testing.T) {
	levels := []string{"(~)", "(b,~)", "(~,b)", "a[~]", "a[b,~]", "2[~,b]", "b{~}..c", "b..{~}c", "b{curl ~}..c", "2(~)", "a..tension (~)..b", "a..controls b and c[~]..d"}
	for _, op := range strings.Fields(sample.Unary) {
		levels = append(levels, op+" ~")
	}
	for _, op := range strings.Fields(sample.Of) {
		levels = append(levels, op+" ~ of b", op+" b of ~")
	}
	for _, level := range levels {
		alike, mixed := `"s"`, `"s"`
		for range api.MaxNest {
			alike = strings.ReplaceAll(level, "~", alike)
		}
		for range api.MaxNest / 2 {
			mixed = strings.ReplaceAll(level, "~", "("+mixed+")")
		}
		for _, s := range []string{alike, mixed} {
			if x, f := expr.Parse(parsed(t, s)); f != (api.Fault{}) || !expr.Valid(x) {
				t.Errorf("Parse of %s: %v", s, f)
			}
			if x, f := expr.Cond(parsed(t, "("+s+")")); f.Code != api.ErrDeep || !expr.Same(x, api.Expr{}) {
				t.Errorf("Cond of %s in brackets: %v", s, f)
			}
			if x, f := expr.Parse(parsed(t, strings.ReplaceAll(s, `"s"`, `("s")`))); f.Code != api.ErrDeep || f.Name != "(" || !expr.Same(x, api.Expr{}) {
				t.Errorf("Parse of %s with the string in brackets: %v", s, f)
			}
			if x, f := expr.Parse(parsed(t, strings.ReplaceAll(s, `"s"`, `-"s"`))); f.Code != api.ErrDeep || f.Name != "-" || !expr.Same(x, api.Expr{}) {
				t.Errorf("Parse of %s with - at the string: %v", s, f)
			}
		}
	}
}

// P5.1: at which token an expression is nested too deep, and what is not nested.
func TestDeepPlaces(t *testing.T) {
	deep := strings.Repeat("(", 40)
	fails(t, []failing{
		{deep + "(", fault(api.ErrDeep, "(", 1, 41)},
		{deep + "-", fault(api.ErrDeep, "-", 1, 41)},
		{deep + "a+-b", fault(api.ErrDeep, "-", 1, 43)},
		{deep + " sqrt a", fault(api.ErrDeep, "sqrt", 1, 42)},
		{deep + " point", fault(api.ErrDeep, "point", 1, 42)},
		{deep + "a[b", fault(api.ErrDeep, "[", 1, 42)},
		{deep + "1[", fault(api.ErrDeep, "[", 1, 42)},
		{deep + "a{", fault(api.ErrDeep, "{", 1, 42)},
		{deep + "a..{", fault(api.ErrDeep, "{", 1, 44)},
		{deep + "2(", fault(api.ErrDeep, "(", 1, 42)},
		{deep + ")", syntax(")", 41)},
		{deep + "[", syntax("[", 41)},
		{deep + "{", syntax("{", 41)},
		{deep + "1/0", fault(api.ErrZero, "0", 1, 43)},
		{deep + "a", early(41)},
		{deep + "a--{", syntax("{", 44)},
		{deep + "a(", syntax("(", 42)},
	})
	signs := strings.Repeat("- ", 20) + strings.Repeat("+ ", 20)
	fails(t, []failing{
		{signs + "not a", fault(api.ErrDeep, "not", 1, 81)},
		{signs + "a[", fault(api.ErrDeep, "[", 1, 82)},
		{signs + "\n(", fault(api.ErrDeep, "(", 2, 1)},
		{signs + "a..b{", early(85)},
		{"- " + signs, fault(api.ErrDeep, "+", 1, 81)},
	})
	// Behind an operand, or a bracket that closes, one is no longer within it; operations between two, products without a sign and mediations are never nested.
	for _, s := range []string{
		signs + "a" + strings.Repeat("*"+signs+"b", 3),
		deep + "a*b+c<d" + strings.Repeat(")", 40) + "*" + deep + "a" + strings.Repeat(")", 40),
		deep + "2a3.b" + strings.Repeat(")", 40),
		deep + "a..tension 1..cycle" + strings.Repeat(")", 40),
		"a" + strings.Repeat("[b,c]", 300),
		"a" + strings.Repeat("[b]", 300),
		"a" + strings.Repeat("{b}..{c}d", 300),
		strings.Repeat("point 1 of p + ", 300) + "a",
		strings.Repeat("-a-", 300) + "a",
		"(" + strings.Repeat("(a)+", 300) + "a)",
	} {
		if x, f := expr.Parse(parsed(t, s)); f != (api.Fault{}) || !expr.Valid(x) {
			t.Errorf("Parse of %.300s: %v", s, f)
		}
	}
}

// P5.1: tokens without end; chains are as deep as they are long.
func TestLong(t *testing.T) {
	const count = 70000
	plus, name, numeral := parsed(t, "+")[0], parsed(t, "a")[0], parsed(t, "1")[0]
	for _, c := range []struct {
		front, repeated, end string
		size                 int
	}{
		{"a", "+b", "", 2*count + 1}, {"a", "[b,c]", "", 3*count + 1}, {"a", "[b]", "", count + 1}, {"a", " 1", "", count + 1}, {"a", "..b", "", count + 2},
		{"a", "*b<c", "", 4*count + 1}, {"a", "{b}..tension c..{curl d}e", "", 4*count + 2}, {"(a", "&b", ")", 2*count + 1},
	} {
		l := slices.Concat(parsed(t, c.front), slices.Repeat(parsed(t, c.repeated), count), parsed(t, c.end))
		x, f := expr.Cond(l)
		if size, e := expr.Size(x); f != (api.Fault{}) || e != api.OK || size != c.size {
			t.Errorf("%s with many of %s: %v; %d nodes, %v", c.front, c.repeated, f, size, e)
		}
		if tags, e := expr.Tags(x); e != api.OK || len(tags) == 0 || len(tags) > 5 || !expr.Same(x, x) {
			t.Errorf("%s with many of %s: tags %v, %v", c.front, c.repeated, tags, e)
		}
		if x, f := expr.Cond(append(l, plus)); f.Code != api.ErrEnd || !expr.Same(x, api.Expr{}) {
			t.Errorf("%s with many of %s and +: %v", c.front, c.repeated, f)
		}
		if x, f := expr.Cond(append(l, name, name, numeral)); f.Code != api.ErrSyntax || !expr.Same(x, api.Expr{}) {
			t.Errorf("%s with many of %s and a a 1: %v", c.front, c.repeated, f)
		}
	}
	if _, f := expr.Parse(slices.Repeat(parsed(t, "-("), count)); f.Code != api.ErrDeep {
		t.Error(f)
	}
}

// P5.2: expressions with tokens left behind them.
func TestNext(t *testing.T) {
	for _, c := range []struct {
		s, want string
		count   int
		cond    bool
	}{
		{"a;", "a", 1, false}, {"a=b", "a", 1, false}, {"a=b", "(= a b)", 3, true}, {"a=b=c;", "(= (= a b) c)", 5, true}, {"a:=b", "a", 1, true}, {"a b", "a", 1, false},
		{"a)", "a", 1, false}, {"a,b", "a", 1, false}, {"a]", "a", 1, true}, {"a}", "a", 1, false}, {"a of b", "a", 1, false}, {"2 3", "2", 1, false}, {"1/2 3", "1/2", 3, false},
		{"a[1,2]3", "(between a 1 2)", 6, false}, {"a..b<c", "(path a .. b)", 3, true}, {"a..b=c", "(path a .. b)", 3, true}, {"a<b..c", "(< a b)", 3, false},
		{"a..cycle..b", "(path a .. cycle)", 3, false}, {"a+b withink 3", "(+ a b)", 3, false}, {"(a=b)=c", "(= a b)", 5, false}, {"sqrt a(b)", "(sqrt a)", 2, false},
		{"a step 1", "a", 1, false}, {"a:", "a", 1, true}, {"a kern 1", "a", 1, false}, {"\"s\" \"t\"", "\"s\"", 1, false}, {"a cycle", "a", 1, false}, {"a sqrt b", "a", 1, false},
	} {
		l := parsed(t, c.s)
		x, n, f := expr.Next(l, c.cond)
		if f != (api.Fault{}) || n != c.count || dump(x, false) != c.want {
			t.Errorf("Next of %s, %v: %s, %d, %v; want %s, %d", c.s, c.cond, dump(x, false), n, f, c.want, c.count)
		}
		compare(t, l)
	}
	for s, want := range map[string]api.Fault{
		"a+;": syntax(";", 3), "a..;": syntax(";", 4), "a[b;": syntax(";", 4), ";": syntax(";", 1), "a{b}--c;": syntax("--", 5), "1/0;": fault(api.ErrZero, "0", 1, 3), "2*": early(2),
		".00001/999999999;": fault(api.ErrRange, "0.00001", 1, 1), "a.;": syntax(";", 3), "point a;": syntax(";", 8), strings.Repeat("(", 41) + ";": fault(api.ErrDeep, "(", 1, 41), "(a;": syntax(";", 3),
	} {
		for _, cond := range []bool{false, true} {
			if x, n, f := expr.Next(parsed(t, s), cond); f != want || n != 0 || !expr.Same(x, api.Expr{}) {
				t.Errorf("Next of %s, %v: %s, %d, %v; want %v", s, cond, dump(x, false), n, f, want)
			}
		}
	}
}
