package expr_test

import (
	"testing"

	"fleuron/api"
	"fleuron/expr"
)

// reading is a string, and what its tokens are.
type reading struct{ s, want string }

// reads compares what tokens are with what they have to be, in a condition and in none.
func reads(t *testing.T, places bool, cases []reading) {
	t.Helper()
	for _, c := range cases {
		l := parsed(t, c.s)
		compare(t, l)
		if x, f := expr.Parse(l); f != (api.Fault{}) || dump(x, places) != c.want {
			t.Errorf("Parse of %s: %s, %v; want %s", c.s, dump(x, places), f, c.want)
		}
		if x, f := expr.Cond(l); f != (api.Fault{}) || dump(x, places) != c.want {
			t.Errorf("Cond of %s: %s, %v; want %s", c.s, dump(x, places), f, c.want)
		}
		for _, cond := range []bool{false, true} {
			if x, n, f := expr.Next(l, cond); f != (api.Fault{}) || n != len(l) || dump(x, places) != c.want {
				t.Errorf("Next of %s, %v: %s, %d, %v; want %s", c.s, cond, dump(x, places), n, f, c.want)
			}
		}
	}
}

// failing is a string, and the fault that its tokens have.
type failing struct {
	s    string
	want api.Fault
}

// fails compares the fault of tokens with the one that they have to have, in a condition and in none.
func fails(t *testing.T, cases []failing) {
	t.Helper()
	for _, c := range cases {
		l := parsed(t, c.s)
		if x, f := expr.Parse(l); f != c.want || !expr.Same(x, api.Expr{}) {
			t.Errorf("Parse of %.300s: %.300s, %v; want %v", c.s, dump(x, false), f, c.want)
		}
		if x, f := expr.Cond(l); f != c.want || !expr.Same(x, api.Expr{}) {
			t.Errorf("Cond of %.300s: %.300s, %v; want %v", c.s, dump(x, false), f, c.want)
		}
	}
}

// syntax returns ErrSyntax at a token of the first line.
func syntax(name string, col int) api.Fault { return fault(api.ErrSyntax, name, 1, col) }

// early returns ErrEnd at a token of the first line.
func early(col int) api.Fault { return fault(api.ErrEnd, "", 1, col) }

// P5.1: the examples of the chapter.
func TestExamples(t *testing.T) {
	reads(t, false, []reading{
		{"2x1", "(* 2 x<1>)"},
		{"1/2x", "(* 1/2 x)"},
		{"x/2", "(/ x 2)"},
		{"x[1,2]", "(between x 1 2)"},
		{"x[1][a,b]", "(between x<1> a b)"},
		{"a{dir 30}..tension 1 and 2..{curl 2}b--cycle", "(path a {(dir 30)}..tension 1 2..{curl 2} b -- cycle)"},
		{"(a=b)", "(= a b)"},
	})
	l := parsed(t, "a=b")
	if x, f := expr.Parse(l); f != syntax("=", 2) {
		t.Errorf("Parse of a=b: %s, %v", dump(x, false), f)
	}
	if x, f := expr.Cond(l); f != (api.Fault{}) || dump(x, true) != "(=@1 a@1 b@3)" {
		t.Errorf("Cond of a=b: %s, %v", dump(x, true), f)
	}
}

// P5.1: numbers, and their quotients.
func TestNumbers(t *testing.T) {
	reads(t, false, []reading{
		{"0", "0"},
		{"1.50", "3/2"},
		{"999999999", "999999999"},
		{"21474.83647", "2147483647/100000"},
		{"1/2", "1/2"},
		{"2/4", "1/2"},
		{"0/7", "0"},
		{"1.5/.5", "3"},
		{"999999999/.5", "1999999998"},
		{"214748364.7/214748364.6", "2147483647/2147483646"},
		{"1/2/3", "(/ 1/2 3)"},
		{"1/2/3/4", "(/ 1/2 3/4)"},
		{"1/2/3/4/5", "(/ (/ 1/2 3/4) 5)"},
		{"a/1/2", "(/ a 1/2)"},
		{"a*1/2", "(* a 1/2)"},
		{"a**1/2", "(** a 1/2)"},
		{"a-1/2", "(- a 1/2)"},
		{"-1/2", "(- 1/2)"},
		{"sqrt 1/2", "(sqrt 1/2)"},
		{"1/a", "(/ 1 a)"},
		{"1/2/a", "(/ 1/2 a)"},
		{"1/(2)", "(/ 1 2)"},
		{"(1)/2", "(/ 1 2)"},
		{"1/-2", "(/ 1 (- 2))"},
	})
	// A number that is no part of a quotient of two tokens may be 0, whatever it divides.
	for s, want := range map[string]string{"(1)/0": "(/ 1 0)", "1/2/0": "(/ 1/2 0)", "1/(0)": "(/ 1 0)", "a/0": "(/ a 0)", "a1/0": "(/ a<1> 0)", "1/-0": "(/ 1 (- 0))"} {
		reads(t, false, []reading{{s, want}})
	}
	fails(t, []failing{
		{"1/0", fault(api.ErrZero, "0", 1, 3)},
		{"1/.000", fault(api.ErrZero, "0", 1, 3)},
		{"0/0", fault(api.ErrZero, "0", 1, 3)},
		{"a/1/0", fault(api.ErrZero, "0", 1, 5)},
		{"1/2/3/\n0", fault(api.ErrZero, "0", 2, 1)},
		{"a[1/0", fault(api.ErrZero, "0", 1, 5)},
		{"1/0)", fault(api.ErrZero, "0", 1, 3)},
		{"999999999/.4", fault(api.ErrRange, "999999999", 1, 1)},
		{".00001/999999999", fault(api.ErrRange, "0.00001", 1, 1)},
		{"a+ .00010/999999999)", fault(api.ErrRange, "0.0001", 1, 4)},
		{"1/", early(2)},
		{"1//2", syntax("/", 3)},
	})
}

// P5.1: numbers with a prim behind them.
func TestFactors(t *testing.T) {
	reads(t, false, []reading{
		{"2a", "(* 2 a)"},
		{"2N_and", "(* 2 and)"},
		{"2(3)", "(* 2 3)"},
		{"2(3,4)", "(* 2 (pair 3 4))"},
		{"2(3(4))", "(* 2 (* 3 4))"},
		{"2\"s\"", "(* 2 \"s\")"},
		{"2true", "(* 2 true)"},
		{"2 pensquare", "(* 2 pensquare)"},
		{"2 not a", "(* 2 (not a))"},
		{"2 sqrt 2 a", "(* 2 (sqrt (* 2 a)))"},
		{"1/2 point 1 of p", "(* 1/2 (point 1 p))"},
		{"a/1/2b", "(/ a (* 1/2 b))"},
		{"1.5/b", "(/ 3/2 b)"},
		{"-2a", "(- (* 2 a))"},
		{"2-a", "(- 2 a)"},
		{"2+a", "(+ 2 a)"},
		{"2a 3", "(* 2 a<3>)"},
		{"2a[b]", "(* 2 a<b>)"},
		{"2a*3b", "(* (* 2 a) (* 3 b))"},
		{"2[a,b]", "(between 2 a b)"},
		{"1/2[a,b]", "(between 1/2 a b)"},
		{"2a[b,c]", "(* 2 (between a b c))"},
		{"2(a)[b,c]", "(* 2 (between a b c))"},
		{"(2a)[b,c]", "(between (* 2 a) b c)"},
	})
	fails(t, []failing{
		{"2 3", syntax("3", 3)},
		{"1/2 3", syntax("3", 5)},
		{"1/2 .50", syntax("0.5", 5)},
		{"2(3)4", syntax("4", 5)},
		{"2a(3)", syntax("(", 3)},
		{"2\"s\"t", syntax("t", 5)},
		{"2 cycle", syntax("cycle", 3)},
		{"2 fill", syntax("fill", 3)},
		{"2[a]", syntax("]", 4)},
		{"2[", early(2)},
		{"2.a", syntax(".", 2)},
		{"2 and", early(3)},
		{"2 sqrt", early(3)},
	})
}

// P5.1: strings, and operations without operands.
func TestConstants(t *testing.T) {
	reads(t, true, []reading{
		{" \"s\"", "\"s\"@2"},
		{"\"\"", "\"\"@1"},
		{"\"and 1\"", "\"and 1\"@1"},
		{"true", "true@1"},
		{" false", "false@2"},
		{"identity", "identity@1"},
		{"pencircle", "pencircle@1"},
		{"\npensquare", "pensquare@2:1"},
	})
	if x, _ := expr.Parse(parsed(t, "true")); x.Op != api.EUnary || len(x.Kids) != 0 {
		t.Errorf("true is %#v", x)
	}
	fails(t, []failing{
		{"\"a b\"\"c d\"", syntax("c d", 6)},
		{"true a", syntax("a", 6)},
		{"true false", syntax("false", 6)},
	})
}

// P5.1: variables, and their suffixes.
func TestVariables(t *testing.T) {
	reads(t, false, []reading{
		{"a", "a"},
		{"N_fill", "fill"},
		{"N_fill.N_draw", "fill<.draw>"},
		{"a1", "a<1>"},
		{"a.5", "a<1/2>"},
		{"a 1 2", "a<1 2>"},
		{"a.b", "a<.b>"},
		{"a.b.c", "a<.b .c>"},
		{"a1.b[2].c 3", "a<1 .b 2 .c 3>"},
		{"a[1/2]", "a<1/2>"},
		{"a[-1]", "a<(- 1)>"},
		{"a[b+1]", "a<(+ b 1)>"},
		{"a[b[c]]", "a<b<c>>"},
		{"a[b]2[c]", "a<b 2 c>"},
		{"a[(1,2)]", "a<(pair 1 2)>"},
		{"a[(b=c)]", "a<(= b c)>"},
		{"a[b<c]", "a<(< b c)>"},
		{"a[b..c]", "a<(path b .. c)>"},
		{"a[\"s\"]", "a<\"s\">"},
		{"a1/2", "(/ a<1> 2)"},
		{"a[1]/2", "(/ a<1> 2)"},
		{"sqrt a[1]", "(sqrt a<1>)"},
	})
	fails(t, []failing{
		{"a b", syntax("b", 3)},
		{"a(1)", syntax("(", 2)},
		{"a\"s\"", syntax("s", 2)},
		{"a.", early(2)},
		{"a.fill", syntax("fill", 3)},
		{"a.true", syntax("true", 3)},
		{"a. .5", syntax("0.5", 4)},
		{"a.[1]", syntax("[", 3)},
		{"a[", early(2)},
		{"a[1", early(3)},
		{"a[]", syntax("]", 3)},
		{"a[1)", syntax(")", 4)},
		{"a[1 2]", syntax("2", 5)},
		{"a[b=c]", syntax("=", 4)},
		{"a[1].", early(5)},
		{"(a)1", syntax("1", 4)},
		{"(a).b", syntax(".", 4)},
		{"(a)[1]", syntax("]", 6)},
	})
}

// P5.1: mediations.
func TestMediations(t *testing.T) {
	reads(t, false, []reading{
		{"a[1,2]", "(between a 1 2)"},
		{"a1.b[c][d,e]", "(between a<1 .b c> d e)"},
		{"a[1,2][3,4][5,6]", "(between (between (between a 1 2) 3 4) 5 6)"},
		{"a[b[1,2],c[3]]", "(between a (between b 1 2) c<3>)"},
		{"(a)[1,2]", "(between a 1 2)"},
		{"(a,b)[1,2]", "(between (pair a b) 1 2)"},
		{"(a1[2])[b,c]", "(between a<1 2> b c)"},
		{"\"s\"[1,2]", "(between \"s\" 1 2)"},
		{"true[1,2][a[1],b]", "(between (between true 1 2) a<1> b)"},
		{"-a[1,2]", "(- (between a 1 2))"},
		{"not sqrt a[1,2]", "(not (sqrt (between a 1 2)))"},
		{"point 1 of p[1,2]", "(point 1 (between p 1 2))"},
		{"a[b..c,d--e]", "(between a (path b .. c) (path d -- e))"},
		{"a[(b=c),d<e]", "(between a (= b c) (< d e))"},
		{"a*b[c,d]", "(* a (between b c d))"},
		{"a[b,c]*d", "(* (between a b c) d)"},
	})
	fails(t, []failing{
		{"a[1,", early(4)},
		{"a[1,2", early(5)},
		{"a[,2]", syntax(",", 3)},
		{"a[1,]", syntax("]", 5)},
		{"a[1,2,3]", syntax(",", 6)},
		{"a[1,2)", syntax(")", 6)},
		{"a[1,2][3]", syntax("]", 9)},
		{"a[1,2]3", syntax("3", 7)},
		{"a[1,2].b", syntax(".", 7)},
		{"a[b=c,d]", syntax("=", 4)},
		{"a[b,c=d]", syntax("=", 6)},
		{"(a[b=c,d])", syntax("=", 5)},
		{"(a[b,c=d])", syntax("=", 7)},
		{"(a)[b=c,d]", syntax("=", 6)},
	})
}

// P5.1: round brackets.
func TestBrackets(t *testing.T) {
	reads(t, false, []reading{
		{"(a)", "a"},
		{"((a))", "a"},
		{"(a,b)", "(pair a b)"},
		{"((a,b))", "(pair a b)"},
		{"((a,b),c)", "(pair (pair a b) c)"},
		{"(a=b)", "(= a b)"},
		{"(a=b,c=d)", "(pair (= a b) (= c d))"},
		{"(a=b=c)", "(= (= a b) c)"},
		{"(a<b=c<>d)", "(<> (= (< a b) c) d)"},
		{"(a..b,c--d)", "(pair (path a .. b) (path c -- d))"},
		{"a*(b+c)", "(* a (+ b c))"},
		{"(a..b)&c", "(& (path a .. b) c)"},
		{"(1)", "1"},
		{"sqrt(a)", "(sqrt a)"},
		{"sqrt(a,b)", "(sqrt (pair a b))"},
		{"a[(b=c)]+((d=e))", "(+ a<(= b c)> (= d e))"},
	})
	fails(t, []failing{
		{"(", early(1)},
		{"(a", early(2)},
		{"(a,", early(3)},
		{"(a,b", early(4)},
		{")", syntax(")", 1)},
		{"()", syntax(")", 2)},
		{"(,b)", syntax(",", 2)},
		{"(a,)", syntax(")", 4)},
		{"(a,b,c)", syntax(",", 5)},
		{"(a]", syntax("]", 3)},
		{"(a b)", syntax("b", 4)},
		{"(a)(b)", syntax("(", 4)},
		{"(a))", syntax(")", 4)},
		{"a)", syntax(")", 2)},
		{"(a..b=c)", syntax("=", 6)},
		{"(a:=b)", syntax(":=", 3)},
	})
}
