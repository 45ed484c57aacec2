package expr_test

import (
	"strings"
	"testing"

	"fleuron/api"
	"fleuron/expr"
	"fleuron/sample"
)

// P5.1: operations of one, and those with of.
func TestUnary(t *testing.T) {
	for _, op := range strings.Fields(sample.Unary) {
		reads(t, true, []reading{{"b+ " + op + " a", "(+@1 b@1 (" + op + "@4 a" + column(5+len(op)) + "))"}})
		reads(t, false, []reading{
			{op + " " + op + " a", "(" + op + " (" + op + " a))"},
			{op + " a*b", "(* (" + op + " a) b)"},
			{op + " (a*b)", "(" + op + " (* a b))"},
			{op + " 2a1", "(" + op + " (* 2 a<1>))"},
		})
		fails(t, []failing{{op, early(1)}, {op + " *a", syntax("*", len(op)+2)}, {op + " )", syntax(")", len(op)+2)}})
	}
	for _, op := range strings.Fields(sample.Of) {
		reads(t, true, []reading{{"b+ " + op + " a of c", "(+@1 b@1 (" + op + "@4 a" + column(5+len(op)) + " c" + column(10+len(op)) + "))"}})
		reads(t, false, []reading{
			{op + " a+b of c+d", "(+ (" + op + " (+ a b) c) d)"},
			{op + " a..b of c*d", "(* (" + op + " (path a .. b) c) d)"},
			{op + " a<b of -c", "(" + op + " (< a b) (- c))"},
			{op + " " + op + " a of b of " + op + " c of d", "(" + op + " (" + op + " a b) (" + op + " c d))"},
			{op + " (a=b) of (c=d)", "(" + op + " (= a b) (= c d))"},
		})
		end := len(op)
		fails(t, []failing{
			{op, early(1)}, {op + " a", early(end + 2)}, {op + " a of", early(end + 4)}, {op + " of a", syntax("of", end+2)}, {op + " a,b", syntax(",", end+3)},
			{op + " a=b of c", syntax("=", end+3)}, {"(" + op + " a=b of c)", syntax("=", end+4)}, {op + " a of c,", syntax(",", end+8)}, {op + " a of b of c", syntax("of", end+9)},
		})
	}
}

// column returns how dump writes a column.
func column(n int) string { return dump(api.Expr{Op: api.EVar, Line: 1, Col: n}, true) }

// P5.1 and P5.8: operations between two, how they bind, and that they go to the left.
func TestBinary(t *testing.T) {
	ranks := []string{sample.Comparisons, sample.Sums, sample.Products}
	for rank, ops := range ranks {
		for _, op := range strings.Fields(ops) {
			reads(t, true, []reading{{"(a) " + op + " b", "(" + op + "@2 a@2 b" + column(6+len(op)) + ")"}})
			reads(t, false, []reading{{"-a " + op + " -b", "(" + op + " (- a) (- b))"}, {"2a " + op + " 2b", "(" + op + " (* 2 a) (* 2 b))"}})
			fails(t, []failing{{"a " + op, early(3)}, {"a " + op + " )", syntax(")", 4+len(op))}, {"a " + op + " /b", syntax("/", 4+len(op))}})
			for otherRank, others := range ranks {
				for _, other := range strings.Fields(others) {
					want := "(" + other + " (" + op + " a b) c)"
					if otherRank > rank {
						want = "(" + op + " a (" + other + " b c))"
					}
					reads(t, false, []reading{{"a " + op + " b " + other + " c", want}})
				}
			}
		}
	}
	reads(t, false, []reading{
		{"a-b-c", "(- (- a b) c)"},
		{"a/b*c", "(* (/ a b) c)"},
		{"2x**2", "(** (* 2 x) 2)"},
		{"x**2y", "(** x (* 2 y))"},
		{"-x**2", "(** (- x) 2)"},
		{"a+b*c<d-e/f", "(< (+ a (* b c)) (- d (/ e f)))"},
		{"a or b and c", "(or a (and b c))"},
		{"a++b+-+c", "(+-+ (++ a b) c)"},
		{"a - -b", "(- a (- b))"},
		{"a+-+b", "(+-+ a b)"},
		{"a & b & c", "(& (& a b) c)"},
	})
}

// P5.1: = is a sign of expr in conditions alone.
func TestConditions(t *testing.T) {
	for s, want := range map[string]string{
		"a=b": "(= a b)", "a=b=c": "(= (= a b) c)", "a<b=c&d": "(& (= (< a b) c) d)", "a+1=b*2": "(= (+ a 1) (* b 2))", "(a=b)=c": "(= (= a b) c)",
		"a[1]=b[c,d]": "(= a<1> (between b c d))", "point 1 of p=q": "(= (point 1 p) q)", "sqrt a=b": "(= (sqrt a) b)",
	} {
		l := parsed(t, s)
		compare(t, l)
		if x, f := expr.Cond(l); f != (api.Fault{}) || dump(x, false) != want {
			t.Errorf("Cond of %s: %s, %v; want %s", s, dump(x, false), f, want)
		}
		if x, f := expr.Parse(l); f.Code != api.ErrSyntax || f.Name != "=" {
			t.Errorf("Parse of %s: %s, %v", s, dump(x, false), f)
		}
	}
	fails(t, []failing{
		{"a..b=c", syntax("=", 5)}, {"a{b=c}..d", syntax("=", 4)}, {"a{curl b=c}..d", syntax("=", 9)}, {"(a{b=c}..d)", syntax("=", 5)},
		{"a[b=c]", syntax("=", 4)}, {"a[b=c,d]", syntax("=", 4)}, {"point a=b of c", syntax("=", 8)}, {"(point a=b of c)", syntax("=", 9)},
		{"=a", syntax("=", 1)}, {"a..tension b=c..d", syntax("=", 13)}, {"a:=b", syntax(":=", 2)},
	})
	for s, col := range map[string]int{"a=": 2, "a<": 2} {
		if x, f := expr.Cond(parsed(t, s)); f != early(col) {
			t.Errorf("Cond of %s: %s, %v", s, dump(x, false), f)
		}
	}
}

// P5.1: paths, their joins and directions.
func TestPaths(t *testing.T) {
	reads(t, false, []reading{
		{"a..b", "(path a .. b)"},
		{"a--b", "(path a -- b)"},
		{"a..cycle", "(path a .. cycle)"},
		{"a--cycle", "(path a -- cycle)"},
		{"a..b..cycle", "(path a .. b .. cycle)"},
		{"a..b--c..cycle", "(path a .. b -- c .. cycle)"},
		{"a{b}..c", "(path a {b}.. c)"},
		{"a..{b}c", "(path a ..{b} c)"},
		{"a{b}..{c}d", "(path a {b}..{c} d)"},
		{"a{curl b}..{curl c}d", "(path a {curl b}..{curl c} d)"},
		{"a{curl 1}..cycle", "(path a {curl 1}.. cycle)"},
		{"a..{b}cycle", "(path a ..{b} cycle)"},
		{"a..tension 1..b", "(path a ..tension 1.. b)"},
		{"a..tension 1 and 2..b", "(path a ..tension 1 2.. b)"},
		{"a..tension 3/4 and 2x..b", "(path a ..tension 3/4 (* 2 x).. b)"},
		{"a..tension 1 b..c", "(path a ..tension (* 1 b).. c)"},
		{"a..tension -1 and sqrt 2..b", "(path a ..tension (- 1) (sqrt 2).. b)"},
		{"a..tension (b and c) and d..e", "(path a ..tension (and b c) d.. e)"},
		{"a..controls b..c", "(path a ..controls b.. c)"},
		{"a..controls b and c..d", "(path a ..controls b c.. d)"},
		{"a..controls (1,2) and (3,4)..b", "(path a ..controls (pair 1 2) (pair 3 4).. b)"},
		{"a{b}..controls c and d..{e}f", "(path a {b}..controls c d..{e} f)"},
		{"a{b}..tension c and d..{curl e}f", "(path a {b}..tension c d..{curl e} f)"},
		{"a..tension 1..cycle", "(path a ..tension 1.. cycle)"},
		{"a{b}..{c}d{e}..{f}g{h}..cycle", "(path a {b}..{c} d {e}..{f} g {h}.. cycle)"},
		{"a+1..b*2--c or d", "(path (+ a 1) .. (* b 2) -- (or c d))"},
		{"(a,b)..(c,d)", "(path (pair a b) .. (pair c d))"},
		{"a{b..c}..d", "(path a {(path b .. c)}.. d)"},
		{"a{b{c}..d}..e", "(path a {(path b {c}.. d)}.. e)"},
		{"a{b<c}..d", "(path a {(< b c)}.. d)"},
		{"a{curl b+c}..d", "(path a {curl (+ b c)}.. d)"},
		{"a{(b=c)}..d", "(path a {(= b c)}.. d)"},
		{"a..(b..c)..d", "(path a .. (path b .. c) .. d)"},
		{"(a..b)--cycle", "(path (path a .. b) -- cycle)"},
		{"1..2", "(path 1 .. 2)"},
		{"2x..3[a,b]", "(path (* 2 x) .. (between 3 a b))"},
		{"a and b..c", "(path (and a b) .. c)"},
	})
	reads(t, true, []reading{{"(a)..b", "(path@2 a@2 .. b@6)"}, {"(a,b)..c", "(path@1 (pair@1 a@2 b@4) .. c@8)"}})
}

// P5.1: what no path goes on with.
func TestPathFaults(t *testing.T) {
	fails(t, []failing{
		{"a..", early(2)}, {"a--", early(2)}, {"a{", early(2)}, {"a{b", early(3)}, {"a{b}", early(4)}, {"a..b{c}", early(7)}, {"a{curl", early(3)}, {"a{curl 1", early(8)},
		{"a..tension", early(4)}, {"a..tension 1", early(12)}, {"a..tension 1 and", early(14)}, {"a..tension 1 and 2", early(18)}, {"a..tension 1..", early(13)},
		{"a..controls", early(4)}, {"a..{b}", early(6)}, {"a..{", early(4)},
		{"..a", syntax("..", 1)}, {"--a", syntax("--", 1)}, {"{a}..b", syntax("{", 1)}, {"cycle", syntax("cycle", 1)}, {"(cycle)", syntax("cycle", 2)}, {"a+cycle", syntax("cycle", 3)},
		{"a....b", syntax("..", 4)}, {"a..--b", syntax("--", 4)}, {"a--..b", syntax("..", 4)}, {"a--{b}c", syntax("{", 4)}, {"a{b}--c", syntax("--", 5)}, {"a{b}{c}..d", syntax("{", 5)},
		{"a{b}c", syntax("c", 5)}, {"a{b}", early(4)}, {"a{}..b", syntax("}", 3)}, {"a{curl}..b", syntax("}", 7)}, {"a{b,c}..d", syntax(",", 4)}, {"a{b)..c", syntax(")", 4)},
		{"a{curl curl 1}..b", syntax("curl", 8)}, {"a..{b}{c}d", syntax("{", 7)}, {"curl 1", syntax("curl", 1)}, {"a}", syntax("}", 2)},
		{"a..tension..b", syntax("..", 11)}, {"a..tension 1 2..b", syntax("2", 14)}, {"a..tension 1,2..b", syntax(",", 13)}, {"a..tension 1 and..b", syntax("..", 17)},
		{"a..tension 1 and 2 and 3..b", syntax("and", 20)}, {"a..tension 1+1..b", syntax("+", 13)}, {"a..tension 1--b", syntax("--", 13)},
		{"a..tension 1..tension 2..b", syntax("tension", 15)}, {"a..tension 1..controls b..c", syntax("controls", 15)}, {"a..{b}tension 1..c", syntax("tension", 7)},
		{"a--tension 1..b", syntax("tension", 4)}, {"a..tension{b}..c", syntax("{", 11)}, {"tension 1", syntax("tension", 1)}, {"a tension 1", syntax("tension", 3)},
		{"a..controls b and c and d..e", syntax("and", 21)}, {"a..controls b{c}..d", syntax("{", 14)}, {"a..controls..b", syntax("..", 12)},
		{"a..cycle..b", syntax("..", 9)}, {"a..cycle{b}", syntax("{", 9)}, {"a..cycle*b", syntax("*", 9)}, {"a..cycle b", syntax("b", 10)}, {"a..cycle--cycle", syntax("--", 9)},
		{"a..b<c", syntax("<", 5)}, {"a..b&c", syntax("&", 5)}, {"a<b..c", syntax("..", 4)}, {"a&b--c", syntax("--", 4)}, {"a&b{c}..d", syntax("{", 4)}, {"a..b,c", syntax(",", 5)},
		{"a..and", syntax("and", 4)}, {"a.. =", syntax("=", 5)},
	})
}

// P5.1 and P5.7: behind a tension or a control that ends with a number a quotient can go on, but no operation.
func TestPathQuotients(t *testing.T) {
	reads(t, false, []reading{
		{"a..tension 3/4..b", "(path a ..tension 3/4.. b)"},
		{"a..tension 1 and 3/4..b", "(path a ..tension 1 3/4.. b)"},
		{"a..controls -3/4 and 1/2b..c", "(path a ..controls (- 3/4) (* 1/2 b).. c)"},
	})
	fails(t, []failing{
		{"a..tension 1/", early(13)},
		{"a..tension 1 and 2/", early(19)},
		{"a..tension 1/b..c", syntax("b", 14)},
		{"a..tension 1//2..b", syntax("/", 14)},
		{"a..tension 1/..b", syntax("..", 14)},
		{"a..tension 1 and 2/b..c", syntax("b", 20)},
		{"a..controls -1/b..c", syntax("b", 16)},
		{"a..tension 1/0..b", fault(api.ErrZero, "0", 1, 14)},
		{"a..tension 1/2/3..b", syntax("/", 15)},
		{"a..tension b/2..c", syntax("/", 13)},
		{"a..tension b1/2..c", syntax("/", 14)},
		{"a..tension (1)/2..c", syntax("/", 15)},
		{"a..tension 2b/3..c", syntax("/", 14)},
		{"a..tension 2[b,1]/3..c", syntax("/", 18)},
	})
}
