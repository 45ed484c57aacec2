package show_test

import (
	"fmt"
	"math/rand/v2"
	"regexp"
	"strings"
	"testing"

	"fleuron/api"
	"fleuron/expr"
	"fleuron/grammar"
	"fleuron/lex"
	"fleuron/sample"
	"fleuron/show"
	"fleuron/syntax"
	"fleuron/tree"
)

// parsed returns what a string is; N_fill is the name fill.
func parsed[T any](t *testing.T, s string, parse func(l []api.Token) (T, api.Fault)) T {
	t.Helper()
	l, f := grammar.Tokens(s)
	if f.Code != api.OK {
		t.Fatalf("Tokens of %.200s: %v", s, f)
	}
	x, f := parse(l)
	if f.Code != api.OK {
		t.Fatalf("%.200s: %v", s, f)
	}
	return x
}

// condition returns the condition that a string is.
func condition(t *testing.T, s string) api.Expr {
	t.Helper()
	return parsed(t, s, expr.Cond)
}

// program returns the program that a string is.
func program(t *testing.T, s string) []api.Stmt {
	t.Helper()
	return parsed(t, s, syntax.Program)
}

var positions = regexp.MustCompile(`Line:-?\d+ Col:-?\d+`)

// shape writes all that there is in an expression, or in statements, but positions.
func shape(x any) string { return positions.ReplaceAllString(fmt.Sprintf("%+v", x), "") }

// newMaker makes what nobody has thought of; no name is spelled as a word.
func newMaker() sample.Maker {
	r := rand.New(rand.NewPCG(9, 10))
	return sample.Maker{Pick: r.IntN, Names: "a b z x_ N expr text Fill " + strings.Repeat("n", 40)}
}

// side is Expr or Cond, and what reads its strings.
type side struct {
	name  string
	write func(x api.Expr) (string, api.Errno)
	read  func(l []api.Token) (api.Expr, api.Fault)
	inner [2]string // what is within these stands in the same kind of places
}

func sides() []side {
	return []side{{"Expr", show.Expr, expr.Parse, [2]string{"a [", "]"}}, {"Cond", show.Cond, expr.Cond, [2]string{"(", ")"}}}
}

// checked returns the string of a valid expression, after checking whether it has the form that it has to have, and the size.
func checked(t *testing.T, d side, x api.Expr) string {
	t.Helper()
	before := fmt.Sprint(x)
	s, e := d.write(x)
	if e != api.OK || s == "" {
		t.Fatalf("%s of %.1000s: %.300q, %v", d.name, shape(x), s, e)
	}
	if fmt.Sprint(x) != before {
		t.Fatalf("%s has changed %.1000s", d.name, before)
	}
	blanks(t, s)
	if size, texts := bound(x); len(s) > 60*size+texts {
		t.Fatalf("%s of %.1000s has %d nodes, with %d bytes of texts: %s", d.name, shape(x), size, texts, s)
	}
	return s
}

// blanks checks whether a string is tokens with a blank between each two.
func blanks(t *testing.T, s string) {
	t.Helper()
	l, f := lex.Tokens(s)
	if f.Code != api.OK {
		t.Fatalf("Tokens of %s: %v", s, f)
	}
	at := 0
	for _, k := range l {
		if k.Line != 1 || k.Col != at+1 {
			t.Fatalf("the token at %d:%d of %s should be at 1:%d", k.Line, k.Col, s, at+1)
		}
		rest := strings.TrimPrefix(s[at:], `"`+k.Text+`"`)
		if k.Kind != api.TokText {
			end := strings.IndexByte(s[at:]+" ", ' ')
			rest = s[at+end:]
		}
		at = len(s) - len(rest) + 1
	}
	if at != len(s)+1 {
		t.Fatalf("there is more behind the last token of %q", s)
	}
}

// bound returns how many nodes an expression has, and how many bytes their texts have.
func bound(x api.Expr) (size, texts int) {
	tree.Visit(&x, func(x *api.Expr) bool {
		size++
		texts += len(x.Text)
		return true
	})
	return size, texts
}

// short returns an expression whose string is never too long.
func short(m sample.Maker, depth int) api.Expr {
	for {
		x := m.Expr(depth)
		if size, texts := bound(x); 60*size+texts <= api.MaxText {
			return x
		}
	}
}

// reads checks whether the string of an expression is read as it is, and written of that again.
func reads(t *testing.T, d side, x api.Expr) {
	t.Helper()
	s := checked(t, d, x)
	l, _ := grammar.Tokens(s)
	y, f := d.read(l)
	if f.Code != api.OK || !expr.Same(x, y) {
		t.Fatalf("%s of %.1000s is %.1000s, which is read as %.1000s, %v", d.name, shape(x), s, shape(y), f)
	}
	if again, e := d.write(y); e != api.OK || again != s {
		t.Fatalf("%s of what %s is read as is %s, %v", d.name, s, again, e)
	}
}

// P7.1, P7.3, P7.4: expressions of all kinds are written so that they are read again.
func TestKinds(t *testing.T) {
	var all []string
	for _, op := range strings.Fields(sample.Unary) {
		all = append(all, op+" a", op+" 2a", op+"(a+b)", op+"(a,b)", op+"(a*b)", op+"(-a)", "("+op+" a)[b,c]", "2*"+op+" a", op+"(a=b)", op+"(a..b)", op+" a[b,c]", op+" point 1 of a")
	}
	for _, op := range strings.Fields(sample.Of) {
		all = append(all, op+" a of b", op+" a..b of b", op+" (a=b) of (a..b)", op+" 1/2 of 2a", "("+op+" 1 of a)[b,c]", op+" 1 of a[b,c]", "2 "+op+" 1 of a", op+" a+b of (a+b)", op+" "+op+" a of b of "+op+" c of d")
	}
	for _, op := range strings.Fields(sample.Constants) {
		all = append(all, op, "2 "+op, op+"[a,b]", "-"+op, op+"*"+op)
	}
	operations := []string{sample.Products, sample.Sums, sample.Comparisons + " ="}
	for _, first := range strings.Fields(strings.Join(operations, " ")) {
		first = " " + first + " "
		all = append(all, "1"+first+"2", "1/3"+first+"2/3", "(1)"+first+"2", "(a=b)"+first+"(c=d)", "(a..b)"+first+"(c..d)", "(2a)"+first+"(2a)", "2(a)"+first+"3(-a)", "-a"+first+"-b")
		for _, second := range strings.Fields(strings.Join(operations, " ")) {
			second = " " + second + " "
			all = append(all, "(a"+first+"b)"+second+"c", "a"+first+"(b"+second+"c)", "(1"+first+"2)"+second+"3", "1"+first+"(2"+second+"3)", "1"+first+"(2"+second+"a)")
		}
	}
	for _, s := range all {
		for _, d := range sides() {
			reads(t, d, condition(t, s))
		}
	}
}

// P7.1, P7.3, P7.4: what is read in another way where there are no brackets, or another token.
func TestPitfalls(t *testing.T) {
	for _, s := range []string{
		"(1)/2", "1/(2)", "(1)/2/3", "(1/2)/(3/4)", "((1)/2)/3", "(((1)/2)/3)/4", "1/((2)/3)", "(1)/(2a)", "(1)/2[a,b]", "(1)/(2)[a,b]", "a/(2)/3", "(a/2)/3", "(a*2)/3", "(a-2)/3", "a1/2", "a[1/2]", "a[1/3]", "a[1/3]/2", "a[2/1]3",
		"2*3", "2*(3*a)", "2*(3a)", "-(2*(3a))", "-(2*3)", "-(2*(-a))", "-(2*(+a))", "-(2*(not a))", "-(2*(3[a,b]))", "-(2*(3[a,b][c,d]))", "-(2*((-a)[b,c]))", "-(2*((3a)[b,c]))", "-(2*(a,b))", "-(2*\"s\")", "-(2*a)", "-(2*(a+b))", "-(2*(a=b))",
		"-((1/3)*a)", "-((1/3)*3)", "(2*a)[b,c]", "(2*a)*b", "2*(a*b)", "a*(2*b)", "a/(2*b)", "(2/a)*b", "2/(a*b)", "(2*a)**2", "a**(2*b)", "(-a)[b,c]", "-(a[b,c])", "-(-a)", "+(-(+a))", "a-(-b)", "a+(+b)",
		"a[b]", "a[b,c]", "a[b][c,d]", "(a[b,c])[d,e]", "a[b[c,d],e[f,g]]", "a[(b=c)]", "a[(b=c),(d=e)]", "(a=b)[(c=d),(e=f)]", "a[b..c]", "a[b..c,d--e]", "a.b.c", "a.b 1", "a1.b", "a 1 2 3", "a .5", "a.N", "2a.b[c]", "(2)[a,b]", "(1/2)[a,b]", "\"s\"[a,b]", "(a,b)[c,d]",
		"a=b=c", "(a=b)=c", "a=(b=c)", "a<(b=c)", "(a=b)<c", "(a<b)=c", "a=(b..c)", "(a..b)=c", "(a..b)&(c..d)", "(a&b)..(c&d)", "(a=b)..(c=d)", "((a..b)..c)..d", "(a..b,c..d)", "(a=b,c=d)", "(((a=b)=c)<d)=e", "a+((b=c)<d)",
		"a..b", "a--b", "a..cycle", "a--cycle", "a..b--cycle", "a{b}..{c}d", "a{curl b}..{curl c}cycle", "a{b}..tension 1..{c}d", "a..tension 1/3 and 1/7..b", "a..tension 2b and (2*-b)..c", "a..controls (1,2)..b", "a..controls a and b..c--d", "a{curl 1}..controls a and b..{curl 2}cycle",
		"a{(b=c)}..{curl(b=c)}d", "a{b..c}..d", "a..tension (a=b) and (a..b)..c", "a+b..c-d--e*f..cycle", "a..tension -1 and sqrt 2..b", "a..tension 1[a,b]..b", "a..tension (a*b)..b",
		"0", "999999999", "1/999999999", "0.00001", "99999/100000", "1.5", "1/3", "2/3", "200000001/3", `""`, `" a  b "`, `"%;("`, "a", "z1", "true", "N", "expr", "x_",
	} {
		for _, d := range sides() {
			reads(t, d, condition(t, s))
		}
	}
}

// numbers are at the limits of what has a token, and of numbers.
var numbers = []api.Num{
	{P: 0, Q: 1}, {P: 1, Q: 1}, {P: 1, Q: 2}, {P: 1, Q: 3}, {P: 999999999, Q: 1}, {P: 1000000000, Q: 1}, {P: api.MaxNum, Q: 1}, {P: 1, Q: 100000}, {P: 1, Q: 200000}, {P: 1, Q: 1000000}, {P: 2147483647, Q: 100000}, {P: 2147483647, Q: 2147483646}, {P: 1, Q: api.MaxNum},
	{P: api.MaxNum, Q: 2}, {P: 1000000001, Q: 2}, {P: 999999999, Q: 1000000000}, {P: 1000000000, Q: 999999999}, {P: 999999999, Q: 999999998}, {P: 3, Q: 1000000000}, {P: 2000000000, Q: 3}, {P: 1999999999, Q: 2000000000}, {P: 1999999999, Q: 2},
}

// P7.1, P7.3: numbers that have a token, and others, wherever a number may stand.
func TestNumbers(t *testing.T) {
	for _, n := range numbers {
		x := api.Expr{Op: api.ENum, Num: n}
		for _, s := range []string{"N", "N/2", "2/N", "N/N", "N/N/N", "N/(N/N)", "N*N", "N*a", "a*N", "-(N*a)", "-(N*N)", "N[N,N]", "-(N*(N[N,N]))", "a[N]", "a[N][N]", "a[N][N,N]/N", "(N,N)", "-N", "point N of N", "N..tension N and N..N", "N{curl N}..controls N..cycle", "N=N<N"} {
			y := condition(t, s)
			tree.Visit(&y, func(k *api.Expr) bool {
				if k.Op == api.EVar && k.Text == "N" {
					*k = x
				}
				return true
			})
			for _, d := range sides() {
				reads(t, d, y)
			}
		}
	}
}

// P7.1: the strings of expressions that need no brackets; = does, but for conditions.
func TestStrings(t *testing.T) {
	for _, s := range []string{"a", "a . b", "a + b * c - d", "a . b .. c -- cycle", "a < b > c", "a and b scaled c or d", "a .. tension b and c .. d", `"a  b" & ""`, "true"} {
		for _, d := range sides() {
			if got, e := d.write(condition(t, s)); e != api.OK || got != s {
				t.Errorf("%s of %s: %s, %v", d.name, s, got, e)
			}
		}
	}
	for s, want := range map[string]string{"a=b": "( a = b )", "((a))": "a", "(a*b)+(c)": "a * b + c", "a[(b)].c": "a [ b ] . c", "(a+b)*c": "( a + b ) * c"} {
		if got, e := show.Expr(condition(t, s)); e != api.OK || got != want {
			t.Errorf("Expr of %s: %s, %v; want %s", s, got, e, want)
		}
	}
	if got, e := show.Cond(condition(t, "a=b")); e != api.OK || got != "a = b" {
		t.Errorf("Cond of a=b: %s, %v", got, e)
	}
}

// P7.1, P7.3, P7.4: expressions of which nobody has thought.
func TestRandom(t *testing.T) {
	t.Parallel()
	m := newMaker()
	for range 20000 {
		x := short(m, 1+m.Pick(5))
		x.Line, x.Col = m.Pick(9)-3, m.Pick(9)-3
		for _, d := range sides() {
			reads(t, d, x)
		}
	}
}
