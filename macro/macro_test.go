package macro_test

import (
	"slices"
	"strings"
	"testing"

	"fleuron/api"
	"fleuron/lex"
	"fleuron/macro"
)

// P4.1: the examples of the chapter.
func TestExamples(t *testing.T) {
	expands(t, []expanding{
		{"def twice(expr x)=x+x enddef; y=twice(2)*3;", "; y = ( 2 ) + ( 2 ) * 3 ;"},
		{"let also=endgroup; begingroup save fill; fill=1; also; fill p;", "<begingroup> <save> fill ; fill = 1 ; <endgroup> ; <fill> p ;"},
	})
	fails(t, []failing{{"def a=a enddef; a", fault(api.ErrSteps, "a", 1, 7)}})
}

// expanding is a string, and what its tokens are expanded to.
type expanding struct{ s, want string }

func expands(t *testing.T, cases []expanding) {
	t.Helper()
	for _, c := range cases {
		got, f := compare(t, parsed(t, c.s))
		if f != (api.Fault{}) || shown(got) != c.want {
			t.Errorf("Expand of %s: %s, %v; want %s", c.s, shown(got), f, c.want)
		}
	}
}

// failing is a string, and the fault that its tokens have.
type failing struct {
	s    string
	want api.Fault
}

func fails(t *testing.T, cases []failing) {
	t.Helper()
	for _, c := range cases {
		if got, f := compare(t, parsed(t, c.s)); f != c.want {
			t.Errorf("Expand of %.100s: %.200s, %v; want %v", c.s, shown(got), f, c.want)
		}
	}
}

// P4.1: let, also to variables, macros and words, and of words.
func TestLet(t *testing.T) {
	expands(t, []expanding{
		{"", ""},
		{"a fill 1.5 \"x\" ..", "a <fill> 1.5 \"x\" .."},
		{"let a=fill; a b", "<fill> b"},
		{"let fill=a; fill a", "fill a"},
		{"let fill=draw; let draw=pen; fill draw", "<draw> <pen>"},
		{"let a=a; a let fill=fill; fill", "a <fill>"},
		{"let a=fill; let a=b; a", "a"},
		{"def m=x enddef let n=m; let m=fill; n m", "x <fill>"},
		{"let let=fill; let a=b;", "<fill> a = b ;"},
		{"let a=let; a b=fill; b", "<fill>"},
		{"let a=def; let b=enddef; a m=1 a n=2 b b m", "1"},
		{"let a=begingroup; let b=save; let c=endgroup; a b fill; fill c fill", "<begingroup> <save> fill ; fill <endgroup> <fill>"},
		{"let <fill> =a; fill <fill>", "fill <fill>"},
		{"let a=<fill>; let fill=draw; a fill <fill>", "<fill> <draw> <fill>"},
		{"<let> a=<let>; a <let> =fill; let let <let> b=c; a c=a; c d=draw; d", "<fill> <fill> <draw>"},
		{"def m=let a= enddef m fill; a", "<fill>"},
		{"let m=n; def n=x enddef m n", "m x"},
	})
	fails(t, []failing{
		{"let", fault(api.ErrEnd, "", 1, 1)},
		{"let a", fault(api.ErrEnd, "", 1, 5)},
		{"let a=", fault(api.ErrEnd, "", 1, 6)},
		{"let a=\n b", fault(api.ErrEnd, "", 2, 2)},
		{"let 1=b;", fault(api.ErrSyntax, "1", 1, 5)},
		{"let .50=b;", fault(api.ErrSyntax, "0.5", 1, 5)},
		{"let \"s 1\"=b;", fault(api.ErrSyntax, "s 1", 1, 5)},
		{"let ;", fault(api.ErrSyntax, ";", 1, 5)},
		{"let a b;", fault(api.ErrSyntax, "b", 1, 7)},
		{"let a:=b;", fault(api.ErrSyntax, ":=", 1, 6)},
		{"let a=\"=\";", fault(api.ErrSyntax, "=", 1, 7)},
		{"let a=1.25;", fault(api.ErrSyntax, "1.25", 1, 7)},
		{"let a=b,", fault(api.ErrSyntax, ",", 1, 8)},
		{"let a=b \";\"", fault(api.ErrSyntax, ";", 1, 9)},
		{"def m== enddef let a m b;", fault(api.ErrSyntax, "m", 1, 22)},
	})
}

// P4.1: def, also within def, with names that mean def and enddef at that time.
func TestDef(t *testing.T) {
	expands(t, []expanding{
		{"def m=1 2 enddef m;m", "1 2 ; 1 2"},
		{"def m= enddef m;", ";"},
		{"def m=n enddef def n=x enddef m def n=y enddef m n", "x y y"},
		{"def m=def n=1 enddef n enddef m n", "1 1"},
		{"def m=def n=def p=2 enddef p enddef enddef m n p", "2 2"},
		{"def m=1 enddef def m=m 2 enddef let n=m; def m=3 enddef m", "3"},
		{"def fill=draw 1 enddef fill <fill>", "<draw> 1 <fill>"},
		{"def <fill> =1 enddef fill <fill>", "1 <fill>"},
		{"def enddef=1 enddef enddef <enddef_>", "1 < enddef_ >"},
		{"def def=1 enddef def <def> m=2 <enddef> m", "1 2"},
		{"def m=<def> n=1 <enddef> enddef m n", "1"},
		{"let a=fill; def m=a enddef let a=draw; m", "<draw>"},
		{"let enddef=fill; def m=enddef <enddef> m", "<fill>"},
		{"let a=enddef; let enddef=x; let b=def; def m=b n=enddef a a m n", "enddef"},
		{"def m=let a=b; enddef m a", "a"},
		{"def m=def m=1 enddef m enddef m m", "1 1"},
		{"def m=\"def\" \"enddef\" enddef m", "\"def\" \"enddef\""},
		{"def m=save enddef m fill,draw fill draw", "<save> fill , draw fill draw"},
	})
	fails(t, []failing{
		{"def", fault(api.ErrEnd, "", 1, 1)},
		{"def m", fault(api.ErrEnd, "", 1, 5)},
		{"def m=", fault(api.ErrEnd, "", 1, 6)},
		{"def m=\n1 2", fault(api.ErrEnd, "", 2, 3)},
		{"def m=def n=1 enddef", fault(api.ErrEnd, "", 1, 15)},
		{"def 1=", fault(api.ErrSyntax, "1", 1, 5)},
		{"def m 1", fault(api.ErrSyntax, "1", 1, 7)},
		{"def m:=1 enddef", fault(api.ErrSyntax, ":=", 1, 6)},
		{"def m[expr a]", fault(api.ErrSyntax, "[", 1, 6)},
		{"a enddef", fault(api.ErrSyntax, "enddef", 1, 3)},
		{"let b=enddef;\n1 b", fault(api.ErrSyntax, "b", 2, 3)},
		{"<enddef>", fault(api.ErrSyntax, "enddef", 1, 2)},
		{"def m=enddef enddef", fault(api.ErrSyntax, "enddef", 1, 14)},
		{"def m=<enddef> m enddef", fault(api.ErrSyntax, "enddef", 1, 18)},
		{"def n=def m=1 enddef n m", fault(api.ErrEnd, "", 1, 24)},
	})
}

// P4.1: groups of parameters.
func TestParameters(t *testing.T) {
	expands(t, []expanding{
		{"def m(expr a)=a b enddef m(1) m(a)", "( 1 ) b ( a ) b"},
		{"def m(expr a,b,c)=c a enddef m(1,2 3,4)", "( 4 ) ( 1 )"},
		{"def m(text a)=a b a enddef m(1,2) m()", "1 , 2 b 1 , 2 b"},
		{"def m(expr a)(text b)(expr c,d)=d c b a enddef m(1)(2,2)(3,4) a", "( 4 ) ( 3 ) 2 , 2 ( 1 ) a"},
		{"def m(text a)(text b)=b a enddef m(1)(2)", "2 1"},
		{"def m(expr expr)(text text)=expr text enddef m(1)(2)", "( 1 ) 2"},
		{"def m(expr a,b)=a b enddef m(,)", "( ) ( )"},
		{"def m(expr m)=m enddef m(1)", "( 1 )"},
		{"def m(expr fill)=fill <fill> enddef m(1) fill", "( 1 ) <fill> <fill>"},
		{"def m(expr <fill>)=fill <fill> enddef m(1)", "( 1 ) <fill>"},
		{"let expr=fill; let text=a; def m(expr b)(text c)=b c enddef m(2)(3)", "( 2 ) 3"},
	})
	fails(t, []failing{
		{"def m(", fault(api.ErrEnd, "", 1, 6)},
		{"def m(expr", fault(api.ErrEnd, "", 1, 7)},
		{"def m(expr a", fault(api.ErrEnd, "", 1, 12)},
		{"def m(expr a)", fault(api.ErrEnd, "", 1, 13)},
		{"def m(expr a,", fault(api.ErrEnd, "", 1, 13)},
		{"def m()=1 enddef", fault(api.ErrSyntax, ")", 1, 7)},
		{"def m(a)=1 enddef", fault(api.ErrSyntax, "a", 1, 7)},
		{"let e=expr; def m(e a)=1 enddef", fault(api.ErrSyntax, "e", 1, 19)},
		{"def m(expr)=1 enddef", fault(api.ErrSyntax, ")", 1, 11)},
		{"def m(expr 1)=1 enddef", fault(api.ErrSyntax, "1", 1, 12)},
		{"def m(expr a b)=1 enddef", fault(api.ErrSyntax, "b", 1, 14)},
		{"def m(expr a,)=1 enddef", fault(api.ErrSyntax, ")", 1, 14)},
		{"def m(expr a];", fault(api.ErrSyntax, "]", 1, 13)},
		{"def m(text a,b)=1 enddef", fault(api.ErrSyntax, ",", 1, 13)},
		{"def m(text a b)=1 enddef", fault(api.ErrSyntax, "b", 1, 14)},
		{"def m(expr a);", fault(api.ErrSyntax, ";", 1, 14)},
		{"def m(expr a,b,a)=1 enddef", fault(api.ErrTwice, "a", 1, 16)},
		{"def m(expr a)(text a)=1 enddef", fault(api.ErrTwice, "a", 1, 20)},
		{"def m(text <fill>)(text fill)=1 enddef", fault(api.ErrTwice, "fill", 1, 25)},
		{"def m(text enddef)=enddef enddef", fault(api.ErrSyntax, "enddef", 1, 27)},
	})
}

// P4.1: arguments, with brackets within each other, and signs that do not belong there.
func TestArguments(t *testing.T) {
	expands(t, []expanding{
		{"def m(expr a,b)=b a enddef m((1,2),[3,4]{5,6})", "( [ 3 , 4 ] { 5 , 6 } ) ( ( 1 , 2 ) )"},
		{"def m(text a)=a enddef m((1),2,(3)) ,", "( 1 ) , 2 , ( 3 ) ,"},
		{"def m(expr a,b)=a b enddef m(\")\" \",\" \"(\" \"]\",([\"]\"]))", "( \")\" \",\" \"(\" \"]\" ) ( ( [ \"]\" ] ) )"},
		{"def m(text a)=a enddef m(\",)\" ([{}]))", "\",)\" ( [ { } ] )"},
		{"def m(expr a)=a enddef m(m(1))", "( ( 1 ) )"},
		{"def m=n( enddef def n(expr a)=a a enddef m 1)", "( 1 ) ( 1 )"},
		{"def m=n(1 enddef def n(expr a,b)=b a enddef m,2)", "( 2 ) ( 1 )"},
		{"def n(expr a)(expr b)=b enddef def m=n(1) enddef m(2)", "( 2 )"},
		{"def m(text a)=def n(text b)=b a enddef enddef m(1)n(2)", "2 1"},
		{"def m(text a)=def a=1 enddef enddef m(n)n", "1"},
		{"def m(text a)=let a; enddef m(b=fill) b", "<fill>"},
		{"def m(expr a)=a enddef def n=, enddef m(n)", "( , )"},
		{"def m(text a)=a enddef m(let b=fill;) b", "<fill>"},
		{"def m(text a)=a enddef def m_=m enddef m_(1)", "1"},
	})
	fails(t, []failing{
		{"def m(expr a)=a enddef m", fault(api.ErrEnd, "", 1, 24)},
		{"def m(expr a)=a enddef m(", fault(api.ErrEnd, "", 1, 25)},
		{"def m(expr a)=a enddef m(1,", fault(api.ErrSyntax, ",", 1, 27)},
		{"def m(expr a)=a enddef m(1(", fault(api.ErrEnd, "", 1, 27)},
		{"def m(expr a,b)=a enddef m(1,2", fault(api.ErrEnd, "", 1, 30)},
		{"def m(expr a,b)=a enddef m(1)", fault(api.ErrSyntax, ")", 1, 29)},
		{"def m(expr a,b)=a enddef m(1,2,3)", fault(api.ErrSyntax, ",", 1, 31)},
		{"def m(expr a)(text b)=a enddef m(1)2", fault(api.ErrSyntax, "2", 1, 36)},
		{"def m(expr a)=a enddef m[1]", fault(api.ErrSyntax, "[", 1, 25)},
		{"def m(expr a)=a enddef m;", fault(api.ErrSyntax, ";", 1, 25)},
		{"def m(expr a)=a enddef m\"(\"", fault(api.ErrSyntax, "(", 1, 25)},
		{"def m(expr a)=a enddef m(1]", fault(api.ErrSyntax, "]", 1, 27)},
		{"def m(text a)=a enddef m(1})", fault(api.ErrSyntax, "}", 1, 27)},
		{"def m(text a)=a enddef m([1)])", fault(api.ErrSyntax, ")", 1, 28)},
		{"def m(text a)=a enddef m((1])", fault(api.ErrSyntax, "]", 1, 28)},
		{"def m(text a)=a enddef m({1])", fault(api.ErrSyntax, "]", 1, 28)},
		{"def m(text a)=a enddef m([{(1)]})", fault(api.ErrSyntax, "]", 1, 31)},
		{"def n=) enddef def m(text a)=a enddef m(1 n", fault(api.ErrEnd, "", 1, 43)},
		{"def n=( enddef def m(text a)=a enddef m n 1)", fault(api.ErrSyntax, "n", 1, 41)},
		{"def m(text a)=m enddef m(1)(2)", fault(api.ErrEnd, "", 1, 30)},
		{"def m(expr a)=a enddef m(m)(1)", fault(api.ErrSyntax, ")", 1, 15)},
	})
}

// P4.1: groups and save.
func TestGroups(t *testing.T) {
	expands(t, []expanding{
		{"begingroup endgroup", "<begingroup> <endgroup>"},
		{"save fill; fill begingroup fill endgroup fill", "<save> fill ; fill <begingroup> fill <endgroup> fill"},
		{"begingroup save fill; fill endgroup fill", "<begingroup> <save> fill ; fill <endgroup> <fill>"},
		{"begingroup save a; a endgroup a", "<begingroup> <save> a ; a <endgroup> a"},
		{"def m=1 enddef begingroup save m; m endgroup m", "<begingroup> <save> m ; m <endgroup> 1"},
		{"begingroup save fill; let fill=draw; save fill; endgroup fill", "<begingroup> <save> fill ; <save> fill ; <endgroup> <fill>"},
		{"begingroup save fill,fill; endgroup fill", "<begingroup> <save> fill , fill ; <endgroup> <fill>"},
		{"begingroup save fill; begingroup let fill=draw; save fill; fill endgroup fill endgroup fill", "<begingroup> <save> fill ; <begingroup> <save> fill ; fill <endgroup> <draw> <endgroup> <fill>"},
		{"begingroup let fill=draw; def m=1 enddef endgroup fill m", "<begingroup> <endgroup> <draw> 1"},
		{"begingroup save fill; def fill=1 enddef fill endgroup fill", "<begingroup> <save> fill ; 1 <endgroup> <fill>"},
		{"begingroup save begingroup,endgroup,save; begingroup endgroup save <endgroup> begingroup endgroup", "<begingroup> <save> begingroup , endgroup , save ; begingroup endgroup save <endgroup> <begingroup> <endgroup>"},
		{"begingroup save <fill>; fill <fill> <endgroup> fill", "<begingroup> <save> fill ; fill <fill> <endgroup> <fill>"},
		{"def m=begingroup save m; m endgroup enddef m", "<begingroup> <save> m ; m <endgroup>"},
		{"begingroup begingroup save fill; endgroup fill endgroup", "<begingroup> <begingroup> <save> fill ; <endgroup> <fill> <endgroup>"},
	})
	fails(t, []failing{
		{"begingroup", fault(api.ErrEnd, "", 1, 1)},
		{"begingroup begingroup endgroup\n;", fault(api.ErrEnd, "", 2, 1)},
		{"endgroup", fault(api.ErrSyntax, "endgroup", 1, 1)},
		{"begingroup endgroup a <endgroup>", fault(api.ErrSyntax, "endgroup", 1, 24)},
		{"let a=endgroup; a", fault(api.ErrSyntax, "a", 1, 17)},
		{"begingroup enddef", fault(api.ErrSyntax, "enddef", 1, 12)},
		{"begingroup save endgroup; endgroup", fault(api.ErrEnd, "", 1, 27)},
	})
}

// P4.1: the names of a save, and what stands between them.
func TestSave(t *testing.T) {
	expands(t, []expanding{
		{"save a", "<save> a"},
		{"save a,fill,b,draw fill draw pen", "<save> a , fill , b , draw fill draw <pen>"},
		{"save fill fill", "<save> fill fill"},
		{"save a;,fill fill", "<save> a ; , <fill> <fill>"},
		{"save a 1,fill", "<save> a 1 , <fill>"},
		{"save a fill,draw", "<save> a <fill> , <draw>"},
		{"save a b,draw", "<save> a b , <draw>"},
		{"save a save fill,draw fill", "<save> a <save> fill , draw fill"},
		{"begingroup save a endgroup,fill", "<begingroup> <save> a <endgroup> , <fill>"},
		{"save a begingroup,fill endgroup", "<save> a <begingroup> , <fill> <endgroup>"},
		{"save a\",\"fill", "<save> a \",\" <fill>"},
		{"save a .. , fill", "<save> a .. , <fill>"},
		// On the way to the next token macros are replaced, and let and def are followed.
		{"def m=, enddef save a m fill fill", "<save> a , fill fill"},
		{"def m=,fill, enddef save a m draw fill draw", "<save> a , fill , draw fill draw"},
		{"def m= enddef save a m,fill fill", "<save> a , fill fill"},
		{"save a let b=fill;,draw b draw", "<save> a , draw <fill> draw"},
		{"save a def b=1 enddef,draw b draw", "<save> a , draw 1 draw"},
		{"save a let a=fill;,draw a draw", "<save> a , draw <fill> draw"},
		{"save a let b=save; b fill fill", "<save> a <save> fill fill"},
		// The names are read as they stand, and are variables from then on.
		{"def m=, enddef save m m fill", "<save> m m <fill>"},
		{"def m=fill enddef save a,m m", "<save> a , m m"},
		{"save let let a=b;", "<save> let let a = b ;"},
	})
	fails(t, []failing{
		{"save", fault(api.ErrEnd, "", 1, 1)},
		{"save a,", fault(api.ErrEnd, "", 1, 7)},
		{"save 1", fault(api.ErrSyntax, "1", 1, 6)},
		{"save ,", fault(api.ErrSyntax, ",", 1, 6)},
		{"save a,;", fault(api.ErrSyntax, ";", 1, 8)},
		{"save a,\"b\"", fault(api.ErrSyntax, "b", 1, 8)},
		{"def m=, enddef save a m", fault(api.ErrEnd, "", 1, 23)},
		{"def m=,1 enddef save a m", fault(api.ErrSyntax, "1", 1, 8)},
	})
}

// P4.1: tokens stand where they stand in the program, in the definition or in the argument; brackets where the parameter does.
func TestPositions(t *testing.T) {
	l := parsed(t, "def m(expr a)(text b)=\n x+a\n fill b enddef\nm(1)(y,\nz) let w=draw; w")
	got, f := macro.Expand(l)
	if f != (api.Fault{}) {
		t.Fatal(f)
	}
	var places [][2]int
	for _, k := range got {
		places = append(places, [2]int{k.Line, k.Col})
	}
	want := [][2]int{{2, 2}, {2, 3}, {2, 4}, {4, 3}, {2, 4}, {3, 2}, {4, 6}, {4, 7}, {5, 1}, {5, 16}}
	if shown(got) != "x + ( 1 ) <fill> y , z <draw>" || !slices.Equal(places, want) {
		t.Errorf("%s at %v; want %v", shown(got), places, want)
	}
	// A position is whatever the caller says.
	far := tokens{{Kind: api.TokName, Text: "begingroup", Line: -5, Col: 1 << 40}}
	if _, f := macro.Expand(far); f != fault(api.ErrEnd, "", -5, 1<<40) {
		t.Error(f)
	}
	fails(t, []failing{
		{"def m(expr a)=\n endgroup a enddef m(1)", fault(api.ErrSyntax, "endgroup", 2, 2)},
		{"def m(expr a)=let\n a enddef m(1)", fault(api.ErrSyntax, "(", 2, 2)},
		{"def m(text a)=let\n a enddef m(1)", fault(api.ErrSyntax, "1", 2, 13)},
		{"def m(expr a)=let b=a enddef m(1)", fault(api.ErrSyntax, "(", 1, 21)},
	})
}

// P4.1: of several faults the one whose token comes first; the end goes behind all others.
func TestFirstFault(t *testing.T) {
	fails(t, []failing{
		{"begingroup let 1 endgroup endgroup", fault(api.ErrSyntax, "1", 1, 16)},
		{"begingroup enddef let", fault(api.ErrSyntax, "enddef", 1, 12)},
		{"def m(expr a,a", fault(api.ErrTwice, "a", 1, 14)},
		{"endgroup 1 enddef", fault(api.ErrSyntax, "endgroup", 1, 1)},
	})
}

// P4.1: 200,000 steps are executed, the next one is a fault; all tokens that are read count.
func TestSteps(t *testing.T) {
	// A definition of 5 tokens, calls of a macro without tokens, and a few more.
	program := func(calls, more int) tokens {
		return parsed2(t, "def m = enddef ;", "m", calls, strings.Repeat(";", more))
	}
	if l, f := macro.Expand(program(199990, 5)); f != (api.Fault{}) || len(l) != 6 {
		t.Errorf("200000 steps: %d tokens, %v", len(l), f)
	}
	if l, f := macro.Expand(program(199990, 6)); f != fault(api.ErrSteps, ";", 1, 6) || len(l) != 0 {
		t.Errorf("200001 steps: %d tokens, %v", len(l), f)
	}
	if _, f := macro.Macros(program(199990, 6)); f != fault(api.ErrSteps, ";", 1, 6) {
		t.Errorf("200001 steps: %v", f)
	}
	// Tokens of lists and of definitions count, too; here are 11 + 4 calls.
	round := func(calls, more int) tokens {
		return parsed2(t, "def n = enddef def m = n n n enddef", "m", calls, strings.Repeat("n ", more))
	}
	for _, c := range []struct {
		calls, more int
		want        api.Fault
	}{
		{49997, 1, api.Fault{}},
		{49997, 2, fault(api.ErrSteps, "n", 1, 3)},
		{49998, 0, fault(api.ErrSteps, "n", 1, 24)},
		{300000, 0, fault(api.ErrSteps, "n", 1, 24)},
	} {
		if _, f := macro.Expand(round(c.calls, c.more)); f != c.want {
			t.Errorf("%d calls and %d: %v; want %v", c.calls, c.more, f, c.want)
		}
	}
	// The step counts ahead of what the token would be else.
	if _, f := macro.Expand(parsed2(t, "def m = enddef", "m", 199996, "enddef")); f != fault(api.ErrSteps, "enddef", 1, 1) {
		t.Errorf("an enddef beyond the steps: %v", f)
	}
	if _, f := macro.Expand(parsed2(t, "def m = enddef", "m", 199995, "let a")); f != fault(api.ErrSteps, "a", 1, 5) {
		t.Errorf("a let beyond the steps: %v", f)
	}
	if _, f := macro.Expand(parsed2(t, "def m = enddef", "m", 199995, "let")); f != fault(api.ErrEnd, "", 1, 1) {
		t.Errorf("a let at the end of the steps: %v", f)
	}
}

// parsed2 returns the tokens of a string, a name n times, and the tokens of another string.
func parsed2(t *testing.T, s, name string, n int, behind string) tokens {
	t.Helper()
	many := slices.Repeat(tokens{{Kind: api.TokName, Text: name, Line: 1, Col: 1}}, n)
	return slices.Concat(parsed(t, s), many, parsed(t, behind))
}

// P4.1: 20,000 tokens are put out, or replace a macro, but not more.
func TestTokenLimits(t *testing.T) {
	fill := api.Token{Kind: api.TokName, Text: "fill", Line: 7, Col: 8}
	for _, k := range []api.Token{fill, {Kind: api.TokSign, Text: ";", Line: 7, Col: 8}, {Kind: api.TokName, Text: "x", Line: 7, Col: 8}, {Kind: api.TokName, Text: "begingroup", Line: 7, Col: 8}} {
		full := slices.Repeat(tokens{fill}, 20000)
		if l, f := compare(t, full); f != (api.Fault{}) || len(l) != 20000 {
			t.Errorf("20000: %d, %v", len(l), f)
		}
		if l, f := compare(t, append(full, k)); f != fault(api.ErrLimit, k.Text, 7, 8) || len(l) != 0 {
			t.Errorf("20001 tokens with %v: %d, %v", k, len(l), f)
		}
	}
	for _, c := range []struct {
		n      int
		behind string
		want   api.Fault
	}{
		{19998, "save a", api.Fault{}},
		{19999, "save a", fault(api.ErrLimit, "a", 1, 6)},
		{20000, "save a", fault(api.ErrLimit, "save", 1, 1)},
		{19998, "save a,b", fault(api.ErrLimit, ",", 1, 7)},
		{20000, "let a=fill; a", fault(api.ErrLimit, "a", 1, 13)},
		{20000, "1.5", fault(api.ErrLimit, "1.5", 1, 1)},
		{19999, "begingroup", fault(api.ErrEnd, "", 1, 1)},
		// At one token ErrSyntax is named ahead of ErrLimit.
		{20000, "endgroup", fault(api.ErrSyntax, "endgroup", 1, 1)},
		{20000, "enddef", fault(api.ErrSyntax, "enddef", 1, 1)},
		{20000, "let a=b; def m=c enddef", api.Fault{}},
		{19999, "def m=1 enddef m", api.Fault{}},
		{19999, "def m=1 2 enddef m", fault(api.ErrLimit, "2", 1, 9)},
	} {
		if _, f := compare(t, parsed2(t, "", "x", c.n, c.behind)); f != c.want {
			t.Errorf("%d tokens and %s: %v; want %v", c.n, c.behind, f, c.want)
		}
	}
}

// P4.1: the list that replaces a macro has at most 20,000 tokens.
func TestListLimits(t *testing.T) {
	long := "def m = "
	for _, c := range []struct {
		head string
		n    int
		call string
		want api.Fault
	}{
		{long, 20000, "enddef m", api.Fault{}},
		{long, 20001, "enddef m", fault(api.ErrLimit, "m", 1, 8)},
		{long, 30000, "enddef", api.Fault{}},
		{"def m(text a)= a ", 19999, "enddef m(1)", api.Fault{}},
		{"def m(text a)= a ", 19999, "enddef m(1,)", fault(api.ErrLimit, "m", 1, 8)},
		{"def m(expr a)= a ", 19997, "enddef m(1)", api.Fault{}},
		{"def m(expr a)= a ", 19998, "enddef m(1)", fault(api.ErrLimit, "m", 1, 8)},
		{"def m(expr a)= a ", 19999, "enddef m()", fault(api.ErrLimit, "m", 1, 8)},
		{"def m(expr a)= a ", 20000, "enddef m(1]", fault(api.ErrSyntax, "]", 1, 11)},
		{"def n=\n m enddef def m = ", 20001, "enddef n", fault(api.ErrLimit, "m", 2, 2)},
	} {
		if _, f := compare(t, parsed2(t, c.head, "x", c.n, c.call)); f != c.want {
			t.Errorf("%s, %d and %s: %v; want %v", c.head, c.n, c.call, f, c.want)
		}
	}
	// A text that is used often.
	l := slices.Concat(parsed(t, "def m(text a)="), slices.Repeat(parsed(t, "a"), 141), parsed(t, "enddef\nm("), slices.Repeat(parsed(t, "+"), 142), parsed(t, ")"))
	if _, f := compare(t, l); f != fault(api.ErrLimit, "m", 2, 1) {
		t.Error(f)
	}
}

// P4.1: 200 lists of which tokens are left, but not more.
func TestDeep(t *testing.T) {
	// Each of n macros is replaced while a token is left of the one ahead of it.
	chain := func(n int, behind string) string {
		s := "def m" + letters(n) + "=1 enddef\n"
		for i := range n {
			s += "def m" + letters(i) + "=m" + letters(i+1) + behind + " enddef\n"
		}
		return s + "m" + letters(0)
	}
	if l, f := compare(t, parsed(t, chain(199, ";"))); f != (api.Fault{}) || len(l) != 200 {
		t.Errorf("200 lists: %d tokens, %v", len(l), f)
	}
	if _, f := compare(t, parsed(t, chain(200, ";"))); f.Code != api.ErrDeep || f != fault(api.ErrDeep, "m"+letters(200), 201, len("def m"+letters(199)+"=m")) {
		t.Errorf("201 lists: %v", f)
	}
	// A list of which no token is left counts no more, nor does one without tokens.
	if l, f := compare(t, parsed(t, chain(300, ""))); f != (api.Fault{}) || len(l) != 1 {
		t.Errorf("301 lists that are read: %d tokens, %v", len(l), f)
	}
	empty := "def e= enddef " + strings.Replace(chain(199, ";"), "=1 ", "=e; ", 1)
	if l, f := compare(t, parsed(t, empty)); f != (api.Fault{}) || len(l) != 200 {
		t.Errorf("200 lists and an empty one: %d tokens, %v", len(l), f)
	}
	fails(t, []failing{
		{"def a=a b enddef a", fault(api.ErrDeep, "a", 1, 7)},
		{"def a=1 a b enddef a", fault(api.ErrDeep, "a", 1, 9)},
		{"def a(text b)=a(b); enddef a(1)", fault(api.ErrDeep, "a", 1, 15)},
		{"def a(text b)=a(b) enddef a(1)", fault(api.ErrSteps, "a", 1, 15)},
		{"def a(text b)=a(b b)b enddef a(1)", fault(api.ErrLimit, "a", 1, 15)},
	})
	// At one name ErrLimit is named ahead of ErrDeep.
	limit := parsed2(t, "def m"+letters(200)+"=", "x", 20001, "enddef")
	deep := parsed(t, chain(200, ";"))
	n := len(deep) - 1
	if _, f := compare(t, slices.Concat(deep[:n], limit, deep[n:])); f != fault(api.ErrLimit, "m"+letters(200), 201, len("def m"+letters(199)+"=m")) {
		t.Errorf("a long list on 200: %v", f)
	}
}

// letters returns the name of a number.
func letters(n int) string {
	s := ""
	for ; n > 0; n /= 26 {
		s += string(rune('a' + n%26))
	}
	return s + "_"
}

// invalid are tokens of which each one is not valid.
var invalid = tokens{
	{}, {Kind: api.TokName, Text: "a1"}, {Kind: api.TokName, Text: strings.Repeat("a", 41)}, {Kind: api.TokName, Text: "a", Num: api.Num{P: 1, Q: 1}},
	{Kind: api.TokWord}, {Kind: api.TokWord, Text: "fillet"}, {Kind: api.TokNum}, {Kind: api.TokNum, Num: api.Num{P: 1, Q: 3}}, {Kind: api.TokNum, Num: api.Num{P: -1, Q: 1}},
	{Kind: api.TokNum, Num: api.Num{P: 2, Q: 2}}, {Kind: api.TokNum, Text: "1", Num: api.Num{P: 1, Q: 1}},
	{Kind: api.TokText, Text: "\""}, {Kind: api.TokText, Text: strings.Repeat("a", 101)}, {Kind: api.TokSign}, {Kind: api.TokSign, Text: "|"}, {Kind: 5, Text: "a"}, {Kind: -1, Text: "a"},
}

// P4.1, P4.2, P4.3: tokens that are not valid, ahead of every other fault.
func TestInvalid(t *testing.T) {
	for _, bad := range invalid {
		for _, l := range []tokens{{bad}, append(parsed(t, "endgroup let 1"), bad), append(tokens{bad}, parsed(t, "def m=1 enddef")...)} {
			if out, f := macro.Expand(l); len(out) != 0 || f != (api.Fault{Code: api.ErrArg}) {
				t.Errorf("Expand with %v: %v, %v", bad, out, f)
			}
			if names, f := macro.Macros(l); len(names) != 0 || f != (api.Fault{Code: api.ErrArg}) {
				t.Errorf("Macros with %v: %v, %v", bad, names, f)
			}
			if out, e := macro.Rename(l, "a", "b"); len(out) != 0 || e != api.ErrArg {
				t.Errorf("Rename with %v: %v, %v", bad, out, e)
			}
		}
	}
}

// P4.2: the names that mean macros at the end.
func TestMacros(t *testing.T) {
	for _, c := range []struct{ s, want string }{
		{"", ""},
		{"let a=fill; b c", ""},
		{"def m=1 enddef m", "m"},
		{"def m=1 enddef def b(expr x)=x enddef def Z=1 enddef def _=1 enddef", "Z _ b m"},
		{"def m=1 enddef let n=m; let m=a;", "n"},
		{"def m=1 enddef let m=fill;", ""},
		{"def m=def n=1 enddef enddef", "m"},
		{"def m=def n=1 enddef enddef m", "m n"},
		{"def fill=1 enddef", "fill"},
		{"def <fill> =1 enddef", "fill"},
		{"def m=1 enddef save m;", ""},
		{"def m=1 enddef begingroup save m; endgroup", "m"},
		{"begingroup save m; def m=1 enddef endgroup", ""},
		{"begingroup def m=1 enddef save n; endgroup", "m"},
	} {
		names, f := macro.Macros(parsed(t, c.s))
		if f != (api.Fault{}) || strings.Join(names, " ") != c.want {
			t.Errorf("Macros of %s: %v, %v; want %s", c.s, names, f, c.want)
		}
		compare(t, parsed(t, c.s))
	}
	for _, s := range []string{"def m=1 enddef endgroup", "def m=1 enddef let 1", "def m=m enddef m"} {
		_, f := macro.Expand(parsed(t, s))
		if names, g := macro.Macros(parsed(t, s)); len(names) != 0 || f != g || f.Code == api.OK {
			t.Errorf("Macros of %s: %v, %v; want %v", s, names, g, f)
		}
	}
}

// P4.3: each TokName with one of the names has the other one, nothing else changes.
func TestRename(t *testing.T) {
	for _, c := range []struct{ s, a, b, want string }{
		{"", "a", "b", ""},
		{"a b c a", "a", "b", "b a c b"},
		{"a b c", "b", "d", "a d c"},
		{"a b", "a", "a", "a b"},
		{"a b", "c", "d", "a b"},
		{"a fill <fill> \"a\" \"fill\" 1", "a", "fill", "fill a <fill> \"a\" \"fill\" 1"},
		{"A a _", "A", "_", "_ a A"},
		{"def a=b enddef a endgroup", "a", "def", "a def = b enddef def endgroup"},
	} {
		l := parsed(t, c.s)
		before := slices.Clone(l)
		got, e := macro.Rename(l, c.a, c.b)
		if e != api.OK || shown(got) != c.want || !slices.Equal(l, before) {
			t.Errorf("Rename of %s, %s and %s: %s, %v; want %s", c.s, c.a, c.b, shown(got), e, c.want)
		}
		for i, k := range got {
			if k.Line != l[i].Line || k.Col != l[i].Col {
				t.Errorf("Rename of %s: %v is at another place than %v", c.s, k, l[i])
			}
		}
		if again, e := macro.Rename(got, c.a, c.b); e != api.OK || !slices.Equal(again, l) {
			t.Errorf("Rename twice of %s: %s, %v", c.s, shown(again), e)
		}
	}
	long := strings.Repeat("x", 40)
	if l, e := macro.Rename(parsed(t, "a "+long), "a", long); e != api.OK || shown(l) != long+" a" {
		t.Errorf("Rename to a name of 40: %s, %v", shown(l), e)
	}
	for _, bad := range []string{"", long + "x", "a1", "1", "a b", "é", "a\n", "\"a\"", ".", "\x00"} {
		if l, e := macro.Rename(parsed(t, "a"), "a", bad); len(l) != 0 || e != api.ErrArg {
			t.Errorf("Rename to %q: %v, %v", bad, l, e)
		}
		if l, e := macro.Rename(nil, bad, "a"); len(l) != 0 || e != api.ErrArg {
			t.Errorf("Rename of %q: %v, %v", bad, l, e)
		}
	}
	// The result is new memory.
	l := parsed(t, "a b")
	got, _ := macro.Rename(l, "c", "d")
	got[0].Text = "z"
	if l[0].Text != "a" {
		t.Error("Rename shares memory")
	}
}

// P4.1 to P4.6: programs of which nobody has thought.
func TestRandom(t *testing.T) {
	r := newRandom()
	fine, faults := 0, map[api.Errno]int{}
	for range 8000 {
		l := parsed(t, r.program(8, 2))
		got, f := compare(t, l)
		faults[f.Code]++
		again(t, got)
		renamed(t, l, got, f, r.one("a", "m", "p", "q", "b"), r.one("n", "c", "m", "q", "new"))
		if f == (api.Fault{}) {
			fine++
		}
		if len(l) > 0 {
			i := r.IntN(len(l))
			compare(t, slices.Delete(slices.Clone(l), i, i+1))
			compare(t, l[:i])
			compare(t, slices.Insert(slices.Clone(l), i, parsed(t, r.name())...))
		}
	}
	if fine < 1000 || faults[api.ErrSyntax] < 1000 || faults[api.ErrEnd] < 100 {
		t.Errorf("too few of some faults: %v", faults)
	}
}

// again checks P4.4: Expand of what was put out is the same, if no TokName there is spelled as a word.
func again(t *testing.T, out tokens) {
	t.Helper()
	for _, k := range out {
		if k.Kind == api.TokName && lex.Word(k.Text) {
			return
		}
	}
	if l, f := macro.Expand(out); f != (api.Fault{}) || !slices.Equal(l, out) {
		t.Fatalf("Expand of %.500s: %.500s, %v", shown(out), shown(l), f)
	}
}

// renamed checks P4.6: Expand of Rename is Rename of Expand.
func renamed(t *testing.T, l, out tokens, f api.Fault, a, b string) {
	t.Helper()
	other, e := macro.Rename(l, a, b)
	if e != api.OK {
		t.Fatal(e)
	}
	got, g := macro.Expand(other)
	want, _ := macro.Rename(out, a, b)
	if g.Code != f.Code || g.Line != f.Line || g.Col != f.Col || !slices.Equal(got, want) {
		t.Fatalf("Expand of %.500s, %s and %s exchanged: %.500s, %v; want %.500s, %v", shown(l), a, b, shown(got), g, shown(want), f)
	}
}

// P4.4: what is put out is put out again.
func TestAgain(t *testing.T) {
	for _, s := range []string{"a fill 1 \"x\" ;", "begingroup save a,b; fill endgroup", "def m(expr x)=save x enddef let b=begingroup; b endgroup save a 1,2"} {
		out, f := compare(t, parsed(t, s))
		if f != (api.Fault{}) {
			t.Error(s, f)
		}
		again(t, out)
	}
}

// P4.5: without let and def the tokens are put out as they are.
func TestNoMacros(t *testing.T) {
	r := newRandom()
	for range 5000 {
		var b strings.Builder
		open := 0
		for range r.IntN(30) {
			switch k := r.IntN(9); {
			case k == 0:
				b.WriteString("begingroup ")
				open++
			case k == 1 && open > 0:
				b.WriteString("endgroup ")
				open--
			case k == 2:
				b.WriteString("save " + r.one("a", "b", "a,b", "x,b,expr") + r.one(" ", ";", "1"))
			default:
				b.WriteString(r.one("a ", "1 ", "fill ", "draw ", "<fill> ", "<save> a ", ";", "(", ",a ", "])", "\"def\"", "expr ", "text "))
			}
		}
		l := parsed(t, b.String()+strings.Repeat("endgroup ", open))
		want := slices.Clone(l)
		for i, k := range want {
			if k.Kind == api.TokName && lex.Word(k.Text) {
				want[i].Kind = api.TokWord
			}
		}
		if got, f := macro.Expand(l); f != (api.Fault{}) || !slices.Equal(got, want) {
			t.Fatalf("Expand of %s: %s, %v", shown(l), shown(got), f)
		}
	}
}

// P4.6: a program, and one with other names throughout.
func TestRenamed(t *testing.T) {
	for _, s := range []string{"def a(expr b)=b c enddef a(b) c", "def m(expr a,b)=a enddef a m(b,a)", "save a,b; let c=a; def b=a enddef b", "begingroup save a; def a=1 enddef a endgroup a b", "def a=a; enddef a"} {
		l := parsed(t, s)
		out, f := compare(t, l)
		for _, pair := range [][2]string{{"a", "b"}, {"a", "c"}, {"b", "new"}, {"m", "a"}, {"x", "y"}, {"c", "c"}} {
			renamed(t, l, out, f, pair[0], pair[1])
		}
	}
}
