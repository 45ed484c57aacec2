package syntax_test

import (
	"fmt"
	"math"
	"strings"
	"testing"

	"fleuron/api"
	"fleuron/expr"
	"fleuron/syntax"
)

// dump writes statements: the kind, the text and the column of each (and its line, if that is not 1), its expressions, ink and rules in brackets, its bodies in square ones.
func dump(l []api.Stmt) string {
	var out []string
	for _, s := range l {
		out = append(out, dumpOne(s))
	}
	return strings.Join(out, " ")
}

func dumpOne(s api.Stmt) string {
	kinds := []string{"equals", "assign", "declare", "save", "if", "for", "each", "forever", "exit", "group", "pickup", "fill", "draw", "clip", "unclip", "char", "lig", "message", "show"}
	out := fmt.Sprint("kind ", int(s.Op))
	if s.Op >= 0 && int(s.Op) < len(kinds) {
		out = kinds[s.Op]
	}
	if s.Text != "" {
		out += ":" + s.Text
	}
	out += "@" + place(s.Line, s.Col)
	if len(s.Exprs) > 0 {
		out += "(" + dumpAll(s.Exprs) + ")"
	}
	if len(s.Ink) > 0 {
		out += "ink(" + dumpAll(s.Ink) + ")"
	}
	for _, r := range s.Rules {
		out += "(" + r.Text + " " + dumpAll([]api.Expr{r.Next, r.Value}) + ")"
	}
	for _, b := range s.Bodies {
		out += "[" + dump(b) + "]"
	}
	return out
}

func place(line, col int) string {
	if line == 1 {
		return fmt.Sprint(col)
	}
	return fmt.Sprint(line, ":", col)
}

// dumpAll writes expressions: where each begins, and, if it has more than one node, how many.
func dumpAll(l []api.Expr) string {
	var out []string
	for _, x := range l {
		s := place(x.Line, x.Col)
		size, e := expr.Size(x)
		if e != api.OK {
			s = fmt.Sprintf("%#v", x)
		} else if size > 1 {
			s += fmt.Sprint("+", size)
		}
		out = append(out, s)
	}
	return strings.Join(out, " ")
}

// reading is a string, and what its tokens are.
type reading struct{ s, want string }

// reads compares what tokens are with what they have to be.
func reads(t *testing.T, cases []reading) {
	t.Helper()
	for _, c := range cases {
		l := parsed(t, c.s)
		if len(l) < 63 {
			compare(t, l)
		}
		if program, f := syntax.Program(l); f != (api.Fault{}) || dump(program) != c.want {
			t.Errorf("Program of %s:\n     %s, %v;\nwant %s", c.s, dump(program), f, c.want)
		}
	}
}

// failing is a string, and the fault that its tokens have.
type failing struct {
	s    string
	want api.Fault
}

// fails compares the fault of tokens with the one that they have to have.
func fails(t *testing.T, cases []failing) {
	t.Helper()
	for _, c := range cases {
		if program, f := syntax.Program(parsed(t, c.s)); f != c.want || len(program) > 0 {
			t.Errorf("Program of %.300s: %.300s, %v; want %v", c.s, dump(program), f, c.want)
		}
	}
}

// fault returns a fault at a token of the first line.
func fault(code api.Errno, name string, col int) api.Fault {
	return api.Fault{Code: code, Name: name, Line: 1, Col: col}
}

// wrong returns ErrSyntax at a token of the first line.
func wrong(name string, col int) api.Fault { return fault(api.ErrSyntax, name, col) }

// early returns ErrEnd at a token of the first line.
func early(col int) api.Fault { return fault(api.ErrEnd, "", col) }

// P6.1: the examples of the chapter.
func TestExamples(t *testing.T) {
	reads(t, []reading{
		{"if a=b: x=1; elseif c: fi; ", "if@1(4+3 21)[equals@9(9 11)][]"},
		{"for i=1 step 1 until 3: x[i]=i; endfor;", "for:i@1(7 14 22)[equals@25(25+2 30)]"},
		{"fill p also q withink 3;", "fill:fill@1(6 13)ink(23)"},
	})
	fails(t, []failing{{"x=y:=1;", wrong(":=", 4)}, {"x+1;", wrong(";", 4)}})
}

// P6.1: no statements, and empty ones.
func TestEmpty(t *testing.T) {
	reads(t, []reading{
		{"", ""}, {";", ""}, {";;;", ""}, {";;a=b;;", "equals@3(3 5)"}, {"begingroup endgroup;", "group@1[]"}, {"begingroup;;endgroup;", "group@1[]"}, {"if a:;else:;;fi;;", "if@1(4)[][]"},
		{"a=b;\n;;\n c=d ; ", "equals@1(1 3) equals@3:2(3:2 3:4)"},
	})
	fails(t, []failing{{"a=b", early(3)}, {";a=b;c=d", early(8)}, {"fi", wrong("fi", 1)}, {";endgroup", wrong("endgroup", 2)}})
}

// P6.1: equations and assignments.
func TestEquations(t *testing.T) {
	reads(t, []reading{
		{"a=b;", "equals@1(1 3)"}, {"a=b=c=d;", "equals@1(1 3 5 7)"}, {"(a=b)=(c=d);", "equals@1(2+3 8+3)"}, {"1=2;", "equals@1(1 3)"}, {"-a=b+c;", "equals@1(1+2 4+3)"}, {"\"s\"=a;", "equals@1(1 5)"},
		{"true=a;", "equals@1(1 6)"}, {"a..b{c}..cycle=d<e;", "equals@1(1+4 16+3)"}, {"(a)=b;", "equals@1(2 5)"}, {"point 1 of p=z;", "equals@1(1+3 14)"}, {"\n N_fill=N_fi;", "equals@2:2(2:2 2:9)"},
		{"a:=b;", "assign@1(1 4)"}, {"a1[b+c].d:=(e=f);", "assign@1(1+6 13+3)"}, {"a:=b;c:=d;", "assign@1(1 4) assign@6(6 9)"}, {"N_if . N_fi:=1;", "assign@1(1+2 14)"}, {"a[b,c]=d;", "equals@1(1+4 8)"},
	})
	fails(t, []failing{
		{"a;", wrong(";", 2)}, {"a:", wrong(":", 2)}, {"a b", wrong("b", 3)}, {"a=b:=c;", wrong(":=", 4)}, {"a:=b=c;", wrong("=", 5)}, {"a:=b:=c;", wrong(":=", 5)}, {"(a):=b;", wrong(":=", 4)}, {"a+b:=c;", wrong(":=", 4)},
		{"((a)):=b;", wrong(":=", 6)}, {"-a:=b;", wrong(":=", 3)}, {"a[b,c]:=d;", wrong(":=", 7)}, {"(a)1:=b;", wrong("1", 4)}, {"1:=2;", wrong(":=", 2)}, {"2a:=b;", wrong(":=", 3)}, {"(a,b):=c;", wrong(":=", 6)}, {"\"s\":=c;", wrong(":=", 4)},
		{"true:=c;", wrong(":=", 5)}, {"a..b:=c;", wrong(":=", 5)}, {"a=;", wrong(";", 3)}, {"a:=;", wrong(";", 4)}, {"=a;", wrong("=", 1)}, {":=a;", wrong(":=", 1)}, {"a==b;", wrong("=", 3)}, {"a=b c;", wrong("c", 5)}, {"a,b=c;", wrong(",", 2)},
		{"a=b,c;", wrong(",", 4)}, {"a", early(1)}, {"a=", early(2)}, {"a:=", early(2)}, {"a:=b", early(4)}, {"a=b;c", early(5)}, {"a/1/0=b", fault(api.ErrZero, "0", 5)}, {"a=999999999/.4;", fault(api.ErrRange, "999999999", 3)},
		{"a:=b", early(4)}, {"a[b:=c;", wrong(":=", 4)}, {"(a:=b)", wrong(":=", 3)}, {"a.b.:=c", wrong(":=", 5)},
	})
}

// P6.1: declarations and save.
func TestDeclarations(t *testing.T) {
	for _, word := range strings.Fields("numeric pair boolean string transform path pen") {
		n := len(word)
		reads(t, []reading{
			{word + " a;", fmt.Sprintf("declare:%s@1(%d)", word, n+2)},
			{word + " a,N_pair , z,a;", fmt.Sprintf("declare:%s@1(%d %d %d %d)", word, n+2, n+4, n+13, n+15)},
		})
		fails(t, []failing{
			{word + ";", wrong(";", n+1)}, {word + " 1;", wrong("1", n+2)}, {word + " a b;", wrong("b", n+4)}, {word + " a1;", wrong("1", n+3)}, {word + " a.b;", wrong(".", n+3)}, {word + " a,;", wrong(";", n+4)}, {word + " pair;", wrong("pair", n+2)},
			{word + " a,pen;", wrong("pen", n+4)}, {word + " (a);", wrong("(", n+2)}, {word + " a=b;", wrong("=", n+3)}, {word, early(1)}, {word + " a", early(n + 2)}, {word + " a,", early(n + 3)}, {word + " \"a\";", wrong("a", n+2)}, {word + " a:=b;", wrong(":=", n+3)},
		})
	}
	reads(t, []reading{{"save a;", "save@1(6)"}, {"save a,N_save,\nb;", "save@1(6 8 2:1)"}, {"save N_fill;fill N_fill;", "save@1(6) fill:fill@13(18)"}})
	fails(t, []failing{
		{"save;", wrong(";", 5)}, {"save fill;", wrong("fill", 6)}, {"save a,1;", wrong("1", 8)}, {"save a.b;", wrong(".", 7)}, {"save a b;", wrong("b", 8)}, {"save", early(1)}, {"save a", early(6)}, {"save a,", early(7)}, {"save a,\"b\";", wrong("b", 8)},
	})
	program, _ := syntax.Program(parsed(t, "pair N_pair,b;save N_pair;"))
	for _, x := range append(program[0].Exprs, program[1].Exprs...) {
		if x.Op != api.EVar || x.Text != "pair" && x.Text != "b" || len(x.Kids) > 0 {
			t.Errorf("%#v", x)
		}
	}
}

// P6.1: if, with its conditions.
func TestIf(t *testing.T) {
	reads(t, []reading{
		{"if a:fi;", "if@1(4)[]"}, {"if a:else:fi;", "if@1(4)[][]"}, {"if a:elseif b:fi;", "if@1(4 13)[][]"}, {"if a:elseif b:else:fi;", "if@1(4 13)[][][]"},
		{"if a:b=c;d=e;elseif f:g=h;else:i=j;k:=l;fi;", "if@1(4 21)[equals@6(6 8) equals@10(10 12)][equals@23(23 25)][equals@32(32 34) assign@36(36 39)]"},
		{"if a=b=c<d:elseif e=f:fi;", "if@1(4+7 19+3)[][]"}, {"if a:if b:fi;fi;", "if@1(4)[if@6(9)[]]"}, {"if a:elseif b:if c:else:fi;elseif d:fi;", "if@1(4 13 35)[][if@15(18)[][]][]"},
		{"if (a=b)and(c=d):fi;", "if@1(5+7)[]"}, {"if N_if:N_fi=N_else;fi;", "if@1(4)[equals@9(9 14)]"}, {"\nif a:\n fi;", "if@2:1(2:4)[]"},
	})
	fails(t, []failing{
		{"if;", wrong(";", 3)}, {"if:", wrong(":", 3)}, {"if a;", wrong(";", 5)}, {"if a=b;", wrong(";", 7)}, {"if a,b:", wrong(",", 5)}, {"if a:=b:", wrong(":=", 5)}, {"if a:b=c fi;", wrong("fi", 10)}, {"if a:fi fi;", wrong("fi", 9)}, {"if a:endfor", wrong("endfor", 6)},
		{"if a:else fi;", wrong("fi", 11)}, {"if a:else b:fi;", wrong("b", 11)}, {"if a:else:elseif b:fi;", wrong("elseif", 11)}, {"if a:else:else:fi;", wrong("else", 11)}, {"if a:elseif:fi;", wrong(":", 12)}, {"if a:elseif b fi;", wrong("fi", 15)}, {"else:", wrong("else", 1)},
		{"elseif a:", wrong("elseif", 1)}, {"fi;", wrong("fi", 1)}, {"if", early(1)}, {"if a", early(4)}, {"if a:", early(5)}, {"if a:b", early(6)}, {"if a:b=c", early(8)}, {"if a:b=c;", early(9)}, {"if a:else", early(6)}, {"if a:else:", early(10)}, {"if a:elseif", early(6)},
		{"if a:elseif b", early(13)}, {"if a:fi", early(6)}, {"if a:;;", early(7)}, {"if a:begingroup fi;", wrong("fi", 17)}, {"begingroup if a:endgroup;", wrong("endgroup", 17)}, {"if a[b=c]:", wrong("=", 7)}, {"if a..b=c:fi;", wrong("=", 8)},
	})
}

// P6.1: loops.
func TestLoops(t *testing.T) {
	reads(t, []reading{
		{"for i=1 step 2 until 3:endfor;", "for:i@1(7 14 22)[]"}, {"for i=a+b step -c until d[e,f]:g=h;i=j;endfor;", "for:i@1(7+3 16+2 25+4)[equals@32(32 34) equals@36(36 38)]"}, {"for i=1:endfor;", "each:i@1(7)[]"},
		{"for i=1,2,3:j=i;endfor;", "each:i@1(7 9 11)[equals@13(13 15)]"}, {"for N_for=(a=b),c..d:endfor;", "each:for@1(12+3 17+3)[]"}, {"for i=(1,2),3:endfor;", "each:i@1(7+3 13)[]"}, {"forever:endfor;", "forever@1[]"}, {"forever:a=b;exitif c;endfor;", "forever@1[equals@9(9 11) exit@13(20)]"},
		{"for i=1:for j=1 step 1 until 2:forever:endfor;endfor;endfor;", "each:i@1(7)[for:j@9(15 22 30)[forever@32[]]]"}, {"\n for i=1:endfor;\nforever:endfor;", "each:i@2:2(2:8)[] forever@3:1[]"},
		{"exitif a=b;", "exit@1(8+3)"}, {"exitif a;", "exit@1(8)"}, {"exitif (a,b)=c=d;", "exit@1(8+7)"},
	})
	fails(t, []failing{
		{"for;", wrong(";", 4)}, {"for 1=2:", wrong("1", 5)}, {"for if=2:", wrong("if", 5)}, {"for i1=2:", wrong("1", 6)}, {"for i.j=2:", wrong(".", 6)}, {"for (i)=2:", wrong("(", 5)}, {"for i:=2:", wrong(":=", 6)}, {"for i:", wrong(":", 6)}, {"for i=:", wrong("=:", 6)}, {"for i= :", wrong(":", 8)}, {"for i=,", wrong(",", 7)},
		{"for i=1;", wrong(";", 8)}, {"for i=a=b:", wrong("=", 8)}, {"for i=1,:", wrong(":", 9)}, {"for i=1,2 step 3", wrong("step", 11)}, {"for i=1 until 2", wrong("until", 9)}, {"for i=1 step 2:", wrong(":", 15)}, {"for i=1 step 2,3", wrong(",", 15)}, {"for i=1 step 2 until 3,4:", wrong(",", 23)},
		{"for i=1 step 2 until 3 step 4:", wrong("step", 24)}, {"for i=1 step 2 step 3", wrong("step", 16)}, {"for i=1 step a=b until", wrong("=", 15)}, {"for i=1 step a until b=c", wrong("=", 23)}, {"for i=1 step until", wrong("until", 14)}, {"for i=1:fi;", wrong("fi", 9)}, {"for i=1:a=b endfor", wrong("endfor", 13)}, {"endfor;", wrong("endfor", 1)},
		{"forever;", wrong(";", 8)}, {"forever a:", wrong("a", 9)}, {"forever:endgroup", wrong("endgroup", 9)}, {"forever:endfor endfor;", wrong("endfor", 16)}, {"for", early(1)}, {"for i", early(5)}, {"for i=", early(6)}, {"for i=1", early(7)}, {"for i=1,", early(8)}, {"for i=1 step", early(9)}, {"for i=1 step 1", early(14)},
		{"for i=1 step 1 until", early(16)}, {"for i=1 step 1 until 1", early(22)}, {"for i=1:", early(8)}, {"for i=1:endfor", early(9)}, {"forever", early(1)}, {"forever:", early(8)}, {"forever:endfor", early(9)}, {"forever:a=b;", early(12)}, {"exitif;", wrong(";", 7)}, {"exitif a,b;", wrong(",", 9)}, {"exitif a:=b;", wrong(":=", 9)},
		{"exitif", early(1)}, {"exitif a", early(8)}, {"exitif a b;", wrong("b", 10)}, {"until 1", wrong("until", 1)}, {"step 1", wrong("step", 1)},
	})
}

// P6.1: groups and chars.
func TestGroups(t *testing.T) {
	reads(t, []reading{
		{"begingroup a=b;c=d;endgroup;", "group@1[equals@12(12 14) equals@16(16 18)]"}, {"begingroup begingroup endgroup;endgroup;", "group@1[group@12[]]"}, {"a=b;begingroup save a;a=b;endgroup;a=b;", "equals@1(1 3) group@5[save@16(21) equals@23(23 25)] equals@36(36 38)"},
		{"beginchar(1,2,3,4)endchar;", "char@1(11 13 15 17)[]"}, {"beginchar(\"a\",b+c,(d),(e=f));g=h;endchar;", "char@1(11 15+3 20 24+3)[equals@30(30 32)]"}, {"beginchar((a,b),c[d,e],2(f),-g)beginchar(1,2,3,4)endchar;endchar;", "char@1(11+3 17+4 24+3 29+2)[char@32(42 44 46 48)[]]"},
	})
	fails(t, []failing{
		{"begingroup a=b endgroup", wrong("endgroup", 16)}, {"begingroup endchar;", wrong("endchar", 12)}, {"begingroup endgroup endgroup;", wrong("endgroup", 21)}, {"begingroup", early(1)}, {"begingroup a=b;", early(15)}, {"begingroup endgroup", early(12)}, {"begingroup:endgroup;", wrong(":", 11)}, {"endchar;", wrong("endchar", 1)},
		{"beginchar 1,2,3,4 endchar;", wrong("1", 11)}, {"beginchar(1,2,3)endchar;", wrong(")", 16)}, {"beginchar()endchar;", wrong(")", 11)}, {"beginchar(1)", wrong(")", 12)}, {"beginchar(1,2)", wrong(")", 14)}, {"beginchar(1,2,3,4,5)endchar;", wrong(",", 18)}, {"beginchar(1,2,3,4;endchar;", wrong(";", 18)}, {"beginchar(1,2,3,4]", wrong("]", 18)},
		{"beginchar(1;", wrong(";", 12)}, {"beginchar(1,,", wrong(",", 13)}, {"beginchar(1,2,3,4)endgroup;", wrong("endgroup", 19)}, {"beginchar(1,2,3,4)a=b endchar;", wrong("endchar", 23)}, {"beginchar", early(1)}, {"beginchar(", early(10)}, {"beginchar(1", early(11)}, {"beginchar(1,", early(12)}, {"beginchar(1,2,3", early(15)},
		{"beginchar(1,2,3,4", early(17)}, {"beginchar(1,2,3,4)", early(18)}, {"beginchar(1,2,3,4)endchar", early(19)}, {"beginchar;", wrong(";", 10)}, {"beginchar[1,2,3,4]", wrong("[", 10)},
		// These expressions are no conditions, though round brackets are about all of them.
		{"beginchar(a=b,1,2,3)endchar;", wrong("=", 12)}, {"beginchar(1,a=b,2,3)endchar;", wrong("=", 14)}, {"beginchar(1,2,a=b,3)endchar;", wrong("=", 16)}, {"beginchar(1,2,3,a=b)endchar;", wrong("=", 18)},
	})
}

// P6.1: what paints and clips.
func TestPainting(t *testing.T) {
	for _, word := range []string{"fill", "evenfill", "draw", "clip", "evenclip"} {
		kind, n := strings.TrimPrefix(word, "even"), len(word)
		reads(t, []reading{
			{word + " p;", fmt.Sprintf("%s:%s@1(%d)", kind, word, n+2)},
			{word + " p also q..r also N_also;", fmt.Sprintf("%s:%s@1(%d %d+3 %d)", kind, word, n+2, n+9, n+19)},
			{word + "(a,b)--cycle;", fmt.Sprintf("%s:%s@1(%d+4)", kind, word, n+1)},
			{word + " (a=b);", fmt.Sprintf("%s:%s@1(%d+3)", kind, word, n+3)},
		})
		fails(t, []failing{
			{word + ";", wrong(";", n+1)}, {word + " p,q;", wrong(",", n+3)}, {word + " p q;", wrong("q", n+4)}, {word + " p also;", wrong(";", n+8)}, {word + " also p;", wrong("also", n+2)}, {word + " p=q;", wrong("=", n+3)}, {word + " p:=q;", wrong(":=", n+3)}, {word, early(1)},
			{word + " p", early(n + 2)}, {word + " p also", early(n + 4)}, {word + " p also also q;", wrong("also", n+9)}, {word + " withink 3;", wrong("withink", n+2)},
		})
		ink := []failing{{word + " p withink;", wrong(";", n+11)}, {word + " p withink 1 also q;", wrong("also", n+14)}, {word + " p withink 1 withink 2;", wrong("withink", n+14)}, {word + " p withink 1,2;", wrong(",", n+13)}, {word + " p withink a=b;", wrong("=", n+13)}, {word + " p withink", early(n + 4)}, {word + " p withink 1", early(n + 12)}}
		if kind == "clip" {
			fails(t, []failing{{word + " p withink 3;", wrong("withink", n+4)}, {word + " p also q withink 3;", wrong("withink", n+11)}})
			continue
		}
		fails(t, ink)
		reads(t, []reading{
			{word + " p withink 3;", fmt.Sprintf("%s:%s@1(%d)ink(%d)", kind, word, n+2, n+12)},
			{word + " p also q withink 255a+b;", fmt.Sprintf("%s:%s@1(%d %d)ink(%d+5)", kind, word, n+2, n+9, n+19)},
		})
	}
	reads(t, []reading{{"unclip;", "unclip@1"}, {"\n unclip;unclip;", "unclip@2:2 unclip@2:9"}, {"pickup pencircle;", "pickup@1(8)"}, {"pickup pensquare scaled 2;", "pickup@1(8+3)"}, {"pickup (a=b);", "pickup@1(9+3)"}})
	fails(t, []failing{
		{"unclip p;", wrong("p", 8)}, {"unclip", early(1)}, {"unclip unclip;", wrong("unclip", 8)}, {"pickup;", wrong(";", 7)}, {"pickup a,b;", wrong(",", 9)}, {"pickup a=b;", wrong("=", 9)}, {"pickup pen;", wrong("pen", 8)}, {"pickup", early(1)}, {"pickup a", early(8)}, {"withink 3;", wrong("withink", 1)}, {"also p;", wrong("also", 1)},
	})
}

// P6.1: ligature programs.
func TestLigtable(t *testing.T) {
	for _, word := range []string{"kern", "=:", "|=:", "=:|", "|=:|"} {
		n := len(word)
		reads(t, []reading{
			{"ligtable a: b " + word + " c;", fmt.Sprintf("lig@1(10)(%s 13 %d)", word, n+16)},
			{"ligtable \"a\": 2b " + word + " -c, \"d\" =: (e=f);", fmt.Sprintf("lig@1(10)(%s 15+3 %d+2)(=: %d %d+3)", word, n+19, n+23, n+31)},
		})
		fails(t, []failing{
			{"ligtable a: b " + word + ";", wrong(";", n+15)}, {"ligtable a: b " + word + " c=d;", wrong("=", n+17)}, {"ligtable a: b " + word + " c " + word + " d;", wrong(word, n+18)}, {"ligtable a: b " + word, early(15)}, {"ligtable a: b " + word + " c", early(n + 16)}, {"ligtable a: b " + word + " c,;", wrong(";", n+18)},
			{"ligtable a: " + word + " c;", wrong(word, 13)}, {"ligtable a " + word + " b;", wrong(word, 12)}, {"ligtable a: b " + word + " c,", early(n + 17)}, {"ligtable a: b " + word + " c, d;", wrong(";", n+20)}, {"ligtable a: b " + word + " c: d " + word + " e;", wrong(":", n+17)},
		})
	}
	fails(t, []failing{
		{"ligtable;", wrong(";", 9)}, {"ligtable a;", wrong(";", 11)}, {"ligtable a:;", wrong(";", 12)}, {"ligtable:", wrong(":", 9)}, {"ligtable a,b:", wrong(",", 11)}, {"ligtable a: b;", wrong(";", 14)}, {"ligtable a: b c;", wrong("c", 15)}, {"ligtable a: b=c;", wrong("=", 14)}, {"ligtable a: b:=c;", wrong(":=", 14)},
		{"ligtable a: b(1);", wrong("(", 14)}, {"ligtable a: b 1;", wrong(";", 16)}, {"ligtable a: b|=:;", wrong(";", 17)}, {"ligtable a: b \"kern\" c;", wrong("kern", 15)}, {"ligtable a: b N_kern c;", wrong("kern", 15)}, {"ligtable", early(1)}, {"ligtable a", early(10)}, {"ligtable a:", early(11)}, {"ligtable a: b", early(13)}, {"kern 1", wrong("kern", 1)}, {"ligtable a=b: c=:d;", wrong("=", 11)},
		{"ligtable a: b=c=:d;", wrong("=", 14)}, {"ligtable a: b, c=:d;", wrong(",", 14)}, {"ligtable a: b fi", wrong("fi", 15)},
	})
}

// P6.1: what makes lines.
func TestLines(t *testing.T) {
	reads(t, []reading{
		{"message \"a\";", "message@1(9)"}, {"message (a=b);", "message@1(10+3)"}, {"message decimal 3&\"b\";", "message@1(9+4)"}, {"show a;", "show@1(6)"}, {"show a,(b,c);", "show@1(6 8+3)"}, {"show a,b+c,(d=e),f..g;", "show@1(6 8+3 13+3 18+3)"}, {"show \"s\",1/2;", "show@1(6 10)"},
	})
	fails(t, []failing{
		{"message;", wrong(";", 8)}, {"message a,b;", wrong(",", 10)}, {"message a=b;", wrong("=", 10)}, {"message \"a\" \"b\";", wrong("b", 13)}, {"message", early(1)}, {"message a", early(9)}, {"show;", wrong(";", 5)}, {"show a=b;", wrong("=", 7)}, {"show a,;", wrong(";", 8)}, {"show ,a;", wrong(",", 6)}, {"show a b;", wrong("b", 8)}, {"show", early(1)},
		{"show a", early(6)}, {"show a,", early(7)}, {"show fill;", wrong("fill", 6)}, {"show a,b:=c;", wrong(":=", 9)},
	})
}

// P6.1: each word and each sign, at the beginning of a program, behind a variable, and behind an equation.
func TestWords(t *testing.T) {
	begins := " if for forever exitif begingroup pickup fill evenfill draw clip evenclip unclip beginchar ligtable message show save numeric pair boolean string transform path pen ; ( + - true false identity pencircle pensquare not known unknown odd floor abs sqrt sind cosd angle dir length xpart ypart xxpart xypart yxpart yypart inverse decimal char code reverse point direction subpath precontrol postcontrol "
	goesOn := " = := < <= > >= <> & + - ++ +-+ or * / ** and mod dotprod scaled xscaled yscaled shifted rotated slanted transformed . .. -- { [ "
	all := strings.Fields(begins + goesOn + " def enddef let endgroup elseif else fi step until endfor cycle controls tension curl of withink also endchar kern =:| |=: =: |=:| : , ) ] }")
	for _, s := range all {
		for _, front := range []string{"", "a", "a=b", "a=b;", "begingroup "} {
			l := parsed(t, front+" "+s)
			compare(t, l)
			if _, f := syntax.Program(l); front == "" && strings.Contains(begins, " "+s+" ") == (f.Code == api.ErrSyntax) || front == "a" && strings.Contains(goesOn, " "+s+" ") == (f.Code == api.ErrSyntax) {
				t.Errorf("Program of %s: %v", written(l), f)
			}
		}
	}
}

// P6.1: positions are what tokens say, whatever that is.
func TestPlaces(t *testing.T) {
	l := parsed(t, "fill a;if b:c=d;fi;")
	for i := range l {
		l[i].Line, l[i].Col = math.MinInt+i, -i
	}
	program, f := syntax.Program(l)
	if f != (api.Fault{}) || program[0].Line != math.MinInt || program[0].Col != 0 || program[0].Exprs[0].Line != math.MinInt+1 || program[1].Line != math.MinInt+3 || program[1].Bodies[0][0].Col != -6 {
		t.Errorf("%#v, %v", program, f)
	}
	l[len(l)-1].Line, l[len(l)-1].Col = 0, 0
	if _, f := syntax.Program(append(l, parsed(t, "a")[0])[:len(l)-1]); f.Code != api.ErrEnd || f.Line != l[len(l)-2].Line {
		t.Error(f)
	}
	fails(t, []failing{{"a=b;\n\n fill\n  c\n", api.Fault{Code: api.ErrEnd, Line: 4, Col: 3}}, {"a=b;\n if c:\n  d e", api.Fault{Code: api.ErrSyntax, Name: "e", Line: 3, Col: 5}}})
}
