package syntax_test

import (
	"slices"
	"strings"
	"testing"

	"fleuron/api"
	"fleuron/expr"
	"fleuron/syntax"
)

// P6.1: tokens that are not valid, wherever they stand, are ErrArg ahead of all other faults.
func TestInvalidTokens(t *testing.T) {
	for _, bad := range []api.Token{
		{}, {Kind: api.TokName, Text: "a1"}, {Kind: api.TokName, Text: strings.Repeat("a", 41)}, {Kind: api.TokWord, Text: "a"}, {Kind: api.TokSign, Text: "|"}, {Kind: api.TokSign, Text: "if"},
		{Kind: api.TokNum, Num: api.Num{P: -1, Q: 1}}, {Kind: api.TokNum, Num: api.Num{P: 1, Q: 3}}, {Kind: api.TokNum}, {Kind: api.TokText, Text: "\""}, {Kind: 5, Text: "a"}, {Kind: -1, Text: "a"}, {Kind: api.TokWord, Text: "fill", Num: api.Num{P: 1, Q: 1}},
	} {
		bad.Line, bad.Col = 1, 1
		for _, s := range []string{"", "a=b;", "a b", "1/0", "fi;", "if a:", "fill p", ";;"} {
			for at := range len(parsed(t, s)) + 1 {
				l := slices.Insert(parsed(t, s), at, bad)
				if program, f := syntax.Program(l); f != (api.Fault{Code: api.ErrArg}) || len(program) > 0 {
					t.Errorf("Program of %s: %s, %v", written(l), dump(program), f)
				}
			}
		}
	}
}

// levels are statements within which others stand, where ~ does.
var levels = []string{"if a:~;fi", "if a:elseif b:~;fi", "if a:else:~;fi", "for i=1 step 1 until 2:~;endfor", "for i=1,2:~;endfor", "forever:~;endfor", "begingroup ~;endgroup", "beginchar(1,2,3,4)~;endchar"}

// P6.1: 40 statements within each other, and one more, of one kind and of two.
func TestDepth(t *testing.T) {
	for _, level := range levels {
		for _, other := range levels {
			s := "a=b"
			for i := range api.MaxNest {
				s = strings.ReplaceAll([]string{level, other}[i%2], "~", s)
			}
			program, f := syntax.Program(parsed(t, s+";"))
			if count, e := syntax.Count(program); f != (api.Fault{}) || count != api.MaxNest+1 || e != api.OK {
				t.Errorf("Program of %s: %v; %d, %v", s, f, count, e)
			}
			l := parsed(t, strings.ReplaceAll(s, "a=b", "\n "+strings.ReplaceAll(level, "~", ""))+";")
			deepest := l[slices.IndexFunc(l, func(k api.Token) bool { return k.Line == 2 })]
			want := api.Fault{Code: api.ErrDeep, Name: deepest.Text, Line: 2, Col: 2}
			if program, f := syntax.Program(l); f != want || len(program) > 0 {
				t.Errorf("Program of %s: %v; want %v", written(l), f, want)
			}
			// It is too deep whatever stands behind it.
			if _, f := syntax.Program(l[:slices.Index(l, deepest)+1]); f != want {
				t.Errorf("Program of %s, up to its deepest statement: %v; want %v", written(l), f, want)
			}
		}
	}
}

// P6.1: what is not nested, and how deep expressions may be in statements.
func TestNotDeep(t *testing.T) {
	deep, ends := strings.Repeat("begingroup ", 39), strings.Repeat(";endgroup", 39)
	in, out := strings.Repeat("(", 40), strings.Repeat(")", 40)
	for _, level := range levels {
		one := strings.ReplaceAll(level, "~", "a=b")
		s := deep + strings.Repeat(one+";", 50) + strings.ReplaceAll(level, "~", "fill "+in+"a"+out) + ends + ";" + strings.Repeat(one+";", 50)
		if program, f := syntax.Program(parsed(t, s)); f != (api.Fault{}) || !syntax.Valid(program) {
			t.Errorf("Program of %.1000s: %v", s, f)
		}
		s = deep + strings.ReplaceAll(level, "~", "fill "+in+"\n(a)"+out) + ends + ";"
		if program, f := syntax.Program(parsed(t, s)); f != (api.Fault{Code: api.ErrDeep, Name: "(", Line: 2, Col: 1}) || len(program) > 0 {
			t.Errorf("Program of %.1000s: %v", s, f)
		}
	}
	// A word that begins nothing, and one that ends what it stands in, are never too deep.
	s := deep + "begingroup "
	fails(t, []failing{
		{s + "fi", wrong("fi", len(s)+1)}, {s + "elseif", wrong("elseif", len(s)+1)}, {s + "endgroup", early(len(s) + 1)}, {s + "save fill", wrong("fill", len(s)+6)}, {s + "unclip", early(len(s) + 1)}, {s + "if", fault(api.ErrDeep, "if", len(s)+1)}, {s + "for", fault(api.ErrDeep, "for", len(s)+1)},
		{s + "forever", fault(api.ErrDeep, "forever", len(s)+1)}, {s + "beginchar", fault(api.ErrDeep, "beginchar", len(s)+1)}, {s + "begingroup 1/0", fault(api.ErrDeep, "begingroup", len(s)+1)},
	})
}

// P6.1: tokens without end, in one statement and in many.
func TestLong(t *testing.T) {
	const count = 30000
	for _, c := range []struct {
		front, repeated, end string
		statements           int
	}{
		{"", "a=b;", "", count}, {"", ";", "", 0}, {"a=b", "=c", ";", 1}, {"show a", ",b", ";", 1}, {"fill a", " also b", ";", 1}, {"save a", ",b", ";", 1}, {"pen a", ",b", ";", 1}, {"for i=1", ",2", ":endfor;", 1}, {"a=b", "+c", ";", 1}, {"a=b", "..c", ";", 1}, {"a", "[b]", "=c;", 1},
		{"if a:", "elseif b:", "fi;", 1}, {"if a:", "elseif b:c=d;", "else:fi;", count + 1}, {"ligtable a:b=:c", ",b kern c", ";", 1}, {"", "begingroup endgroup;", "", count}, {"begingroup ", "if a:b=c;fi;", "endgroup;", 2*count + 1}, {"exitif a", "=b", ";", 1}, {"show (a)", ",(a,b)", ";", 1}, {"forever:", ";", "endfor;", 1},
	} {
		l := slices.Concat(parsed(t, c.front), slices.Repeat(parsed(t, c.repeated), count), parsed(t, c.end))
		program, f := syntax.Program(l)
		if n, e := syntax.Count(program); f != (api.Fault{}) || e != api.OK || n != c.statements || !syntax.Same(program, program) || !syntax.Valid(program) {
			t.Errorf("%s with many of %s: %v; %d, %v", c.front, c.repeated, f, n, e)
		}
		last := l[len(l)-1]
		last.Line, last.Col = 7, 8
		if program, f := syntax.Program(append(l, parsed(t, "fill")[0], last)); f.Code != api.ErrSyntax || f.Line != 7 || f.Col != 8 || len(program) > 0 {
			t.Errorf("%s with many of %s and fill %s: %v", c.front, c.repeated, last.Text, f)
		}
		if program, f := syntax.Program(l[:len(l)-1]); c.end != "" && (f.Code != api.ErrEnd || len(program) > 0) {
			t.Errorf("%s with many of %s without an end: %v", c.front, c.repeated, f)
		}
	}
	for _, s := range []string{"begingroup ", "if a:", "forever:", "for i=1:", "if a:else:"} {
		if _, f := syntax.Program(slices.Repeat(parsed(t, s), count)); f.Code != api.ErrDeep {
			t.Errorf("many of %s: %v", s, f)
		}
	}
}

// P6.1: expressions of each length, in every statement; their end is found wherever it is.
func TestLengths(t *testing.T) {
	for length := range 70 {
		chain := "a" + strings.Repeat("+a", length)
		half := "a" + strings.Repeat("+a", length) + "/1"
		for _, s := range []string{"~=b", "b=~", "b:=~", "exitif ~", "fill ~ also ~ withink ~", "show ~,~", "ligtable ~:~=:~", "for i=~ step ~ until ~:endfor", "beginchar(~,~,~,~)endchar", "if ~:elseif ~:fi", "message(~)", "pickup \"s\"+~"} {
			want, f := expr.Parse(parsed(t, chain))
			program, g := syntax.Program(parsed(t, strings.ReplaceAll(s, "~", chain)+";"))
			if f.Code != api.OK || g.Code != api.OK || len(program) != 1 {
				t.Fatalf("%s with %s: %v, %v", s, chain, f, g)
			}
			for _, x := range slices.Concat(program[0].Exprs, program[0].Ink) {
				if n, _ := expr.Size(x); n > 1 && !strings.Contains(s, "\"") && !expr.Same(x, want) && length > 0 {
					t.Errorf("%s with %s: %#v", s, chain, x)
				}
			}
			if _, g := syntax.Program(parsed(t, strings.ReplaceAll(s, "~", half+"/0"))); g.Code != api.ErrZero {
				t.Errorf("%s with %s/0: %v", s, half, g)
			}
			before, _, _ := strings.Cut(s, "~")
			for _, end := range []string{"", "/"} {
				l := parsed(t, before+half+end)
				if _, g := syntax.Program(l); g.Code != api.ErrEnd || g.Col != l[len(l)-1].Col {
					t.Errorf("%s: %v", written(l), g)
				}
			}
		}
	}
}

// Results share no memory with arguments, or with each other.
func TestShared(t *testing.T) {
	l := parsed(t, "if a=b:c=d=e;elseif f:save g,h;else:fill p also q withink 3;fi;ligtable a:b=:c,d kern e;for i=1,2:endfor;x1:=2;")
	before := slices.Clone(l)
	p, _ := syntax.Program(l)
	q, _ := syntax.Program(l)
	want := dump(q)
	var spoil func(l []api.Stmt)
	spoil = func(l []api.Stmt) {
		for i := range l {
			for k := range l[i].Exprs {
				l[i].Exprs[k].Kids = append(l[i].Exprs[k].Kids, api.Expr{})
				l[i].Exprs[k].Text = "spoilt"
				_ = append(l[i].Exprs[:k+1], api.Expr{Text: "spoilt"})
			}
			for k := range l[i].Rules {
				l[i].Rules[k] = api.Rule{}
			}
			for k := range l[i].Ink {
				l[i].Ink[k] = api.Expr{}
			}
			for k := range l[i].Bodies {
				spoil(l[i].Bodies[k])
				l[i].Bodies[k] = nil
			}
			l[i] = api.Stmt{}
		}
	}
	spoil(p)
	if !slices.Equal(l, before) || dump(q) != want {
		t.Errorf("%s became %s; the tokens %s", want, dump(q), written(l))
	}
	for i := range l {
		l[i] = api.Token{}
	}
	if dump(q) != want {
		t.Errorf("%s became %s", want, dump(q))
	}
}
