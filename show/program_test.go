package show_test

import (
	"slices"
	"strings"
	"testing"

	"fleuron/api"
	"fleuron/lex"
	"fleuron/sample"
	"fleuron/show"
	"fleuron/syntax"
	"fleuron/tree"
)

// extent is what the size of a program's string depends on.
type extent struct{ nodes, texts, statements, parts, within, lines int }

// most returns how many bytes there are at most.
func (e extent) most() int { return 60*e.nodes + e.texts + 80*e.statements + 40*e.parts + 4*e.within }

// measured returns the extent of statements that stand within some others.
func measured(l []api.Stmt, outer int) (e extent) {
	for _, s := range l {
		e.statements++
		e.lines++
		e.texts += len(s.Text)
		e.parts += len(s.Rules) + len(s.Bodies)
		e.within += outer * (1 + len(s.Rules) + len(s.Bodies))
		for _, r := range s.Rules {
			e.texts += len(r.Text)
		}
		tree.Expressions(s, func(l []api.Expr) {
			for _, x := range l {
				nodes, texts := bound(x)
				e.nodes += nodes
				e.texts += texts
			}
		})
		e.lines += len(s.Bodies) // behind each of them stands an elseif, an else, or the word that ends the statement
		for _, b := range s.Bodies {
			k := measured(b, outer+1)
			e.nodes, e.texts, e.statements, e.parts, e.within, e.lines = e.nodes+k.nodes, e.texts+k.texts, e.statements+k.statements, e.parts+k.parts, e.within+k.within, e.lines+k.lines
		}
	}
	return e
}

// checkedProgram returns the string of a valid program, after checking whether it has the form that it has to have, and the size.
func checkedProgram(t *testing.T, l []api.Stmt) string {
	t.Helper()
	before := shape(l)
	s, e := show.Program(l)
	if e != api.OK {
		t.Fatalf("Program of %.1000s: %v", before, e)
	}
	if shape(l) != before {
		t.Fatalf("Program has changed %.1000s", before)
	}
	m := measured(l, 0)
	if len(s) > m.most() {
		t.Fatalf("%s has %d bytes, %+v", s, len(s), m)
	}
	if strings.Count(s, "\n") != m.lines || s != "" && !strings.HasSuffix(s, "\n") {
		t.Fatalf("%s has not %d lines", s, m.lines)
	}
	layout(t, s)
	return s
}

// layout checks the lines of a program's string: how far in each one is, how it ends, and that there is a blank between each two tokens.
func layout(t *testing.T, s string) {
	t.Helper()
	within := 0
	for line := range strings.Lines(s) {
		line = strings.TrimSuffix(line, "\n")
		text := strings.TrimLeft(line, " ")
		blanks(t, text)
		first, _, _ := strings.Cut(text, " ")
		end := " ;"
		switch first {
		case "fi", "endfor", "endgroup", "endchar":
			within--
			if text != first+" ;" {
				t.Fatalf("the line %q in %s", line, s)
			}
		case "if", "for", "forever", "elseif", "else":
			end = " :"
		case "begingroup":
			end = "begingroup"
		case "beginchar":
			end = " )"
		}
		in := within
		if first == "elseif" || first == "else" {
			in--
		}
		if len(line)-len(text) != 2*in || !strings.HasSuffix(text, end) {
			t.Fatalf("the line %q in %s", line, s)
		}
		if slices.Contains([]string{"if", "for", "forever", "begingroup", "beginchar"}, first) {
			within++
		}
	}
}

// readsProgram checks whether the string of a program is read as it is, and written of that again.
func readsProgram(t *testing.T, l []api.Stmt) {
	t.Helper()
	s := checkedProgram(t, l)
	m, f := syntax.Read(s)
	if f.Code != api.OK || !syntax.Same(l, m) || shape(l) != shape(m) {
		t.Fatalf("Program of %.2000s is %s, which is read as %.2000s, %v", shape(l), s, shape(m), f)
	}
	if again, e := show.Program(m); e != api.OK || again != s {
		t.Fatalf("Program of what %s is read as is %s, %v", s, again, e)
	}
}

// P7.2, P7.5: the strings of statements of all kinds.
func TestStatements(t *testing.T) {
	for _, c := range []struct{ s, want string }{
		{"", ""},
		{";;", ""},
		{"if a=b: x=1; fi;", "if a = b :\n  x = 1 ;\nfi ;\n"},
		{"if a: fi; if b: fi;", "if a :\nfi ;\nif b :\nfi ;\n"},
		{"if a: elseif b=c: show d; elseif e: else: fi;", "if a :\nelseif b = c :\n  show d ;\nelseif e :\nelse :\nfi ;\n"},
		{"if a: else: show b; show c; fi;", "if a :\nelse :\n  show b ;\n  show c ;\nfi ;\n"},
		{"a=b;", "a = b ;\n"},
		{"a=b=c=d;", "a = b = c = d ;\n"},
		{"1=a;", "1 = a ;\n"},
		{"a:=b;", "a := b ;\n"},
		{"a1.b:=c;", "a 1 . b := c ;\n"},
		{"numeric a; pair b,c; boolean d; string e; transform f; path g; pen h;", "numeric a ;\npair b , c ;\nboolean d ;\nstring e ;\ntransform f ;\npath g ;\npen h ;\n"},
		{"save a;", "save a ;\n"},
		{"save a,b,c;", "save a , b , c ;\n"},
		{"for i=1 step 2 until 3: show i; endfor;", "for i = 1 step 2 until 3 :\n  show i ;\nendfor ;\n"},
		{"for i=1: endfor;", "for i = 1 :\nendfor ;\n"},
		{"for i=1,b,a: endfor;", "for i = 1 , b , a :\nendfor ;\n"},
		{"forever: exitif a=b; endfor;", "forever :\n  exitif a = b ;\nendfor ;\n"},
		{"exitif a..b;", "exitif a .. b ;\n"},
		{"begingroup endgroup;", "begingroup\nendgroup ;\n"},
		{"begingroup begingroup a=b; endgroup; c=d; endgroup;", "begingroup\n  begingroup\n    a = b ;\n  endgroup ;\n  c = d ;\nendgroup ;\n"},
		{"pickup a;", "pickup a ;\n"},
		{"fill a; evenfill b also c withink d;", "fill a ;\nevenfill b also c withink d ;\n"},
		{"draw a; draw a also b--c also d withink e+f;", "draw a ;\ndraw a also b -- c also d withink e + f ;\n"},
		{"clip a; evenclip a also b; unclip;", "clip a ;\nevenclip a also b ;\nunclip ;\n"},
		{"beginchar(1,2,3,4) endchar;", "beginchar ( 1 , 2 , 3 , 4 )\nendchar ;\n"},
		{"beginchar(a,b,c,d) unclip; endchar;", "beginchar ( a , b , c , d )\n  unclip ;\nendchar ;\n"},
		{"ligtable a: b kern c;", "ligtable a : b kern c ;\n"},
		{"ligtable a: b=:c, d|=:e, f=:|g, h|=:|i;", "ligtable a : b =: c , d |=: e , f =:| g , h |=:| i ;\n"},
		{`message "a  b";`, "message \"a  b\" ;\n"},
		{"show a; show a,b;", "show a ;\nshow a , b ;\n"},
		{"if a: for i=1: forever: begingroup beginchar(1,2,3,4) if a: else: fi; endchar; endgroup; endfor; endfor; else: unclip; fi; unclip;",
			"if a :\n  for i = 1 :\n    forever :\n      begingroup\n        beginchar ( 1 , 2 , 3 , 4 )\n          if a :\n          else :\n          fi ;\n        endchar ;\n      endgroup ;\n    endfor ;\n  endfor ;\nelse :\n  unclip ;\nfi ;\nunclip ;\n"},
	} {
		l := program(t, c.s)
		if got, e := show.Program(l); e != api.OK || got != c.want {
			t.Errorf("Program of %s: %s, %v; want %s", c.s, got, e, c.want)
		}
		readsProgram(t, l)
	}
	if s, e := show.Program(nil); e != api.OK || s != "" {
		t.Errorf("Program of nothing: %q, %v", s, e)
	}
}

// P7.2: conditions stand behind if, elseif and exitif alone.
func TestConditions(t *testing.T) {
	for s, want := range map[string]string{
		"if (a=b): elseif (c=d)=e: fi;": "if a = b :\nelseif c = d = e :\nfi ;\n",
		"exitif (a=b)<c;":               "exitif a = b < c ;\n",
	} {
		if got, e := show.Program(program(t, s)); e != api.OK || got != want {
			t.Errorf("Program of %s: %s, %v; want %s", s, got, e, want)
		}
	}
	for _, s := range []string{
		"(a=b)=c;", "a=(b=c);", "a:=(b=c);", "a[(b=c)]:=d;", "for i=(a=b): endfor;", "for i=a,(b=c): endfor;", "for i=(a=b) step (c=d) until (e=f): endfor;", "pickup (a=b);", "fill (a=b) also (c=d) withink (e=f);", "draw (a=b) also (c=d) withink (e=f);",
		"clip (a=b) also (c=d);", "beginchar((a=b),(c=d),(e=f),(g=h)) endchar;", "ligtable (a=b): (c=d) kern (e=f), (g=h)=:(i=j);", "message (a=b);", "show (a=b),(c=d);", "(a=b)<c=d;",
	} {
		readsProgram(t, program(t, s))
	}
}

// P7.2, P7.3, P7.4, P7.5: programs of which nobody has thought.
func TestRandomPrograms(t *testing.T) {
	t.Parallel()
	m := newMaker()
	for range 8000 {
		l := m.Program(1+m.Pick(5), sample.Parts{
			Tag:      func() api.Expr { return m.Variable(1) },
			Variable: func() api.Expr { return m.Variable(3) },
			Expr:     func() api.Expr { return m.Expr(1 + m.Pick(3)) },
		})
		if measured(l, 0).most() <= api.MaxText {
			readsProgram(t, l)
		}
	}
}

// P7.2: names that are spelled as words, wherever there are names; what is not spelled so is read as it is.
func TestNames(t *testing.T) {
	for _, s := range []string{
		"N=a;", "a=N;", "N1:=a;", "a:=N;", "a=b.N;", "a=b[N];", "a=b[c].N;", "a=-N;", "a=(b,N);", "a=b[c,N];", "a=N[b,c];", "a=b..N;", "a=b{N}..c;", "a=b..{curl N}c;", "a=b..tension N..c;", "a=b..controls d and N..c;", "a=N.N;",
		"numeric N;", "pen a,N,b;", "save N;", "save a,N;", "if N: fi;", "if a: elseif N: fi;", "if a: fill N; fi;", "if a: elseif b: fill N; fi;", "if a: else: fill N; fi;", "for N=1: endfor;", "for N=1 step 2 until 3: endfor;", "for i=N: endfor;", "for i=a,N: endfor;",
		"for i=N step 1 until 2: endfor;", "for i=1 step N until 2: endfor;", "for i=1 step 2 until N: endfor;", "for i=1: show N; endfor;", "forever: unclip; show N; endfor;", "exitif N;", "begingroup save N; endgroup;", "begingroup begingroup show N; endgroup; endgroup;", "pickup N;",
		"fill N;", "fill a also N;", "fill a withink N;", "draw N withink a;", "clip N;", "beginchar(N,2,3,4) endchar;", "beginchar(1,2,3,N) endchar;", "beginchar(1,2,3,4) show N; endchar;", "ligtable N: a kern b;", "ligtable a: N kern b;", "ligtable a: b kern N;", "ligtable a: b kern c, d=:N;",
		"message N;", "show N;", "show a,N;", "unclip; unclip; show N;",
	} {
		readsProgram(t, program(t, strings.ReplaceAll(s, "N", "Name")))
		for _, w := range []string{"fill", "abs", "yypart", "def", "enddef", "let", "and", "of", "true", "pair", "endgroup"} {
			l := program(t, strings.ReplaceAll(s, "N", "N_"+w))
			if got, e := show.Program(l); got != "" || e != api.ErrName {
				t.Errorf("Program of %s with %s: %q, %v", s, w, got, e)
			}
		}
	}
	for _, w := range lex.Words() {
		for _, s := range []string{"N", "a.N", "N.a", "N1", "-(a,b[N])", "a{N}..b", "a[b].N"} {
			for _, d := range sides() {
				reads(t, d, condition(t, s))
				reads(t, d, condition(t, strings.ReplaceAll(s, "N", "N_"+w+"x")))
				reads(t, d, condition(t, strings.ReplaceAll(s, "N", strings.ToUpper(w))))
				if got, e := d.write(condition(t, strings.ReplaceAll(s, "N", "N_"+w))); got != "" || e != api.ErrName {
					t.Errorf("%s of %s with %s: %q, %v", d.name, s, w, got, e)
				}
			}
		}
	}
	// Only names are names: a string may be spelled as a word.
	readsProgram(t, program(t, `message "fill"; show "def","let";`))
}
