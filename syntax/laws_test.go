package syntax_test

import (
	"fmt"
	"slices"
	"strings"
	"testing"

	"fleuron/api"
	"fleuron/lex"
	"fleuron/macro"
	"fleuron/syntax"
)

// P6.1 and P6.5: programs are read from tokens that were written of them, with their places.
func TestWritten(t *testing.T) {
	r := newRandom(t)
	for range 3000 {
		w := &writer{random: r}
		program := r.program(1 + r.IntN(4))
		want := w.program(program)
		before := slices.Clone(w.l)
		got, f := syntax.Program(w.l)
		if f != (api.Fault{}) || fmt.Sprintf("%+v", got) != fmt.Sprintf("%+v", want) {
			t.Fatalf("Program of %s\nis   %s, %v;\nwant %s", written(w.l), dump(got), f, dump(want))
		}
		if !slices.Equal(w.l, before) {
			t.Fatalf("the tokens %s were changed", written(before))
		}
		if !syntax.Same(got, program) || !syntax.Same(program, got) || !syntax.Valid(got) || !syntax.Valid(program) {
			t.Fatalf("%s, read of %s, is not the same, or not valid", dump(got), written(w.l))
		}
	}
}

// someTokens are one of each kind of tokens that a program tells apart, and some that it does not know; no number is 0.
const someTokens = `a 1 - ( ) [ ] , ; = := : + .. numeric save if elseif else fi for step until endfor forever exitif begingroup endgroup pickup fill also withink clip unclip beginchar endchar ligtable kern =: message show cycle end`

// P6.1, P6.5: all rows of a few tokens; no token is put behind a row that is no beginning.
func TestShortRows(t *testing.T) {
	const longest = 5
	some := parsed(t, someTokens)
	var all func(t *testing.T, l tokens)
	all = func(t *testing.T, l tokens) {
		if !compare(t, l) || len(l) == longest {
			return
		}
		for _, k := range some {
			k.Col = len(l) + 1
			all(t, append(slices.Clip(l), k))
		}
	}
	for _, k := range some {
		t.Run(written(tokens{k}), func(t *testing.T) {
			t.Parallel()
			k.Col = 1
			all(t, tokens{k})
		})
	}
}

// damaged returns the tokens of a program in which some were lost, added, changed or moved.
func damaged(r random, l, some tokens) tokens {
	l = slices.Clone(l)
	for range r.IntN(3) {
		if len(l) == 0 {
			return l
		}
		at, from := r.IntN(len(l)), r.IntN(len(l))
		k := some[r.IntN(len(some))]
		switch r.IntN(5) {
		case 0:
			l = slices.Delete(l, at, at+1)
		case 1:
			l = slices.Insert(l, at, k)
		case 2:
			l[at] = k
		case 3:
			l = l[:at]
		case 4:
			l[at], l[from] = l[from], l[at]
		}
	}
	return numbered(l)
}

// P6.1, P6.5: programs in which tokens were lost, added, changed or moved.
func TestDamaged(t *testing.T) {
	r := newRandom(t)
	some := parsed(t, someTokens+" ; ; = : , fi endfor endgroup endchar else elseif b 2")
	count := 0
	for count < 8000 {
		w := &writer{random: r}
		w.program(r.program(1 + r.IntN(3)))
		if l := damaged(r, w.l, some); len(l) < 63 {
			compare(t, l)
			count++
		}
	}
}

// P6.6: two programs, one behind the other.
func TestParts(t *testing.T) {
	r := newRandom(t)
	for range 1000 {
		w := &writer{random: r}
		w.program(r.program(3))
		a := slices.Clone(w.l)
		w.program(r.program(3))
		b := w.l[len(a):]
		p, f := syntax.Program(a)
		q, g := syntax.Program(b)
		both, h := syntax.Program(w.l)
		if f.Code != api.OK || g.Code != api.OK || h.Code != api.OK || fmt.Sprintf("%+v", both) != fmt.Sprintf("%+v", append(p, q...)) {
			t.Fatalf("Program of %s and %s: %s, %v", written(a), written(b), dump(both), h)
		}
	}
	p, f := syntax.Program(slices.Concat(parsed(t, "a=b;"), parsed(t, ""), parsed(t, ";c:=d;")))
	if f != (api.Fault{}) || dump(p) != "equals@1(1 3) assign@2(2 5)" {
		t.Errorf("%s, %v", dump(p), f)
	}
}

// P6.7: a fault is that of the tokens up to it, with any tokens behind them.
func TestBeginnings(t *testing.T) {
	r := newRandom(t)
	some := parsed(t, someTokens+" ; 0 2 / / . .. tension controls { } 1 1 ) ]")
	for range 8000 {
		w := &writer{random: r}
		w.program(r.program(1 + r.IntN(4)))
		l := damaged(r, w.l, some)
		if r.IntN(4) == 0 {
			l = nil
			for range r.IntN(20) {
				l = append(l, some[r.IntN(len(some))])
			}
			l = numbered(l)
		}
		_, f := syntax.Program(l)
		longer := numbered(append(slices.Clip(l), some[r.IntN(len(some))], some[r.IntN(len(some))]))
		if _, g := syntax.Program(longer); f.Code != api.OK && f.Code != api.ErrEnd && f != g {
			t.Fatalf("the fault of %s is %v, with two tokens behind it %v", written(longer), f, g)
		}
		cut := r.IntN(len(l) + 1)
		if _, g := syntax.Program(l[:cut]); g.Code != api.OK && g.Code != api.ErrEnd && f != g {
			t.Fatalf("the fault of %s is %v, of the first %d tokens %v", written(l), f, cut, g)
		}
		if last := len(l); f.Code == api.ErrEnd && f.Col != max(last, 1) {
			t.Fatalf("the fault of %s is %v", written(l), f)
		}
	}
}

// wordless returns tokens without names that are spelled as words.
func wordless(l tokens) tokens {
	l = slices.Clone(l)
	for i, k := range l {
		if k.Kind == api.TokName && lex.Word(k.Text) {
			l[i].Text = "no" + k.Text
		}
	}
	return l
}

// P6.2 and P6.8: programs with macros, and what is expanded of them.
func TestMacros(t *testing.T) {
	r := newRandom(t)
	for range 1500 {
		w := &writer{random: r}
		w.program(r.program(1 + r.IntN(3)))
		l := wordless(w.l)
		want, f := syntax.Program(l)
		if f.Code != api.OK {
			t.Fatalf("Program of %s: %v", written(l), f)
		}
		front := "let paint=fill; let same=paint; "
		for i := range l {
			if l[i].Kind == api.TokWord && l[i].Text == "fill" {
				l[i].Text = []string{"fill", "paint", "same"}[r.IntN(3)]
				l[i].Kind = api.TokName
			}
		}
		for i := range r.IntN(4) {
			if len(l) == 0 {
				break
			}
			from := r.IntN(len(l))
			to := from + 1 + r.IntN(len(l)-from)
			if from > 0 && saves(l[from-1]) || saves(l[to-1]) {
				continue
			}
			name := "m" + strings.Repeat("q", i)
			front += "def " + name + " = " + written(l[from:to]) + " enddef; "
			l = slices.Concat(l[:from], tokens{{Kind: api.TokName, Text: name}}, l[to:])
		}
		s := front + written(l)
		got, f := syntax.Read(s)
		if f != (api.Fault{}) || shape(got) != shape(want) || !syntax.Valid(got) {
			t.Fatalf("Read of %s:\n%s, %v;\n%s", s, dump(got), f, dump(want))
		}
		again(t, s, got)
	}
}

// saves reports whether the next token may be a name of save, which is no macro.
func saves(k api.Token) bool { return k.Text == "save" || k.Text == "," }

// again compares what is read of a string with what is read of its expanded tokens.
func again(t *testing.T, s string, program []api.Stmt) {
	t.Helper()
	l, _ := lex.Tokens(s)
	l, f := macro.Expand(l)
	text, e := lex.Text(l)
	if f.Code != api.OK || e != api.OK && e != api.ErrLimit {
		t.Fatalf("Text of Expand of %s: %v, %v", s, f, e)
	}
	if p, f := syntax.Read(text); e == api.OK && (f != (api.Fault{}) || shape(p) != shape(program) || !syntax.Same(p, program)) {
		t.Fatalf("Read of %s is %s, of %s %s, %v", s, dump(program), text, dump(p), f)
	}
}

// P6.2: strings that are read.
func TestRead(t *testing.T) {
	for _, c := range []reading{
		{"", ""}, {" % nothing", ""}, {"a=b;% c=d;\ne=f;", "equals@1(1 3) equals@2:1(2:1 2:3)"}, {"def twice(expr x)=x+x enddef; y=twice(2)*3;", "equals@31(31 39+5)"},
		{"let also=endgroup; begingroup save fill; fill=1; also; fill p;", "group@20[save@31(36) equals@42(42 47)] fill:fill@56(61)"}, {"def loop(text b)=for i=1: b endfor enddef; loop(x=i;y=i;);", "each:i@18(24)[equals@49(49 51) equals@53(53 55)]"},
		{"let N=numeric; N if_;", "declare:numeric@16(18)"}, {"save if; if=1;", "save@1(6) equals@10(10 13)"}, {"let if=c; if=1;", "equals@11(11 14)"},
	} {
		program, f := syntax.Read(c.s)
		if f != (api.Fault{}) || dump(program) != c.want {
			t.Errorf("Read of %s:\n     %s, %v;\nwant %s", c.s, dump(program), f, c.want)
		}
	}
}

// P6.2: the faults of what is split into tokens come first, then those of what is expanded, then those of what is parsed.
func TestReadFaults(t *testing.T) {
	for _, c := range []failing{
		{"x=y:=1; #", fault(api.ErrLex, "#", 9)}, {"x=y:=1; def a=b enddef enddef #", fault(api.ErrLex, "#", 31)}, {"x=y:=1; enddef", fault(api.ErrSyntax, "enddef", 9)}, {"x=y:=1; begingroup", early(9)}, {"x=y:=1;", wrong(":=", 4)}, {"def a=a enddef; a", fault(api.ErrSteps, "a", 7)},
		{"def a=b", early(7)}, {"a", early(1)}, {"a=b", early(3)}, {"let fi=if; fi a:", early(16)}, {"def a=b:= enddef; c=a", wrong(":=", 8)}, {"def a(expr x)=x enddef; a(b,c);", wrong(",", 28)}, {"x=" + strings.Repeat("a", 41) + ";)", fault(api.ErrLimit, strings.Repeat("a", 40), 3)},
		{"endgroup;", wrong("endgroup", 1)}, {"save fill; fill a;", wrong("a", 17)}, {"1/0=a; \"", fault(api.ErrLex, "\"", 8)}, {"1/0=a; let a", early(12)}, {"1/0=a;", fault(api.ErrZero, "0", 3)}, {strings.Repeat("a", 20001), api.Fault{Code: api.ErrLimit}}, {strings.Repeat(" ", 20001), api.Fault{Code: api.ErrLimit}},
		{"a=3000000000;", fault(api.ErrLimit, "3000000000", 3)}, {"a=999999.99999;", fault(api.ErrRange, "999999.99999", 3)},
	} {
		if program, f := syntax.Read(c.s); f != c.want || len(program) > 0 {
			t.Errorf("Read of %.100s: %.300s, %v; want %v", c.s, dump(program), f, c.want)
		}
	}
	if program, f := syntax.Read(strings.Repeat("a=1;", 5000)); f != (api.Fault{}) || len(program) != 5000 {
		t.Errorf("%d statements, %v", len(program), f)
	}
	// 20,000 tokens of macros are a program, one more is none.
	s := "def a=;;;;;;;;;; enddef; def b=a a a a a a a a a a enddef; def c=b b b b b b b b b b enddef; "
	if program, f := syntax.Read(s + "c c b b b b b b b b b a a a a a a a a a;;;;;;;"); f != (api.Fault{}) || len(program) > 0 {
		t.Errorf("%s, %v", dump(program), f)
	}
	if program, f := syntax.Read(s + strings.Repeat("c ", 20)); f.Code != api.ErrLimit || len(program) > 0 {
		t.Errorf("%s, %v", dump(program), f)
	}
}
