package grammar_test

import (
	"testing"

	"fleuron/api"
	"fleuron/grammar"
	"fleuron/lex"
)

func TestMatch(t *testing.T) {
	g := grammar.New(`
		list = "(" { item } ")" end ;
		item = name [ "+" number ] | "" "," | list ;
		some = item { item } ;`)
	for _, c := range []struct {
		rule, s string
		ends    uint64
		stopped int
	}{
		{"list", "", 0, 0}, {"list", "()", 1 << 2, 2}, {"list", "(a+1,b)", 1 << 7, 7}, {"list", "(a+,", 0, 3}, {"list", "())", 0, 2}, {"list", "(a", 0, 2}, {"list", "a", 0, 0},
		{"item", "a+1", 1<<1 | 1<<3, 2}, {"some", "a,a+", 1<<1 | 1<<2 | 1<<3, 4}, {"some", "a+1(", 1<<1 | 1<<3, 4},
	} {
		l, _ := lex.Tokens(c.s)
		if ends, stopped := g.Match(c.rule, l); ends != c.ends || stopped != c.stopped {
			t.Errorf("%s of %s: %b, %d; want %b, %d", c.rule, c.s, ends, stopped, c.ends, c.stopped)
		}
	}
}

func TestFault(t *testing.T) {
	l, _ := lex.Tokens("a\n +")
	for at, want := range []api.Fault{{Code: api.ErrSyntax, Name: "a", Line: 1, Col: 1}, {Code: api.ErrSyntax, Name: "+", Line: 2, Col: 2}, {Code: api.ErrEnd, Line: 2, Col: 2}} {
		if f := grammar.Fault(l, at); f != want {
			t.Errorf("%v; want %v", f, want)
		}
	}
	if f := grammar.Fault(nil, 0); f != (api.Fault{Code: api.ErrEnd, Line: 1, Col: 1}) {
		t.Error(f)
	}
}

func TestTokens(t *testing.T) {
	l, f := grammar.Tokens("fill N_fill filled \"fill\" .5 :=")
	kinds := []api.TokKind{api.TokWord, api.TokName, api.TokName, api.TokText, api.TokNum, api.TokSign}
	texts := []string{"fill", "fill", "filled", "fill", "", ":="}
	for i, k := range l {
		if f.Code != api.OK || k.Kind != kinds[i] || k.Text != texts[i] {
			t.Errorf("%v, %v", k, f)
		}
	}
	if s := grammar.Written(append(l, api.Token{Kind: api.TokSign, Text: "?"})); s != `fill fill filled "fill" 0.5 := (no token: 4 "?")` {
		t.Error(s)
	}
	if _, f := grammar.Tokens("a #"); f != (api.Fault{Code: api.ErrLex, Name: "#", Line: 1, Col: 3}) {
		t.Error(f)
	}
}
