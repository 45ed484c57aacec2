package cursor_test

import (
	"testing"

	"fleuron/api"
	"fleuron/cursor"
)

// tokens returns a name, a word, a sign, a number and a string.
func tokens() []api.Token {
	return []api.Token{
		{Kind: api.TokName, Text: "fill", Line: 1, Col: 2}, {Kind: api.TokWord, Text: "fill", Line: 3, Col: 4}, {Kind: api.TokSign, Text: ":=", Line: 5, Col: 6},
		{Kind: api.TokNum, Num: api.Num{P: 3, Q: 2}, Line: 7, Col: 8}, {Kind: api.TokText, Text: "fill", Line: 9, Col: 10},
	}
}

// faultOf returns the fault with which a call panics.
func faultOf(call func()) (f api.Fault) {
	defer func() {
		if caught, ok := recover().(api.Fault); ok {
			f = caught
		}
	}()
	call()
	return api.Fault{}
}

func TestValid(t *testing.T) {
	if !cursor.Valid(nil) || !cursor.Valid(tokens()) {
		t.Error("tokens are not valid")
	}
	for i := range tokens() {
		l := tokens()
		l[i].Text = "%"
		if l[i].Kind != api.TokText && cursor.Valid(l) {
			t.Error(l)
		}
	}
}

func TestFault(t *testing.T) {
	l := tokens()
	for i, name := range []string{"fill", "fill", ":=", "1.5", "fill"} {
		want := api.Fault{Code: api.ErrDeep, Name: name, Line: l[i].Line, Col: l[i].Col}
		if f := cursor.Fault(api.ErrDeep, l[i]); f != want {
			t.Errorf("%v; want %v", f, want)
		}
		if f := faultOf(func() { cursor.Fail(api.ErrDeep, l[i]) }); f != want {
			t.Errorf("%v; want %v", f, want)
		}
	}
}

func TestTake(t *testing.T) {
	c := cursor.Cursor{Tokens: tokens()}
	for i, ahead := range []string{"", "fill", ":=", "", ""} {
		if c.At != i || c.Ahead() != ahead || c.Next() != tokens()[i] || c.At != i || c.Take() != tokens()[i] {
			t.Error(i, c.At, c.Ahead())
		}
	}
	early := api.Fault{Code: api.ErrEnd, Line: 9, Col: 10}
	for _, call := range []func(){func() { c.Next() }, func() { c.Take() }, func() { c.Name() }, func() { c.Demand(";") }} {
		if f := faultOf(call); f != early || c.At != 5 || c.Ahead() != "" || c.Skip(";") {
			t.Error(f, c.At)
		}
	}
	c = cursor.Cursor{}
	if f := faultOf(func() { c.Take() }); f != (api.Fault{Code: api.ErrEnd, Line: 1, Col: 1}) {
		t.Error(f)
	}
}

func TestName(t *testing.T) {
	for i, k := range tokens() {
		c := cursor.Cursor{Tokens: tokens(), At: i}
		want := api.Fault{}
		if i > 0 {
			want = cursor.Fault(api.ErrSyntax, k)
		}
		if f := faultOf(func() { c.Name() }); f != want {
			t.Errorf("%v; want %v", f, want)
		}
	}
}

func TestSkipDemand(t *testing.T) {
	for i, k := range tokens() {
		for _, s := range []string{"fill", ":=", "="} {
			c := cursor.Cursor{Tokens: tokens(), At: i}
			d := c
			fits := (k.Kind == api.TokWord || k.Kind == api.TokSign) && k.Text == s
			if c.Skip(s) != fits || c.At != i && !fits || c.At != i+1 && fits {
				t.Error(i, s, c.At)
			}
			want := api.Fault{}
			if !fits {
				want = cursor.Fault(api.ErrSyntax, k)
			}
			if f := faultOf(func() { d.Demand(s) }); f != want || fits && d.At != i+1 {
				t.Error(i, s, f, d.At)
			}
		}
	}
}
