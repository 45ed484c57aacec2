package expr_test

import (
	"slices"
	"testing"

	"fleuron/api"
	"fleuron/expr"
	"fleuron/sample"
)

// P5.1: expressions are read from tokens that were written of them, with their places.
func TestWritten(t *testing.T) {
	r := newRandom()
	for range 20000 {
		w := &writer{random: r}
		x := r.Expr(1 + r.IntN(5))
		want := w.write(x, asCond)
		before := slices.Clone(w.l)
		got, f := expr.Cond(w.l)
		if f != (api.Fault{}) || dump(got, true) != dump(want, true) || !expr.Same(got, x) || !expr.Same(x, got) {
			t.Fatalf("Cond of %s\nis   %s, %v;\nwant %s", written(w.l), dump(got, true), f, dump(want, true))
		}
		if !slices.Equal(w.l, before) {
			t.Fatalf("the tokens %s were changed", written(before))
		}
		if !expr.Valid(got) || !expr.Valid(x) {
			t.Fatalf("%s is not valid", dump(x, false))
		}
		if y, f := expr.Cond(slices.Concat(parsed(t, "("), w.l, parsed(t, ")"))); f != (api.Fault{}) || dump(y, true) != dump(got, true) {
			t.Fatalf("Cond of ( %s )\nis   %s, %v;\nwant %s", written(w.l), dump(y, true), f, dump(got, true))
		}
	}
}

// P5.1: the same in places that are no conditions.
func TestWrittenOutside(t *testing.T) {
	r := newRandom()
	for range 5000 {
		w := &writer{random: r}
		want := w.write(r.Expr(1+r.IntN(5)), asExpr)
		got, f := expr.Parse(w.l)
		if f != (api.Fault{}) || dump(got, true) != dump(want, true) {
			t.Fatalf("Parse of %s\nis   %s, %v;\nwant %s", written(w.l), dump(got, true), f, dump(want, true))
		}
		if got, f := expr.Cond(w.l); f != (api.Fault{}) || dump(got, true) != dump(want, true) {
			t.Fatalf("Cond of %s\nis   %s, %v;\nwant %s", written(w.l), dump(got, true), f, dump(want, true))
		}
	}
}

// someTokens are one of each kind of tokens that an expression tells apart, and some that it does not know; no number is 0.
const someTokens = `a 1 "s" true sqrt - point of ( ) [ ] , / . = < .. -- { } cycle curl tension controls and ;`

// P5.1, P5.2, P5.5, P5.6, P5.7: all rows of a few tokens; no token is put behind a row that is no beginning.
func TestShortRows(t *testing.T) {
	const longest = 5
	some := parsed(t, someTokens)
	var all func(t *testing.T, l tokens)
	all = func(t *testing.T, l tokens) {
		if !compare(t, l) {
			return
		}
		laws(t, l)
		if len(l) == longest {
			return
		}
		for _, k := range some {
			k.Col = len(l) + 1
			all(t, append(slices.Clip(l), k))
		}
	}
	for _, k := range some {
		t.Run(written(tokens{k}), func(t *testing.T) {
			t.Parallel()
			k.Col = 1
			all(t, tokens{k})
		})
	}
}

// laws checks what holds for all tokens.
func laws(t *testing.T, l tokens) {
	t.Helper()
	for _, cond := range []bool{false, true} {
		x, n, f := expr.Next(l, cond)
		if n < 0 || n > len(l) || (n == 0) != (f.Code != api.OK) {
			t.Fatalf("Next of %s takes %d tokens, %v", written(l), n, f)
		}
		if f.Code == api.OK && !expr.Valid(x) {
			t.Fatalf("Next of %s is not valid: %s", written(l), dump(x, false))
		}
	}
	x, f := expr.Parse(l)
	y, g := expr.Cond(l)
	if f.Code == api.OK && (!expr.Valid(x) || g.Code != api.OK || dump(x, true) != dump(y, true)) {
		t.Fatalf("Parse of %s is %s, Cond %s, %v", written(l), dump(x, false), dump(y, false), g)
	}
	if g.Code == api.OK && !expr.Valid(y) {
		t.Fatalf("Cond of %s is not valid: %s", written(l), dump(y, false))
	}
	inner := slices.Concat(parsed(t, "("), l, parsed(t, ")"))
	z, h := expr.Parse(inner)
	if g.Code == api.OK && (h.Code != api.OK || dump(z, true) != dump(y, true)) {
		t.Fatalf("Cond of %s is %s; in brackets %s, %v", written(l), dump(y, true), dump(z, true), h)
	}
}

// P5.5, P5.6, P5.7: rows of tokens of which nobody has thought.
func TestRandomRows(t *testing.T) {
	r := newRandom()
	some := parsed(t, someTokens+` 0 2 b x + * ** & <= or scaled dir not .5 N_and fill := a 1 a ( ) ( ) [ ] , .. { }`)
	for range 60000 {
		var l tokens
		for range 1 + r.IntN(14) {
			k := some[r.IntN(len(some))]
			k.Line, k.Col = 1, len(l)+1
			l = append(l, k)
		}
		if zero := slices.ContainsFunc(l, func(k api.Token) bool { return k.Num == api.Num{P: 0, Q: 1} }); !zero {
			compare(t, l)
		}
		laws(t, l)
		for _, parse := range []func(tokens) (api.Expr, api.Fault){expr.Parse, expr.Cond} {
			_, f := parse(l)
			cut := r.IntN(len(l))
			_, g := parse(l[:cut])
			if g.Code != api.OK && g.Code != api.ErrEnd && g != f {
				t.Fatalf("the fault of %s is %v, of the first %d tokens %v", written(l), f, cut, g)
			}
		}
	}
}

// P5.5, P5.7: expressions in which tokens were lost, added or changed.
func TestDamagedRows(t *testing.T) {
	r := newRandom()
	some := parsed(t, someTokens+" b 2 + * of ,")
	for range 20000 {
		w := &writer{random: r}
		w.write(r.Expr(1+r.IntN(4)), asCond)
		l := w.l
		at := r.IntN(len(l))
		k := some[r.IntN(len(some))]
		k.Line, k.Col = l[at].Line, l[at].Col
		switch r.IntN(4) {
		case 0:
			l = slices.Delete(l, at, at+1)
		case 1:
			l = slices.Insert(l, at, k)
		case 2:
			l[at] = k
		case 3:
			l = l[:at]
		}
		// The grammar does not know quotients that are no numbers.
		if len(l) < 63 && !slices.ContainsFunc(l, func(k api.Token) bool {
			return k.Kind == api.TokNum && (k.Num.P == 0 || k.Num.P > 10000 || k.Num.Q > 10000)
		}) {
			compare(t, l)
		}
		laws(t, l)
	}
}

// P5.8: operations of one rule go to the left, in chains of any length.
func TestLeft(t *testing.T) {
	chain := func(ops []string) (string, string) {
		s, want := "a", "a"
		for _, op := range ops {
			s, want = s+" "+op+" b", "("+op+" "+want+" b)"
		}
		return s, want
	}
	r := newRandom()
	for range 500 {
		rule := []string{sample.Products, sample.Sums, sample.Comparisons}[r.IntN(3)]
		var ops []string
		for range 2 + r.IntN(20) {
			ops = append(ops, r.One(rule))
		}
		s, want := chain(ops)
		if x, f := expr.Parse(parsed(t, s)); f != (api.Fault{}) || dump(x, false) != want {
			t.Fatalf("Parse of %s: %s, %v; want %s", s, dump(x, false), f, want)
		}
	}
	reads(t, false, []reading{{"a - b - c", "(- (- a b) c)"}, {"a / b * c", "(* (/ a b) c)"}, {"2x**2", "(** (* 2 x) 2)"}})
}
