package lex_test

import (
	"math"
	"math/big"
	"slices"
	"strings"
	"testing"

	"fleuron/api"
	"fleuron/lex"
)

// P3.2: tokens as a string.
func TestText(t *testing.T) {
	for _, c := range []struct {
		l    tokens
		want string
	}{
		{nil, ""}, {tokens{}, ""}, {tokens{text("")}, `""`}, {tokens{name("x")}, "x"}, {tokens{name("fill")}, "fill"}, {tokens{word("fill")}, "fill"},
		{tokens{name("x"), numb(1, 1), sign("="), numb(1, 2), sign("*"), name("z")}, "x 1 = 0.5 * z"},
		{tokens{text("a b"), text(" "), text("% 1")}, `"a b" " " "% 1"`}, {tokens{sign("."), sign("."), sign("..")}, ". . .."},
		{tokens{at(name("a"), 7, 8), at(word("if"), -1, math.MaxInt)}, "a if"},
	} {
		if s, e := lex.Text(c.l); s != c.want || e != api.OK {
			t.Errorf("Text of %v is %q, %d; want %q", c.l, s, e, c.want)
		}
	}
}

// P3.2: numbers have the fewest digits.
func TestTextOfNumbers(t *testing.T) {
	for _, c := range []struct {
		p, q int64
		want string
	}{
		{0, 1, "0"}, {1, 1, "1"}, {10, 1, "10"}, {1, 2, "0.5"}, {3, 2, "1.5"}, {1, 4, "0.25"}, {1, 8, "0.125"}, {1, 32, "0.03125"}, {1, 5, "0.2"},
		{1, 10, "0.1"}, {201, 2, "100.5"},
		{1, 100000, "0.00001"}, {1, 10000, "0.0001"}, {1, 3125, "0.00032"}, {100001, 100000, "1.00001"}, {99999, 100000, "0.99999"}, {101, 10, "10.1"},
		{1001, 100, "10.01"},
		{api.MaxNum, 100000, "21474.83647"}, {999999999, 1, "999999999"}, {1999999999, 2, "999999999.5"}, {100000000, 1, "100000000"},
	} {
		if s, e := lex.Text(tokens{numb(c.p, c.q)}); s != c.want || e != api.OK {
			t.Errorf("Text of %d/%d is %q, %d; want %q", c.p, c.q, s, e, c.want)
		}
	}
	for q := int64(1); q <= 100000; q++ {
		if 100000%q != 0 {
			continue
		}
		for p := range int64(3 * q) {
			if v := big.NewRat(p, q); v.Denom().Int64() == q && (p < 300 || p%97 == 0) {
				want := strings.TrimSuffix(strings.TrimRight(v.FloatString(5), "0"), ".")
				if s, e := lex.Text(tokens{numb(p, q)}); s != want || e != api.OK {
					t.Fatalf("Text of %d/%d is %q, %d; want %q", p, q, s, e, want)
				}
			}
		}
	}
}

// P3.2: a token that is not valid, wherever it stands.
func TestTextArguments(t *testing.T) {
	for _, bad := range invalid() {
		for _, l := range []tokens{{bad}, {name("a"), bad}, {bad, name("a")}, {name("a"), bad, sign(";")}} {
			if s, e := lex.Text(l); s != "" || e != api.ErrArg {
				t.Errorf("Text of %.200v is %.80q, %d", l, s, e)
			}
		}
		// Of tokens that are not all valid there is no string that could be too long.
		if s, e := lex.Text(append(slices.Repeat(tokens{name("abc")}, api.MaxText), bad)); s != "" || e != api.ErrArg {
			t.Errorf("Text of many tokens and %.200v is %.80q, %d", bad, s, e)
		}
	}
}

// P3.2: strings up to MaxText bytes, and longer ones.
func TestTextLimits(t *testing.T) {
	for _, c := range []struct {
		l tokens
		n int
	}{
		{slices.Repeat(tokens{name("a")}, api.MaxText/2), api.MaxText - 1},
		{append(slices.Repeat(tokens{name("a")}, api.MaxText/2-1), sign(":=")), api.MaxText},
		{append(slices.Repeat(tokens{name("a")}, api.MaxText/2-1), text("")), api.MaxText},
		{append(slices.Repeat(tokens{name("a")}, api.MaxText/2-1), numb(10, 1)), api.MaxText},
		{slices.Repeat(tokens{text(strings.Repeat(" ", 97))}, api.MaxText/100), api.MaxText - 1},
	} {
		if s, e := lex.Text(c.l); len(s) != c.n || e != api.OK {
			t.Errorf("Text of %d tokens has %d bytes, %d; want %d", len(c.l), len(s), e, c.n)
		}
	}
	for _, l := range []tokens{
		slices.Repeat(tokens{name("a")}, api.MaxText/2+1),
		append(slices.Repeat(tokens{name("a")}, api.MaxText/2-1), name("abc")),
		append(slices.Repeat(tokens{name("a")}, api.MaxText/2-1), text("a")),
		append(slices.Repeat(tokens{name("a")}, api.MaxText/2-1), numb(1, 2)),
		slices.Repeat(tokens{numb(1, 3125)}, api.MaxText),
		slices.Repeat(tokens{text(strings.Repeat(" ", 100))}, 1<<18),
	} {
		if s, e := lex.Text(l); s != "" || e != api.ErrLimit {
			t.Errorf("Text of %d tokens has %d bytes, %d", len(l), len(s), e)
		}
	}
}

// P3.5: Tokens of Text of tokens without a TokWord are the same.
func TestTokensOfText(t *testing.T) {
	r := newRandom()
	for range 3000 {
		var l tokens
		for range r.IntN(60) {
			l = append(l, r.token())
		}
		s, e := lex.Text(l)
		if e != api.OK {
			t.Fatalf("Text of %s: %d", shown(l), e)
		}
		got, f := lex.Tokens(s)
		if f != (api.Fault{}) || !slices.Equal(bare(got), l) || !lex.Same(got, l) {
			t.Fatalf("Tokens of %q: %s, %v; want %s", s, shown(got), f, shown(l))
		}
	}
}

// P3.5: a TokWord comes back as a name.
func TestTokensOfWords(t *testing.T) {
	for _, w := range strings.Fields(documentedWords) {
		s, e := lex.Text(tokens{word(w), name(w)})
		if s != w+" "+w || e != api.OK || !slices.Equal(read(t, s), tokens{name(w), name(w)}) {
			t.Errorf("Text of the word %s is %q, %d", w, s, e)
		}
	}
}

// P3.5: Text of Tokens of a string, if it has no ErrLimit, has the tokens of that string.
func TestTextOfTokens(t *testing.T) {
	r := newRandom()
	for range 3000 {
		l, f := lex.Tokens(r.program(80))
		if f != (api.Fault{}) {
			continue
		}
		s, e := lex.Text(l)
		if e != api.OK || !slices.Equal(read(t, s), bare(l)) {
			t.Fatalf("Text of %s is %q, %d", shown(l), s, e)
		}
	}
	l, _ := lex.Tokens(strings.Repeat("x1", api.MaxText/2))
	if s, e := lex.Text(l); len(l) != api.MaxText || s != "" || e != api.ErrLimit {
		t.Errorf("Text of %d tokens has %d bytes, %d", len(l), len(s), e)
	}
}

// No argument is changed.
func TestTextKeepsTokens(t *testing.T) {
	l := tokens{at(name("a"), 1, 2), at(numb(1, 2), 3, 4), at(text("b"), 5, 6)}
	before := slices.Clone(l)
	lex.Text(l)
	lex.Same(l, bare(l))
	if !slices.Equal(l, before) {
		t.Errorf("%v became %v", before, l)
	}
}
