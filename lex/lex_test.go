package lex_test

import (
	"math"
	"math/big"
	"slices"
	"strings"
	"testing"

	"fleuron/api"
	"fleuron/lex"
	"fleuron/num"
)

// invalid returns tokens that are not valid, each for a reason of its own.
func invalid() tokens {
	long := strings.Repeat("x", 1<<20)
	l := tokens{
		name(""), name("a1"), name("1"), name("a b"), name(" a"), name("a "), name("a.b"), name("é"), name("a\x00"), name("a\n"), name("@"), name("["),
		name("`"), name("{"), name("^"), name("="),
		name(strings.Repeat("x", 41)), name(long), word(long), text(long), sign(long), name(strings.Repeat("x", 256+1)),
		word(""), word("x"), word("Fill"), word("FILL"), word("fills"), word("fil"), word("fill "), word(" fill"), word("enddefs"), word("abr"),
		word("yypart_"), word("yypar"), word("aaa"), word("zzz"), word("="),
		text("\""), text("a\"b"), text("\n"), text("a\tb"), text("\x1f"), text("\x7f"), text("é"), text("\x80"), text("\xff"),
		text(strings.Repeat("x", 101)), text(strings.Repeat(" ", 256)),
		sign(""), sign(" "), sign("|"), sign("|="), sign("= "), sign(" ="), sign("=:||"), sign("::"), sign("..."), sign("-+"), sign("!"), sign("#"),
		sign("a"), sign("1"), sign("\""), sign("%"), sign("=="), sign("=;"),
		{Kind: -1, Text: "x"}, {Kind: 5, Text: "x"}, {Kind: 5, Text: "="}, {Kind: 256, Text: "x"}, {Kind: 258, Num: api.Num{P: 1, Q: 1}},
		{Kind: math.MaxInt, Text: "x"}, {Kind: math.MinInt, Text: "x"},
		{}, {Kind: api.TokNum}, {Kind: 5}, {Kind: -1},
		{Kind: api.TokNum, Num: api.Num{P: 1, Q: 1}, Text: "1"}, {Kind: api.TokNum, Num: api.Num{P: 1, Q: 2}, Text: " "},
		numb(-1, 1), numb(-1, 2), numb(1, 3), numb(1, 7), numb(1, 64), numb(1, 15625), numb(1, 65536), numb(1, 200000), numb(1, 1000000),
		numb(1, api.MaxNum), numb(2, 3),
		numb(1000000000, 1), numb(api.MaxNum, 1), numb(2000000001, 2), numb(api.MaxNum, 2),
		numb(2, 2), numb(2, 4), numb(0, 2), numb(10, 100000), numb(0, 0), numb(1, 0), numb(1, -1), numb(-1, -2), numb(0, -1),
		numb(api.MaxNum+1, 100000), numb(1<<32+1, 1), numb(1, 1<<32+1), numb(math.MaxInt64, 1), numb(math.MinInt64, 1), numb(1, math.MinInt64),
		numb(1, math.MaxInt64), numb(math.MinInt64, -1), numb(math.MinInt64, math.MinInt64),
	}
	for _, t := range (tokens{name("x"), word("fill"), text("x"), text(""), sign("=")}) {
		for _, n := range []api.Num{{P: 0, Q: 1}, {P: 1, Q: 0}, {P: 1, Q: 2}, {P: -1, Q: -1}} {
			t.Num = n
			l = append(l, t)
		}
	}
	return l
}

// P3.3: tokens that are valid.
func TestValid(t *testing.T) {
	for _, k := range (tokens{
		name("a"), name("z"), name("A"), name("Z"), name("_"), name("azAZ_"), name("fill"), name(strings.Repeat("x", 40)), word("fill"), word("def"),
		text(""), text(" "), text("~"), text("!#"), text("a = % 1"), text(strings.Repeat("x", 100)), sign("="), sign("|=:|"), sign("."),
		numb(0, 1), numb(1, 1), numb(1, 2), numb(1, 100000), numb(1, 32), numb(1, 3125), numb(3, 50000), numb(999999999, 1), numb(1999999999, 2),
		numb(api.MaxNum, 100000), numb(api.MaxNum, 4),
	}) {
		for _, position := range []int{0, 1, -1, math.MaxInt, math.MinInt} {
			if !lex.Valid(at(k, position, -position)) {
				t.Errorf("%v at %d is not valid", k, position)
			}
		}
	}
	for _, k := range invalid() {
		if lex.Valid(k) || lex.Valid(at(k, 1, 1)) {
			t.Errorf("%.200v is valid", k)
		}
	}
}

// P3.3: names and strings of every byte.
func TestValidBytes(t *testing.T) {
	for c := range 256 {
		for _, s := range []string{string([]byte{byte(c)}), "a" + string([]byte{byte(c)}), string([]byte{byte(c)}) + "a"} {
			if want := names.FindString(s) == s; lex.Valid(name(s)) != want {
				t.Errorf("the name %q: %v", s, !want)
			}
			if want := good.MatchString(`"` + s + `"`); lex.Valid(text(s)) != want {
				t.Errorf("the string %q: %v", s, !want)
			}
		}
	}
}

// P3.3: a number is valid exactly if it is num.Decimal of some string.
func TestValidNumbers(t *testing.T) {
	r := newRandom()
	bottoms := []int64{1, 2, 3, 4, 5, 6, 8, 10, 16, 20, 25, 32, 64, 128, 125, 625, 3125, 15625, 1000, 10000, 50000, 99999, 100000, 100001, 200000, 500000, 1000000, 65536, 781250}
	for range 30000 {
		v := big.NewRat(r.Int64N([]int64{10, 1000, 100000, api.MaxNum + 1}[r.IntN(4)]), bottoms[r.IntN(len(bottoms))])
		back, e := num.Decimal(strings.TrimSuffix(v.FloatString(5), ".00000"))
		a := api.Num{P: v.Num().Int64(), Q: v.Denom().Int64()}
		if want := e == api.OK && back == a; lex.Valid(numb(a.P, a.Q)) != want {
			t.Fatalf("the number %v: %v", a, !want)
		}
	}
}

// P3.3: tokens that are the same, but for their positions.
func TestSame(t *testing.T) {
	some := tokens{name("a"), word("if"), numb(1, 2), text("a"), sign("="), {}, {Kind: -7, Text: "\xff", Num: api.Num{P: 3}}}
	moved := slices.Clone(some)
	for i := range moved {
		moved[i] = at(moved[i], i, -i)
	}
	for n := range len(some) + 1 {
		if !lex.Same(some[:n], moved[:n]) || !lex.Same(moved[:n], some[:n]) {
			t.Errorf("%v and %v are not the same", some[:n], moved[:n])
		}
		if n > 0 && (lex.Same(some[:n], some[:n-1]) || lex.Same(some[:n-1], some[:n]) || lex.Same(some[1:n], some[:n-1]) && n > 1) {
			t.Errorf("%v and a part of it are the same", some[:n])
		}
	}
	if !lex.Same(nil, tokens{}) || !lex.Same(tokens{}, nil) || !lex.Same(nil, nil) || lex.Same(nil, some) || lex.Same(some, nil) {
		t.Error("no tokens are not the same as none")
	}
}

// P3.3: tokens that differ in one field.
func TestSameDiffers(t *testing.T) {
	one := api.Token{Kind: api.TokName, Text: "a", Num: api.Num{P: 1, Q: 2}, Line: 3, Col: 4}
	for _, other := range []api.Token{
		{Kind: api.TokWord, Text: "a", Num: one.Num, Line: 3, Col: 4}, {Kind: api.TokName, Text: "b", Num: one.Num, Line: 3, Col: 4},
		{Kind: api.TokName, Text: "", Num: one.Num, Line: 3, Col: 4},
		{Kind: api.TokName, Text: "a", Num: api.Num{P: 2, Q: 2}, Line: 3, Col: 4},
		{Kind: api.TokName, Text: "a", Num: api.Num{P: 1, Q: 1}, Line: 3, Col: 4}, {Kind: api.TokName, Text: "A", Num: one.Num, Line: 3, Col: 4},
	} {
		for _, l := range [][2]tokens{{{one}, {other}}, {{name("x"), one}, {name("x"), other}}, {{one, name("x")}, {other, name("x")}}} {
			if lex.Same(l[0], l[1]) || lex.Same(l[1], l[0]) {
				t.Errorf("%v and %v are the same", l[0], l[1])
			}
		}
	}
	if !lex.Same(tokens{one}, tokens{at(one, 9, 4)}) || !lex.Same(tokens{one}, tokens{at(one, 3, 9)}) {
		t.Error("a position makes a difference")
	}
}

// P3.4: the words, rising, as a slice of its own each time.
func TestWords(t *testing.T) {
	want := strings.Fields(documentedWords)
	slices.Sort(want)
	got := lex.Words()
	if !slices.Equal(got, want) {
		t.Fatalf("the words are %v; want %v", got, want)
	}
	for i := range got {
		got[i] = "x"
	}
	if again := lex.Words(); !slices.Equal(again, want) || lex.Word("x") || !lex.Word("yypart") {
		t.Errorf("the words became %v", again)
	}
	_ = append(lex.Words(), "x")
	if again := lex.Words(); !slices.Equal(again, want) {
		t.Errorf("the words became %v", again)
	}
}

// P3.4: what is a word, and what is a sign.
func TestWordSign(t *testing.T) {
	words, signs := strings.Fields(documentedWords), strings.Fields(documentedSigns)
	try := func(s string) {
		if got := lex.Word(s); got != slices.Contains(words, s) {
			t.Errorf("Word of %.80q is %v", s, got)
		}
		if got := lex.Sign(s); got != slices.Contains(signs, s) {
			t.Errorf("Sign of %.80q is %v", s, got)
		}
	}
	for _, s := range append(slices.Concat(words, signs), "", " ", "\x00", "\xff", "é", "|", "x", "z", "TokWord", strings.Repeat("=", 1<<20)) {
		try(s)
		try(strings.ToUpper(s))
		for c := range 256 {
			try(s + string([]byte{byte(c)}))
			try(string([]byte{byte(c)}) + s)
		}
		for i := range len(s) {
			if i < 100 {
				try(s[:i])
				try(s[i:])
			}
		}
	}
}
