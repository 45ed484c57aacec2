package lex_test

import (
	"fmt"
	"math/big"
	"math/rand/v2"
	"regexp"
	"slices"
	"strings"
	"testing"

	"fleuron/api"
	"fleuron/lex"
)

// documentedWords are the words as DOC.md lists them.
const documentedWords = "def enddef let begingroup endgroup save if elseif else fi for step until endfor forever exitif " +
	"numeric pair boolean string transform path pen cycle controls and tension curl true false identity pencircle pensquare " +
	"not known unknown odd floor abs sqrt sind cosd angle dir length xpart ypart xxpart xypart yxpart yypart inverse decimal char code reverse " +
	"point of direction subpath precontrol postcontrol scaled xscaled yscaled shifted rotated slanted transformed dotprod or mod " +
	"pickup fill evenfill draw withink also clip evenclip unclip beginchar endchar ligtable kern message show"

// documentedSigns are the signs as DOC.md lists them.
const documentedSigns = ":= =:| =: |=:| |=: .. -- ++ +-+ ** <= >= <> = : ; , ( ) [ ] { } + - * / < > & ."

// A token without its position.
func name(s string) api.Token   { return api.Token{Kind: api.TokName, Text: s} }
func word(s string) api.Token   { return api.Token{Kind: api.TokWord, Text: s} }
func text(s string) api.Token   { return api.Token{Kind: api.TokText, Text: s} }
func sign(s string) api.Token   { return api.Token{Kind: api.TokSign, Text: s} }
func numb(p, q int64) api.Token { return api.Token{Kind: api.TokNum, Num: api.Num{P: p, Q: q}} }

type tokens = []api.Token

// at returns a token with a position.
func at(t api.Token, line, col int) api.Token {
	t.Line, t.Col = line, col
	return t
}

// shown writes tokens with blanks between them: names as they are, numbers as quotients, signs in back quotes.
func shown(l tokens) string {
	var out []string
	for _, t := range l {
		switch t {
		case at(name(t.Text), t.Line, t.Col):
			out = append(out, t.Text)
		case at(numb(t.Num.P, t.Num.Q), t.Line, t.Col):
			out = append(out, fmt.Sprint(t.Num.P, "/", t.Num.Q))
		case at(text(t.Text), t.Line, t.Col):
			out = append(out, `"`+t.Text+`"`)
		case at(sign(t.Text), t.Line, t.Col):
			out = append(out, "`"+t.Text+"`")
		default:
			out = append(out, fmt.Sprintf("%#v", t))
		}
	}
	return strings.Join(out, " ")
}

// bare returns tokens without their positions.
func bare(l tokens) tokens {
	var out tokens
	for _, t := range l {
		out = append(out, at(t, 0, 0))
	}
	return out
}

// read returns the bare tokens of a string that has no fault.
func read(t *testing.T, s string) tokens {
	t.Helper()
	l, f := lex.Tokens(s)
	if f != (api.Fault{}) {
		t.Fatalf("Tokens of %.200q: %v", s, f)
	}
	return bare(l)
}

var (
	blanks  = regexp.MustCompile(`^(?:[ \t\r\n]|%[^\n]*)*`)
	names   = regexp.MustCompile(`^[A-Za-z_]+`)
	numbers = regexp.MustCompile(`^(?:[0-9]+\.[0-9]+|[0-9]+|\.[0-9]+)`)
	few     = regexp.MustCompile(`^[0-9]{0,9}(?:\.[0-9]{1,5})?$`)
	strs    = regexp.MustCompile(`^"[^"]*"`)
	good    = regexp.MustCompile(`^"[ !#-~]*"$`)
)

// shape returns the token with which a string begins, as it stands, and its kind; it is empty if there is none.
func shape(s string) (string, api.TokKind) {
	if m := names.FindString(s); m != "" {
		return m, api.TokName
	}
	if m := numbers.FindString(s); m != "" {
		return m, api.TokNum
	}
	if m := strs.FindString(s); m != "" {
		return m, api.TokText
	}
	for n := min(len(s), 4); n > 0; n-- {
		if slices.Contains(strings.Fields(documentedSigns), s[:n]) {
			return s[:n], api.TokSign
		}
	}
	return "", 0
}

// made returns the token that stands in a string as m.
func made(m string, kind api.TokKind) (api.Token, api.Errno) {
	switch kind {
	case api.TokName:
		if len(m) > 40 {
			return api.Token{}, api.ErrLimit
		}
		return name(m), api.OK
	case api.TokNum:
		if !few.MatchString(m) {
			return api.Token{}, api.ErrLimit
		}
		v, _ := new(big.Rat).SetString("0" + m)
		if v.Num().Cmp(big.NewInt(api.MaxNum)) > 0 {
			return api.Token{}, api.ErrRange
		}
		return numb(v.Num().Int64(), v.Denom().Int64()), api.OK
	case api.TokText:
		if !good.MatchString(m) {
			return api.Token{}, api.ErrLex
		}
		if len(m) > 102 {
			return api.Token{}, api.ErrLimit
		}
		return text(m[1 : len(m)-1]), api.OK
	}
	return sign(m), api.OK
}

// tokensOf returns what Tokens of a string that is not too long has to give.
func tokensOf(s string) (tokens, api.Fault) {
	var l tokens
	rest := s
	for {
		rest = rest[len(blanks.FindString(rest)):]
		if rest == "" {
			return l, api.Fault{}
		}
		before := s[:len(s)-len(rest)]
		line, col := 1+strings.Count(before, "\n"), len(before)-strings.LastIndex(before, "\n")
		m, kind := shape(rest)
		if m == "" {
			return nil, api.Fault{Code: api.ErrLex, Name: rest[:1], Line: line, Col: col}
		}
		t, e := made(m, kind)
		if e == api.ErrLex {
			return nil, api.Fault{Code: e, Name: m[:1], Line: line, Col: col}
		}
		if e != api.OK {
			return nil, api.Fault{Code: e, Name: m[:min(len(m), 40)], Line: line, Col: col}
		}
		l = append(l, at(t, line, col))
		rest = rest[len(m):]
	}
}

// compare compares Tokens of a string with what it has to give.
func compare(t *testing.T, s string) {
	t.Helper()
	got, f := lex.Tokens(s)
	want, g := tokensOf(s)
	if f != g || !slices.Equal(got, want) {
		t.Fatalf("Tokens of %.300q: %v, %v; want %v, %v", s, got, f, want, g)
	}
}

// random makes strings and tokens of which nobody has thought.
type random struct{ *rand.Rand }

func newRandom() random { return random{rand.New(rand.NewPCG(5, 6))} }

// of returns up to n pieces, each one of some.
func (r random) of(n int, pieces []string) string {
	var b strings.Builder
	for range r.IntN(n + 1) {
		b.WriteString(pieces[r.IntN(len(pieces))])
	}
	return b.String()
}

// digits returns from 1 to n digits.
func (r random) digits(n int) string {
	return r.of(n-1, strings.Split("0123456789", "")) + string(rune('0'+r.IntN(10)))
}

// piece returns a token as it stands in a string; few of them have a fault.
func (r random) piece() string {
	switch r.IntN(6) {
	case 0:
		return "x" + r.of(8, strings.Split("abyzAZ_", ""))
	case 1:
		return strings.Fields(documentedWords)[r.IntN(87)]
	case 2:
		return r.digits(4) + "." + r.digits(5)
	case 3:
		return []string{"", "."}[r.IntN(2)] + r.digits(5)
	case 4:
		return `"` + r.of(20, strings.Split(" !#%&'(:=.09AZaz_~{|}", "")) + `"`
	}
	return strings.Fields(documentedSigns)[r.IntN(31)]
}

// gap returns blanks and comments, perhaps none.
func (r random) gap() string {
	return r.of(3, []string{" ", "\t", "\r", "\n", "  ", "%\n", "% \"a\" = #\x00\xff 1.\n", "%%\r\n"})
}

// program returns a string with up to n tokens, with gaps between some; it may have a fault.
func (r random) program(n int) string {
	var b strings.Builder
	for range r.IntN(n + 1) {
		b.WriteString(r.piece())
		if r.IntN(2) == 0 {
			b.WriteString(r.gap())
		}
	}
	if r.IntN(4) == 0 {
		b.WriteString("%the end")
	}
	return b.String()
}

// token returns a valid token that is not a TokWord.
func (r random) token() api.Token {
	for {
		m := r.piece()
		_, kind := shape(m)
		if t, e := made(m, kind); e == api.OK {
			return t
		}
	}
}
