package lex_test

import (
	"slices"
	"strings"
	"testing"

	"fleuron/api"
	"fleuron/lex"
)

// P3.1: the tokens of a string; those of a name are never TokWord.
func TestTokens(t *testing.T) {
	for _, c := range []struct{ s, want string }{
		{"x1=.5*z.left;%end", "x 1/1 `=` 1/2 `*` z `.` left `;`"},
		{"a..b", "a `..` b"}, {"1..2", "1/1 `..` 2/1"}, {"1.", "1/1 `.`"}, {"1.5.5", "3/2 1/2"}, {"|=:|>", "`|=:|` `>`"},
		// What stands between tokens.
		{"", ""}, {" \t\r\n", ""}, {"%", ""}, {"%%%", ""}, {"% x 1 \" # \x00\xff", ""}, {"%\n%\n \n%", ""}, {"%x\ny%z", "y"},
		{"a%b\nc", "a c"}, {"a%b\rc", "a"}, {"a%\"\nc", "a c"}, {"a\r\nb", "a b"}, {"a%%\n%\n b", "a b"}, {"a%", "a"}, {"1%\n2", "1/1 2/1"},
		{".%\n5", "`.` 5/1"}, {":%\n=", "`:` `=`"},
		// Names.
		{"x_Y", "x_Y"}, {"_", "_"}, {"azAZ_", "azAZ_"}, {"a1b2", "a 1/1 b 2/1"}, {"fill def cycle", "fill def cycle"}, {"x y", "x y"},
		// Numbers.
		{".5.5", "1/2 1/2"}, {"1.5.", "3/2 `.`"}, {"1.5..5", "3/2 `..` 5/1"}, {"...5", "`..` 1/2"}, {"..5", "`..` 5/1"}, {"....", "`..` `..`"}, {"...", "`..` `.`"},
		{"1.x", "1/1 `.` x"}, {"x.5", "x 1/2"}, {"1. 5", "1/1 `.` 5/1"}, {"1 .5", "1/1 1/2"}, {". 5", "`.` 5/1"}, {"1.\"\"", "1/1 `.` \"\""},
		{"0", "0/1"}, {"007", "7/1"}, {"0.0", "0/1"}, {".00000", "0/1"}, {"1.50", "3/2"}, {"12.34567", "1234567/100000"}, {"1e3", "1/1 e 3/1"},
		{"-1", "`-` 1/1"}, {"1/2", "1/1 `/` 2/1"},
		// Strings.
		{`""`, `""`}, {`"a""b"`, `"a" "b"`}, {`" % "`, `" % "`}, {`"x:=1.5;"y`, `"x:=1.5;" y`}, {"\"!#$[\\]^'`{|}~\"", "\"!#$[\\]^'`{|}~\""}, {`"1"2`, `"1" 2/1`},
		// Signs, always the longest one.
		{"+-+", "`+-+`"}, {"+-", "`+` `-`"}, {"+- +", "`+` `-` `+`"}, {"+++", "`++` `+`"}, {"++-+", "`++` `-` `+`"}, {"+-+-+", "`+-+` `-` `+`"},
		{"---", "`--` `-`"}, {"***", "`**` `*`"},
		{"::=", "`:` `:=`"}, {":=:", "`:=` `:`"}, {"=:|", "`=:|`"}, {"=:", "`=:`"}, {"=:=", "`=:` `=`"}, {"|=:", "`|=:`"}, {"|=:||=:", "`|=:|` `|=:`"},
		{"=:|=:", "`=:|` `=:`"}, {"==", "`=` `=`"},
		{"<=>", "`<=` `>`"}, {"<>=", "`<>` `=`"}, {">=<", "`>=` `<`"}, {">>", "`>` `>`"}, {"<<", "`<` `<`"}, {"()[]{}", "`(` `)` `[` `]` `{` `}`"},
		{";,&/.", "`;` `,` `&` `/` `.`"},
	} {
		l, f := lex.Tokens(c.s)
		if f != (api.Fault{}) || shown(l) != c.want {
			t.Errorf("Tokens of %q: %s, %v; want %s", c.s, shown(l), f, c.want)
		}
	}
}

// P3.1: each sign is read, alone and in front of any other one behind a blank.
func TestTokensOfSigns(t *testing.T) {
	all := strings.Fields(documentedSigns)
	for _, a := range all {
		if got := read(t, a); !slices.Equal(got, tokens{sign(a)}) {
			t.Errorf("Tokens of %s: %v", a, got)
		}
		for _, b := range all {
			compare(t, a+b)
			if got := read(t, a+" "+b); !slices.Equal(got, tokens{sign(a), sign(b)}) {
				t.Errorf("Tokens of %s %s: %v", a, b, got)
			}
		}
	}
}

// P3.1: lines end behind a byte 10, and columns count bytes.
func TestPositions(t *testing.T) {
	for _, c := range []struct {
		s    string
		want tokens
	}{
		{"a", tokens{at(name("a"), 1, 1)}},
		{"\ta 1", tokens{at(name("a"), 1, 2), at(numb(1, 1), 1, 4)}},
		{"ab:=1.5\"xyz\"c", tokens{at(name("ab"), 1, 1), at(sign(":="), 1, 3), at(numb(3, 2), 1, 5), at(text("xyz"), 1, 8), at(name("c"), 1, 13)}},
		{"a\nb\n\n c", tokens{at(name("a"), 1, 1), at(name("b"), 2, 1), at(name("c"), 4, 2)}},
		{"a\r\nb\rc", tokens{at(name("a"), 1, 1), at(name("b"), 2, 1), at(name("c"), 2, 3)}},
		{"%é\xff\n%\n%x\n  y", tokens{at(name("y"), 4, 3)}},
		{"a%b\n.5", tokens{at(name("a"), 1, 1), at(numb(1, 2), 2, 1)}},
	} {
		if got, f := lex.Tokens(c.s); f != (api.Fault{}) || !slices.Equal(got, c.want) {
			t.Errorf("Tokens of %q: %v, %v; want %v", c.s, got, f, c.want)
		}
	}
}

// P3.1: faults, each where its token begins, and the first one of several.
func TestFaults(t *testing.T) {
	long := strings.Repeat("x", 41)
	hundred := strings.Repeat("s", 100)
	for _, c := range []struct {
		s    string
		want api.Fault
	}{
		{"#", api.Fault{Code: api.ErrLex, Name: "#", Line: 1, Col: 1}},
		{"a\n #", api.Fault{Code: api.ErrLex, Name: "#", Line: 2, Col: 2}},
		{"|", api.Fault{Code: api.ErrLex, Name: "|", Line: 1, Col: 1}},
		{"a|=", api.Fault{Code: api.ErrLex, Name: "|", Line: 1, Col: 2}},
		{"|=:||", api.Fault{Code: api.ErrLex, Name: "|", Line: 1, Col: 5}},
		{"é", api.Fault{Code: api.ErrLex, Name: "\xc3", Line: 1, Col: 1}},
		{"x\x00", api.Fault{Code: api.ErrLex, Name: "\x00", Line: 1, Col: 2}},
		{"1\v", api.Fault{Code: api.ErrLex, Name: "\v", Line: 1, Col: 2}},
		{"\"", api.Fault{Code: api.ErrLex, Name: "\"", Line: 1, Col: 1}},
		{"a \"b c", api.Fault{Code: api.ErrLex, Name: "\"", Line: 1, Col: 3}},
		{"a \"b\nc\" #", api.Fault{Code: api.ErrLex, Name: "\"", Line: 1, Col: 3}},
		{"\"a\tb\"", api.Fault{Code: api.ErrLex, Name: "\"", Line: 1, Col: 1}},
		{"\"a\x7fb\"", api.Fault{Code: api.ErrLex, Name: "\"", Line: 1, Col: 1}},
		{"\"a\x1fb\"", api.Fault{Code: api.ErrLex, Name: "\"", Line: 1, Col: 1}},
		{"\"é\"", api.Fault{Code: api.ErrLex, Name: "\"", Line: 1, Col: 1}},
		{"\"a\" \"", api.Fault{Code: api.ErrLex, Name: "\"", Line: 1, Col: 5}},
		{"\"a%\"\n\"", api.Fault{Code: api.ErrLex, Name: "\"", Line: 2, Col: 1}},
		// Of a string that is too long, and of nothing that it could be, or without an end, ErrLex is named first.
		{"\"" + hundred + "s\n\"", api.Fault{Code: api.ErrLex, Name: "\"", Line: 1, Col: 1}},
		{"\"" + hundred + "s", api.Fault{Code: api.ErrLex, Name: "\"", Line: 1, Col: 1}},
		{"\"" + hundred + "s\"", api.Fault{Code: api.ErrLimit, Name: "\"" + hundred[:39], Line: 1, Col: 1}},
		{"\n\n  " + long, api.Fault{Code: api.ErrLimit, Name: long[:40], Line: 3, Col: 3}},
		{"y" + long + "1", api.Fault{Code: api.ErrLimit, Name: "y" + long[:39], Line: 1, Col: 1}},
		{"1234567890", api.Fault{Code: api.ErrLimit, Name: "1234567890", Line: 1, Col: 1}},
		{"0000000000", api.Fault{Code: api.ErrLimit, Name: "0000000000", Line: 1, Col: 1}},
		{"a 1234567890.5x", api.Fault{Code: api.ErrLimit, Name: "1234567890.5", Line: 1, Col: 3}},
		{"1.123456", api.Fault{Code: api.ErrLimit, Name: "1.123456", Line: 1, Col: 1}},
		{".000000", api.Fault{Code: api.ErrLimit, Name: ".000000", Line: 1, Col: 1}},
		{"1.5.123456", api.Fault{Code: api.ErrLimit, Name: ".123456", Line: 1, Col: 4}},
		{"999999999.999999", api.Fault{Code: api.ErrLimit, Name: "999999999.999999", Line: 1, Col: 1}},
		{"5." + strings.Repeat("7", 39), api.Fault{Code: api.ErrLimit, Name: "5." + strings.Repeat("7", 38), Line: 1, Col: 1}},
		{strings.Repeat("7", 20000), api.Fault{Code: api.ErrLimit, Name: strings.Repeat("7", 40), Line: 1, Col: 1}},
		{"999999999.99999", api.Fault{Code: api.ErrRange, Name: "999999999.99999", Line: 1, Col: 1}},
		{"x 021474.83649 #", api.Fault{Code: api.ErrRange, Name: "021474.83649", Line: 1, Col: 3}},
		{"1 999999999.250 2", api.Fault{Code: api.ErrRange, Name: "999999999.250", Line: 1, Col: 3}},
		// The first token that has a fault.
		{"999999999.99999 # 1234567890", api.Fault{Code: api.ErrRange, Name: "999999999.99999", Line: 1, Col: 1}},
		{"1234567890#", api.Fault{Code: api.ErrLimit, Name: "1234567890", Line: 1, Col: 1}},
		{"%#\n#1234567890", api.Fault{Code: api.ErrLex, Name: "#", Line: 2, Col: 1}},
	} {
		if l, f := lex.Tokens(c.s); len(l) != 0 || f != c.want {
			t.Errorf("Tokens of %.60q: %v, %v; want %v", c.s, l, f, c.want)
		}
		compare(t, c.s)
	}
}

// P3.1: what every byte is, alone, behind others, in a comment and in a string.
func TestBytes(t *testing.T) {
	for c := range 256 {
		s := string([]byte{byte(c)})
		for _, whole := range []string{s, "a" + s, "1" + s, "." + s, "|=:" + s, " " + s + "\n" + s, "%" + s + "x", `"` + s + `"`, `"` + s} {
			compare(t, whole)
		}
	}
}

// P3.1: up to each limit there is a token, and beyond it none.
func TestTokenLimits(t *testing.T) {
	for _, c := range []struct {
		s    string
		want api.Token
	}{
		{strings.Repeat("Z", 40), name(strings.Repeat("Z", 40))},
		{`"` + strings.Repeat("%", 100) + `"`, text(strings.Repeat("%", 100))},
		{"123456789", numb(123456789, 1)}, {"999999999", numb(999999999, 1)}, {"000000001.50000", numb(3, 2)}, {".00001", numb(1, 100000)},
		{"21474.83647", numb(api.MaxNum, 100000)}, {"999999999.5", numb(1999999999, 2)}, {"999999999.00000", numb(999999999, 1)},
	} {
		if got := read(t, c.s); !slices.Equal(got, tokens{c.want}) {
			t.Errorf("Tokens of %s: %v", c.s, got)
		}
	}
	for n := range 45 {
		compare(t, strings.Repeat("q", n)+" 1")
		compare(t, `"`+strings.Repeat(" ", 60+n)+`" 1`)
		for m := range 9 {
			compare(t, strings.Repeat("0", n)+"."+strings.Repeat("1", m))
		}
	}
}

// P3.1: strings of MaxText bytes are read, longer ones are not, whatever is in them.
func TestTextLimit(t *testing.T) {
	full := strings.Repeat("a ", api.MaxText/2)
	if l := read(t, full); len(l) != api.MaxText/2 {
		t.Errorf("%d tokens", len(l))
	}
	if l := read(t, strings.Repeat(";", api.MaxText)); len(l) != api.MaxText {
		t.Errorf("%d tokens", len(l))
	}
	for _, s := range []string{full + " ", full + "#", "#" + full, strings.Repeat(" ", api.MaxText+1), "%" + full, strings.Repeat("#", 1<<20)} {
		if l, f := lex.Tokens(s); len(l) != 0 || f != (api.Fault{Code: api.ErrLimit}) {
			t.Errorf("Tokens of %d bytes: %d tokens, %v", len(s), len(l), f)
		}
	}
	last := strings.Repeat(" ", api.MaxText-1)
	if l, f := lex.Tokens(last + "\""); len(l) != 0 || f != (api.Fault{Code: api.ErrLex, Name: "\"", Line: 1, Col: api.MaxText}) {
		t.Errorf("a string that begins at the end: %v, %v", l, f)
	}
}

// P3.1: all short strings of some bytes.
func TestShort(t *testing.T) {
	var grow func(s, letters string, n int)
	grow = func(s, letters string, n int) {
		compare(t, s)
		if n == 0 {
			return
		}
		for i := range len(letters) {
			grow(s+letters[i:i+1], letters, n-1)
		}
	}
	grow("", "a1.\"% \n=#", 5)
	grow("", ":=|.+-*<>", 5)
	grow("", "x_0.;&", 6)
}

// P3.1: long strings, also cut and with other bytes in them.
func TestLong(t *testing.T) {
	r := newRandom()
	for range 3000 {
		s := r.program(80)
		compare(t, s)
		if s == "" {
			continue
		}
		i := r.IntN(len(s))
		compare(t, s[:i])
		compare(t, s[i:])
		compare(t, s[:i]+string([]byte{byte(r.IntN(256))})+s[i:])
		compare(t, s[:i]+s[i+1:])
	}
}

// P3.6: more blanks and comments between two tokens change positions alone.
func TestBlanks(t *testing.T) {
	r := newRandom()
	for range 1000 {
		s := r.program(40)
		l, f := lex.Tokens(s)
		if f != (api.Fault{}) {
			continue
		}
		var wide strings.Builder
		begin := 0
		for _, k := range l {
			line := strings.Join(strings.SplitAfter(s, "\n")[:k.Line-1], "")
			place := len(line) + k.Col - 1
			wide.WriteString(s[begin:place])
			// Behind a comment a line feed keeps what follows out of it.
			wide.WriteString(r.gap() + []string{"", " ", "%\"#\n", "\n\r\t "}[r.IntN(4)])
			begin = place
		}
		wide.WriteString(s[begin:])
		if got := read(t, wide.String()); !slices.Equal(got, bare(l)) {
			t.Fatalf("Tokens of %q: %s; want %s", wide.String(), shown(got), shown(l))
		}
	}
}

// P3.7: the tokens of two strings with a line feed between them are those of the one and of the other.
func TestParts(t *testing.T) {
	r := newRandom()
	held := 0
	for range 2000 {
		a, b := r.program(20), r.program(20)
		l, f := lex.Tokens(a)
		m, g := lex.Tokens(b)
		if f != (api.Fault{}) || g != (api.Fault{}) {
			continue
		}
		held++
		if got := read(t, a+"\n"+b); !slices.Equal(got, bare(slices.Concat(l, m))) {
			t.Fatalf("Tokens of %q and %q: %s", a, b, shown(got))
		}
	}
	if held < 1000 {
		t.Errorf("only %d of 2000 had no fault", held)
	}
}
