package macro_test

import (
	"math/rand/v2"
	"slices"
	"strings"
	"testing"

	"fleuron/api"
	"fleuron/lex"
	"fleuron/macro"
)

type tokens = []api.Token

// parsed returns the tokens of a string, in which <fill> stands for the TokWord fill.
func parsed(t *testing.T, s string) tokens {
	t.Helper()
	l, f := lex.Tokens(s)
	if f != (api.Fault{}) {
		t.Fatalf("Tokens of %.200q: %v", s, f)
	}
	var out tokens
	for len(l) > 0 {
		if len(l) > 2 && l[0].Text == "<" && lex.Word(l[1].Text) && l[2].Text == ">" {
			l[1].Kind = api.TokWord
			out, l = append(out, l[1]), l[3:]
			continue
		}
		out, l = append(out, l[0]), l[1:]
	}
	return out
}

// shown writes tokens as parsed reads them, with blanks between.
func shown(l tokens) string {
	var out []string
	for _, t := range l {
		s, e := lex.Text(tokens{t})
		if e != api.OK {
			s = "?"
		}
		if t.Kind == api.TokWord {
			s = "<" + s + ">"
		}
		out = append(out, s)
	}
	return strings.Join(out, " ")
}

// fault returns a fault with these fields.
func fault(code api.Errno, name string, line, col int) api.Fault {
	return api.Fault{Code: code, Name: name, Line: line, Col: col}
}

// cell is a token that is still to be read, and which list it is of: 0 is the program.
type cell struct {
	t    api.Token
	list int
}

// reading is an expansion as the chapter tells it, with one row of cells, the next one last, behind which lists are put.
// What a name means is in a string: its word, "" for a variable, or a number behind # for a macro.
type reading struct {
	cells  []cell
	lists  int
	left   map[int]int // how many cells of a list are left
	last   api.Token
	steps  int
	means  map[string]string
	macros []definition
	groups []map[string]string
	out    tokens
	fault  api.Fault
}

// definition is a macro: a string for each group, t or e for each of its parameters.
type definition struct {
	groups []string
	names  []string
	body   tokens
}

// stop is what the oracle panics with: the fault is in the reading.
type stop struct{}

func (r *reading) fail(code api.Errno, t api.Token) {
	name := t.Text
	if t.Kind == api.TokNum {
		name = shown(tokens{t})
	}
	r.fault = fault(code, name, t.Line, t.Col)
	panic(stop{})
}

// ahead returns the token that is read next.
func (r *reading) ahead() api.Token { return r.cells[len(r.cells)-1].t }

// pop reads a token; it has to be there.
func (r *reading) pop() api.Token {
	if len(r.cells) == 0 {
		r.fault = fault(api.ErrEnd, "", r.last.Line, r.last.Col)
		panic(stop{})
	}
	t, list := r.ahead(), r.cells[len(r.cells)-1].list
	r.cells = r.cells[:len(r.cells)-1]
	if r.left[list]--; r.left[list] <= 0 {
		delete(r.left, list)
	}
	r.steps++
	if r.steps == 200001 {
		r.fail(api.ErrSteps, t)
	}
	return t
}

// meaning returns what a token means; a token that is no name means ! and itself.
func (r *reading) meaning(t api.Token) string {
	switch t.Kind {
	case api.TokWord:
		return t.Text
	case api.TokName:
		if m, ok := r.means[t.Text]; ok {
			return m
		}
		if lex.Word(t.Text) {
			return t.Text
		}
		return ""
	}
	return "!" + t.Text
}

func (r *reading) name() api.Token {
	t := r.pop()
	if t.Kind > api.TokWord {
		r.fail(api.ErrSyntax, t)
	}
	return t
}

// oneOf reads a sign out of some.
func (r *reading) oneOf(signs ...string) string {
	t := r.pop()
	if t.Kind != api.TokSign || !slices.Contains(signs, t.Text) {
		r.fail(api.ErrSyntax, t)
	}
	return t.Text
}

// settle follows let, def and macros until something else comes, and says what.
func (r *reading) settle() string {
	for len(r.cells) > 0 {
		m := r.meaning(r.ahead())
		switch {
		case m == "let":
			r.pop()
			r.let()
		case m == "def":
			r.pop()
			r.define()
		case strings.HasPrefix(m, "#"):
			r.replace(r.pop(), r.macros[len(m)-1])
		default:
			return m
		}
	}
	return "end"
}

func (r *reading) let() {
	a := r.name()
	r.oneOf("=")
	b := r.name()
	r.oneOf(";")
	r.means[a.Text] = r.meaning(b)
}

func (r *reading) define() {
	var d definition
	name := r.name()
	for r.oneOf("(", "=") == "(" {
		kind := r.name()
		if kind.Text != "expr" && kind.Text != "text" {
			r.fail(api.ErrSyntax, kind)
		}
		group := ""
		for sign := ","; sign == ","; {
			p := r.name()
			if slices.Contains(d.names, p.Text) {
				r.fail(api.ErrTwice, p)
			}
			d.names = append(d.names, p.Text)
			group += kind.Text[:1]
			if kind.Text == "text" {
				sign = r.oneOf(")")
			} else {
				sign = r.oneOf(")", ",")
			}
		}
		d.groups = append(d.groups, group)
	}
	depth := 1
	for {
		t := r.pop()
		switch r.meaning(t) {
		case "def":
			depth++
		case "enddef":
			depth--
		}
		if depth == 0 {
			break
		}
		d.body = append(d.body, t)
	}
	r.macros = append(r.macros, d)
	r.means[name.Text] = strings.Repeat("#", len(r.macros))
}

// inBrackets returns a token that was read, and what follows up to the bracket that belongs to it, if it is one that begins.
func (r *reading) inBrackets(t api.Token) tokens {
	l := tokens{t}
	if t.Kind != api.TokSign {
		return l
	}
	i := strings.Index("([{)]}", t.Text)
	if i > 2 {
		r.fail(api.ErrSyntax, t)
	}
	if i < 0 {
		return l
	}
	for {
		t := r.pop()
		if t.Kind == api.TokSign && t.Text == ")]}"[i:i+1] {
			return append(l, t)
		}
		l = append(l, r.inBrackets(t)...)
	}
}

// argument reads an argument that one of some signs ends, which it reads, too.
func (r *reading) argument(ends, wanted string) tokens {
	var l tokens
	for {
		t := r.pop()
		if t.Kind == api.TokSign && strings.Contains(ends, t.Text) {
			if t.Text != wanted {
				r.fail(api.ErrSyntax, t)
			}
			return l
		}
		l = append(l, r.inBrackets(t)...)
	}
}

func (r *reading) replace(name api.Token, d definition) {
	var args []tokens
	for _, group := range d.groups {
		r.oneOf("(")
		for i, kind := range group {
			switch {
			case kind == 't':
				args = append(args, r.argument(")", ")"))
			case i+1 < len(group):
				args = append(args, r.argument(",)", ","))
			default:
				args = append(args, r.argument(",)", ")"))
			}
		}
	}
	kinds := strings.Join(d.groups, "")
	r.lists++
	var list []cell
	add := func(l ...api.Token) {
		for _, t := range l {
			list = append(list, cell{t, r.lists})
		}
		if len(list) > 20000 {
			r.fail(api.ErrLimit, name)
		}
	}
	for _, t := range d.body {
		i := slices.Index(d.names, t.Text)
		switch {
		case t.Kind != api.TokName || i < 0:
			add(t)
		case kinds[i] == 't':
			add(args[i]...)
		default:
			add(api.Token{Kind: api.TokSign, Text: "(", Line: t.Line, Col: t.Col})
			add(args[i]...)
			add(api.Token{Kind: api.TokSign, Text: ")", Line: t.Line, Col: t.Col})
		}
	}
	slices.Reverse(list)
	r.cells = append(r.cells, list...)
	if len(list) > 0 {
		r.left[r.lists] = len(list)
	}
	if len(r.left) > 200 {
		r.fail(api.ErrDeep, name)
	}
}

// put puts out a token whose text is another one.
func (r *reading) put(t api.Token, kind api.TokKind, s string) {
	if len(r.out) == 20000 {
		r.fail(api.ErrLimit, t)
	}
	r.out = append(r.out, api.Token{Kind: kind, Text: s, Num: t.Num, Line: t.Line, Col: t.Col})
}

func (r *reading) save() {
	for {
		t := r.name()
		r.put(t, api.TokName, t.Text)
		if n := len(r.groups); n > 0 {
			before := r.meaning(api.Token{Kind: api.TokName, Text: t.Text})
			if _, twice := r.groups[n-1][t.Text]; !twice {
				r.groups[n-1][t.Text] = before
			}
		}
		r.means[t.Text] = ""
		if r.settle() != "!," || r.ahead().Kind != api.TokSign {
			return
		}
		t = r.pop()
		r.put(t, t.Kind, t.Text)
	}
}

// all reads all tokens.
func (r *reading) all() {
	for m := r.settle(); len(r.cells) > 0; m = r.settle() {
		t := r.pop()
		kind := t.Kind
		if kind <= api.TokWord && m != "" {
			kind = api.TokWord
		}
		switch {
		case kind != api.TokWord:
			r.put(t, kind, t.Text)
		case m == "enddef", m == "endgroup" && len(r.groups) == 0:
			r.fail(api.ErrSyntax, t)
		case m == "begingroup":
			r.groups = append(r.groups, map[string]string{})
			r.put(t, kind, m)
		case m == "endgroup":
			for name, before := range r.groups[len(r.groups)-1] {
				r.means[name] = before
			}
			r.groups = r.groups[:len(r.groups)-1]
			r.put(t, kind, m)
		case m == "save":
			r.put(t, kind, m)
			r.save()
		default:
			r.put(t, kind, m)
		}
	}
	if len(r.groups) > 0 {
		r.fault = fault(api.ErrEnd, "", r.last.Line, r.last.Col)
	}
}

// expansion returns what Expand and Macros of valid tokens have to give.
func expansion(l tokens) (out tokens, macros []string, f api.Fault) {
	r := &reading{means: map[string]string{}, left: map[int]int{}}
	for _, t := range slices.Backward(l) {
		r.cells = append(r.cells, cell{t: t})
	}
	if len(l) > 0 {
		r.last = l[len(l)-1]
	}
	func() {
		defer func() {
			if x := recover(); x != nil {
				_ = x.(stop)
			}
		}()
		r.all()
	}()
	if r.fault != (api.Fault{}) {
		return nil, nil, r.fault
	}
	for name, m := range r.means {
		if strings.HasPrefix(m, "#") {
			macros = append(macros, name)
		}
	}
	slices.Sort(macros)
	return r.out, macros, api.Fault{}
}

// compare compares Expand and Macros of tokens with what they have to give, and returns what Expand gave.
func compare(t *testing.T, l tokens) (tokens, api.Fault) {
	t.Helper()
	before := slices.Clone(l)
	got, f := macro.Expand(l)
	names, g := macro.Macros(l)
	if !slices.Equal(l, before) {
		t.Fatalf("changed: %.500s", shown(before))
	}
	want, macros, h := expansion(l)
	if f != h || !slices.Equal(got, want) {
		t.Fatalf("Expand of %.500s\ngives %.500s, %v;\n want %.500s, %v", shown(l), shown(got), f, shown(want), h)
	}
	if g != h || !slices.Equal(names, macros) {
		t.Fatalf("Macros of %.500s: %v, %v; want %v, %v", shown(l), names, g, macros, h)
	}
	return got, f
}

// random makes programs of which nobody has thought.
type random struct{ *rand.Rand }

func newRandom() random { return random{rand.New(rand.NewPCG(7, 8))} }

func (r random) one(pieces ...string) string { return pieces[r.IntN(len(pieces))] }

// name returns one of few names, some of them words.
func (r random) name() string {
	return r.one("a", "b", "c", "a", "b", "m", "m", "n", "p", "q", "expr", "text", "fill", "draw", "let", "def", "enddef", "save", "begingroup", "endgroup", "<fill>", "<def>", "<enddef>", "<save>")
}

// tame returns a name that is no word that this layer follows.
func (r random) tame() string { return r.one("a", "b", "c", "m", "n", "p", "q", "fill", "draw") }

// argument returns tokens with brackets in order.
func (r random) argument(depth int) string {
	var b strings.Builder
	for range r.IntN(4) {
		switch k := r.IntN(8); {
		case k < 4 || depth == 0:
			b.WriteString(" " + r.tame())
		case k == 4:
			b.WriteString(" 1.5")
		case k == 5:
			b.WriteString(" (" + r.argument(depth-1) + "," + r.argument(depth-1) + ")")
		case k == 6:
			b.WriteString(" [" + r.argument(depth-1) + "]")
		default:
			b.WriteString(" {" + r.argument(depth-1) + ",}")
		}
	}
	return b.String()
}

// parameters returns up to two groups of parameters.
func (r random) parameters() string {
	return r.one("", "", "(expr p)", "(text p)", "(expr p,q)", "(text p)(expr q)", "(expr p)(expr q)", "(expr p,a,b)(text q)")
}

// call returns a name, behind which arguments may stand.
func (r random) call() string {
	groups := r.one("", "", "(A)", "(A)", "(A,A)", "(A)(A)", "(A,A,A)(A,A)", "(A", ")", "(A]", "(A,A")
	for strings.Contains(groups, "A") {
		groups = strings.Replace(groups, "A", r.argument(2), 1)
	}
	return r.tame() + groups
}

// statement returns a few tokens that belong together; few of them have a fault.
func (r random) statement(depth int) string {
	switch r.IntN(11) {
	case 0:
		return "let " + r.name() + "=" + r.name() + ";"
	case 1, 2:
		return "def " + r.tame() + r.parameters() + "=" + r.program(4, depth-1) + " enddef;"
	case 3:
		return "begingroup " + r.program(4, depth-1) + " endgroup;"
	case 4:
		return "save " + r.tame() + "," + r.tame() + r.one(";", ";", ",", "let p=q; , m")
	case 5:
		return "save " + r.tame() + r.one(" ", ";") + r.call()
	case 6:
		return r.one("def m=,a enddef; save b m,n;", "let a=def; let b=enddef;", "let p=save;", "let p=begingroup; let q=endgroup;", "let let=b; let b=draw;", "def def=")
	case 7:
		return r.name() + r.one("", "(", ")", ",", ";", "=", "1")
	}
	return r.call() + ";"
}

// program returns up to n statements.
func (r random) program(n, depth int) string {
	var b strings.Builder
	if depth < 0 {
		return r.tame()
	}
	for range r.IntN(n + 1) {
		b.WriteString(" " + r.statement(depth))
	}
	return b.String()
}
