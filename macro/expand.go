package macro

import (
	"slices"

	"fleuron/api"
	"fleuron/cursor"
	"fleuron/lex"
)

// maxLists is how many lists there are at most of which tokens are left.
const maxLists = 200

// expander is at a place of a program.
type expander struct {
	rest     []api.Token   // what is still to be read of the program
	lists    [][]api.Token // what is still to be read, none of it empty, of the lists that macros were replaced by
	end      api.Token     // the last token of the program
	steps    int
	meanings map[string]meaning
	groups   []group // those that have not ended
	saving   bool    // a sign , would go on with a save
	out      []api.Token
}

// group is one of begingroup: what save took away in it.
type group []saved

// saved is a name, and what it meant when it was saved.
type saved struct {
	name   string
	before meaning
}

// expanded returns an expander that has read all tokens.
func expanded(l []api.Token) (e expander, f api.Fault) {
	if !cursor.Valid(l) {
		return expander{}, api.Fault{Code: api.ErrArg}
	}
	defer func() {
		switch x := recover().(type) {
		case nil:
		case api.Fault:
			e, f = expander{}, x
		default:
			panic(x)
		}
	}()
	e = expander{rest: l, meanings: map[string]meaning{}}
	for _, s := range lex.Words() {
		e.meanings[s] = word(s)
	}
	if len(l) > 0 {
		e.end = l[len(l)-1]
	}
	for t, ok := e.next(); ok; t, ok = e.next() {
		e.take(t)
	}
	if len(e.groups) > 0 {
		e.early()
	}
	return e, api.Fault{}
}

// early ends expanding because the tokens end too early.
func (e *expander) early() {
	panic(api.Fault{Code: api.ErrEnd, Line: e.end.Line, Col: e.end.Col})
}

// next reads a token, if there is one.
func (e *expander) next() (t api.Token, ok bool) {
	if n := len(e.lists); n > 0 {
		t, e.lists[n-1] = e.lists[n-1][0], e.lists[n-1][1:]
		if len(e.lists[n-1]) == 0 {
			e.lists = e.lists[:n-1]
		}
	} else if len(e.rest) > 0 {
		t, e.rest = e.rest[0], e.rest[1:]
	} else {
		return api.Token{}, false
	}
	e.steps++
	if e.steps > api.MaxSteps {
		cursor.Fail(api.ErrSteps, t)
	}
	return t, true
}

// read reads a token that has to be there.
func (e *expander) read() api.Token {
	t, ok := e.next()
	if !ok {
		e.early()
	}
	return t
}

// readName reads a token that has to be a name.
func (e *expander) readName() api.Token {
	t := e.read()
	if !isName(t) {
		cursor.Fail(api.ErrSyntax, t)
	}
	return t
}

// readSign reads a token that has to be a sign.
func (e *expander) readSign(sign string) {
	demand(e.read(), sign)
}

// demand ends expanding unless a token is a sign.
func demand(t api.Token, sign string) {
	if !isSign(t, sign) {
		cursor.Fail(api.ErrSyntax, t)
	}
}

// isName reports whether a token is read as a name.
func isName(t api.Token) bool { return t.Kind == api.TokName || t.Kind == api.TokWord }

// isSign reports whether a token is a sign.
func isSign(t api.Token, sign string) bool { return t.Kind == api.TokSign && t.Text == sign }

// take does what a token asks for.
func (e *expander) take(t api.Token) {
	if !isName(t) {
		e.takeOther(t)
		return
	}
	switch m := e.meaningOf(t).(type) {
	case *macro:
		e.replace(t, m)
	case word:
		e.takeWord(t, string(m))
	case variable:
		e.saving = false
		e.put(t, api.TokName, t.Text)
	}
}

// takeOther does what a token asks for that is no name.
func (e *expander) takeOther(t api.Token) {
	further := e.saving && isSign(t, ",")
	e.saving = false
	e.put(t, t.Kind, t.Text)
	if further {
		e.save()
	}
}

// takeWord does what a name asks for that means a word.
func (e *expander) takeWord(t api.Token, word string) {
	switch word {
	case "let":
		e.let()
		return
	case "def":
		e.define()
		return
	}
	e.saving = false
	switch {
	case word == "enddef" || word == "endgroup" && len(e.groups) == 0:
		cursor.Fail(api.ErrSyntax, t)
	case word == "begingroup":
		e.groups = append(e.groups, nil)
	case word == "endgroup":
		e.endGroup()
	}
	e.put(t, api.TokWord, word)
	if word == "save" {
		e.save()
	}
}

// put puts out a token of this kind and text, where t stands.
func (e *expander) put(t api.Token, kind api.TokKind, text string) {
	if len(e.out) == api.MaxTokens {
		cursor.Fail(api.ErrLimit, t)
	}
	t.Kind, t.Text = kind, text
	e.out = append(e.out, t)
}

// save takes away what the name means that comes next.
func (e *expander) save() {
	t := e.readName()
	e.put(t, api.TokName, t.Text)
	if n := len(e.groups); n > 0 {
		e.groups[n-1] = append(e.groups[n-1], saved{t.Text, e.nameMeaning(t.Text)})
	}
	e.meanings[t.Text] = variable{}
	e.saving = true
}

// endGroup ends the last group.
func (e *expander) endGroup() {
	n := len(e.groups) - 1
	// From the last name on: of a name that was saved twice the first meaning has to be the one that stays.
	for _, s := range slices.Backward(e.groups[n]) {
		e.meanings[s.name] = s.before
	}
	e.groups = e.groups[:n]
}
