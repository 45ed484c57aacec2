package macro

import (
	"fleuron/api"
	"fleuron/cursor"
)

// meaning is what a name means: a word, a macro or a variable.
type meaning interface{ meaning() }

// word is the meaning of a name that means a word.
type word string

// variable is the meaning of a name that is a variable.
type variable struct{}

// macro is the meaning of a name that is replaced.
type macro struct {
	groups []parameters
	body   []piece
}

func (word) meaning()     {}
func (variable) meaning() {}
func (*macro) meaning()   {}

// parameters are a group of parameters: one, if it is of text.
type parameters struct {
	text  bool
	count int
}

// piece is a token of a macro's body, or the place of an argument there.
type piece struct {
	token    api.Token
	argument int  // which one stands here, from 1 on; 0 if the token does
	text     bool // the argument stands here without brackets
}

// meaningOf returns what a token means that is read as a name.
func (e *expander) meaningOf(t api.Token) meaning {
	if t.Kind == api.TokWord {
		return word(t.Text)
	}
	return e.nameMeaning(t.Text)
}

// nameMeaning returns what a name means.
func (e *expander) nameMeaning(name string) meaning {
	if m, ok := e.meanings[name]; ok {
		return m
	}
	return variable{}
}

// means reports whether a token means this word.
func (e *expander) means(t api.Token, this word) bool {
	if !isName(t) {
		return false
	}
	m, ok := e.meaningOf(t).(word)
	return ok && m == this
}

// let follows a redefinition, behind its let.
func (e *expander) let() {
	name := e.readName()
	e.readSign("=")
	other := e.readName()
	e.readSign(";")
	e.meanings[name.Text] = e.meaningOf(other)
}

// define follows a definition, behind its def.
func (e *expander) define() {
	name := e.readName()
	m := &macro{}
	places := map[string]piece{}
	t := e.read()
	for ; isSign(t, "("); t = e.read() {
		m.groups = append(m.groups, e.readParameters(places))
	}
	demand(t, "=")
	m.body = e.readBody(places)
	e.meanings[name.Text] = m
}

// readParameters reads a group of parameters, behind its bracket, and adds their places to those of the groups before it.
func (e *expander) readParameters(places map[string]piece) parameters {
	kind := e.readName()
	if kind.Text != "expr" && kind.Text != "text" {
		cursor.Fail(api.ErrSyntax, kind)
	}
	group := parameters{text: kind.Text == "text"}
	for {
		name := e.readName()
		if places[name.Text].argument > 0 {
			cursor.Fail(api.ErrTwice, name)
		}
		places[name.Text] = piece{argument: len(places) + 1, text: group.text}
		group.count++
		t := e.read()
		if group.text || !isSign(t, ",") {
			demand(t, ")")
			return group
		}
	}
}

// readBody reads the tokens of a definition, behind its =, and the enddef.
func (e *expander) readBody(places map[string]piece) []piece {
	var body []piece
	for within := 0; ; {
		t := e.read()
		if e.means(t, "def") {
			within++
		}
		if e.means(t, "enddef") {
			within--
		}
		if within < 0 {
			return body
		}
		p := piece{}
		if t.Kind == api.TokName {
			p = places[t.Text]
		}
		p.token = t
		body = append(body, p)
	}
}

// replace replaces the name of a macro, behind which its arguments stand.
func (e *expander) replace(t api.Token, m *macro) {
	var arguments [][]api.Token
	for _, group := range m.groups {
		e.readSign("(")
		for i := range group.count {
			argument, end := e.readArgument(group.text)
			if i+1 < group.count {
				demand(end, ",")
			} else {
				demand(end, ")")
			}
			arguments = append(arguments, argument)
		}
	}
	if list := m.list(t, arguments); len(list) > 0 {
		e.lists = append(e.lists, list)
	}
	if len(e.lists) > maxLists {
		cursor.Fail(api.ErrDeep, t)
	}
}

// readArgument reads an argument, and the sign that ends it.
func (e *expander) readArgument(text bool) (argument []api.Token, end api.Token) {
	var open []string // the brackets that close those which began and have not ended
	for {
		t := e.read()
		if t.Kind == api.TokSign {
			ends := t.Text == ")" || t.Text == "," && !text
			if ends && len(open) == 0 {
				return argument, t
			}
			open = bracketed(open, t)
		}
		argument = append(argument, t)
	}
}

// bracketed returns which brackets close those which began and have not ended, behind one more sign.
func bracketed(open []string, t api.Token) []string {
	switch t.Text {
	case "(":
		return append(open, ")")
	case "[":
		return append(open, "]")
	case "{":
		return append(open, "}")
	case ")", "]", "}":
		last := len(open) - 1
		if last < 0 || open[last] != t.Text {
			cursor.Fail(api.ErrSyntax, t)
		}
		return open[:last]
	}
	return open
}

// list returns the tokens that replace a macro, whose name is t.
func (m *macro) list(t api.Token, arguments [][]api.Token) []api.Token {
	var list []api.Token
	add := func(tokens ...api.Token) {
		if len(list)+len(tokens) > api.MaxTokens {
			cursor.Fail(api.ErrLimit, t)
		}
		list = append(list, tokens...)
	}
	for _, p := range m.body {
		switch {
		case p.argument == 0:
			add(p.token)
		case p.text:
			add(arguments[p.argument-1]...)
		default:
			add(signAt(p.token, "("))
			add(arguments[p.argument-1]...)
			add(signAt(p.token, ")"))
		}
	}
	return list
}

// signAt returns a sign that stands where t does.
func signAt(t api.Token, sign string) api.Token {
	return api.Token{Kind: api.TokSign, Text: sign, Line: t.Line, Col: t.Col}
}
