package show

import "fleuron/api"

// body writes statements, each on lines of its own.
func (w *writer) body(l []api.Stmt) {
	for i := range l {
		w.statement(&l[i])
	}
}

// statement writes a statement.
func (w *writer) statement(s *api.Stmt) {
	switch s.Op {
	case api.SIf:
		w.choice(s)
	case api.SFor:
		w.within(s, "endfor", func() {
			w.put("for", s.Text, "=")
			w.list(s.Exprs, whole, "step", "until")
			w.put(":")
		})
	case api.SEach:
		w.within(s, "endfor", func() {
			w.put("for", s.Text, "=")
			w.list(s.Exprs, whole, ",")
			w.put(":")
		})
	case api.SForever:
		w.within(s, "endfor", func() { w.put("forever", ":") })
	case api.SGroup:
		w.within(s, "endgroup", func() { w.put("begingroup") })
	case api.SChar:
		w.within(s, "endchar", func() {
			w.put("beginchar", "(")
			w.list(s.Exprs, whole, ",")
			w.put(")")
		})
	default:
		w.line(func() {
			w.simple(s)
			w.put(";")
		})
	}
}

// within writes the first line of a statement, what stands in the statement, and its last line.
func (w *writer) within(s *api.Stmt, end string, first func()) {
	w.line(first)
	w.inner(s.Bodies[0])
	w.line(func() { w.put(end, ";") })
}

// inner writes statements that stand in another one.
func (w *writer) inner(l []api.Stmt) {
	w.depth++
	w.body(l)
	w.depth--
}

// choice writes conditions, and what is done if they are true.
func (w *writer) choice(s *api.Stmt) {
	for i, body := range s.Bodies {
		w.line(func() {
			switch {
			case i == len(s.Exprs):
				w.put("else")
			case i == 0:
				w.put("if")
				w.expr(&s.Exprs[i], cond)
			default:
				w.put("elseif")
				w.expr(&s.Exprs[i], cond)
			}
			w.put(":")
		})
		w.inner(body)
	}
	w.line(func() { w.put("fi", ";") })
}

// simple writes a statement in which no others stand, up to its ;.
func (w *writer) simple(s *api.Stmt) {
	switch s.Op {
	case api.SEquals:
		w.list(s.Exprs, whole, "=")
	case api.SAssign:
		w.list(s.Exprs, whole, ":=")
	case api.SDeclare:
		w.worded(s.Text, s.Exprs, ",")
	case api.SSave:
		w.worded("save", s.Exprs, ",")
	case api.SExit:
		w.put("exitif")
		w.list(s.Exprs, cond)
	case api.SPickup:
		w.worded("pickup", s.Exprs)
	case api.SFill, api.SDraw, api.SClip:
		w.worded(s.Text, s.Exprs, "also")
		if len(s.Ink) > 0 {
			w.worded("withink", s.Ink)
		}
	case api.SUnclip:
		w.put("unclip")
	case api.SLig:
		w.worded("ligtable", s.Exprs)
		w.rules(s.Rules)
	case api.SMessage:
		w.worded("message", s.Exprs)
	case api.SShow:
		w.worded("show", s.Exprs, ",")
	}
}

// worded writes a word, and expressions with another one between them.
func (w *writer) worded(word string, l []api.Expr, between ...string) {
	w.put(word)
	w.list(l, whole, between...)
}

// rules writes the rules of ligtable.
func (w *writer) rules(l []api.Rule) {
	ahead := ":"
	for i := range l {
		w.put(ahead)
		w.expr(&l[i].Next, whole)
		w.put(l[i].Text)
		w.expr(&l[i].Value, whole)
		ahead = ","
	}
}
