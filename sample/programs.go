package sample

import "fleuron/api"

// Parts make what the statements of a program are made of.
type Parts struct {
	Tag, Variable, Expr func() api.Expr // a variable without suffixes, a variable, an expression
}

// List returns from least to most expressions.
func (m Maker) List(part func() api.Expr, least, most int) []api.Expr {
	var l []api.Expr
	for range m.Pick(most-least+1) + least {
		l = append(l, part())
	}
	return l
}

// Program returns up to three statements that are nested at most so deep.
func (m Maker) Program(depth int, of Parts) []api.Stmt {
	var l []api.Stmt
	for range m.Pick(4) {
		l = append(l, m.Statement(depth, of))
	}
	return l
}

// Statement returns a statement that is nested at most so deep.
func (m Maker) Statement(depth int, of Parts) api.Stmt {
	op := api.StmtOp(m.Pick(int(api.SShow) + 1))
	switch op {
	case api.SIf, api.SFor, api.SEach, api.SForever, api.SGroup, api.SChar:
		if depth <= 1 {
			return m.Statement(depth, of)
		}
		return m.nest(op, depth, of)
	}
	return m.simple(op, of)
}

// nest returns a statement in which others stand.
func (m Maker) nest(op api.StmtOp, depth int, of Parts) api.Stmt {
	s := api.Stmt{Op: op}
	bodies := 1
	switch op {
	case api.SIf:
		s.Exprs = m.List(of.Expr, 1, 3)
		bodies = len(s.Exprs) + m.Pick(2)
	case api.SFor:
		s.Text = m.One(m.Names)
		s.Exprs = m.List(of.Expr, 3, 3)
	case api.SEach:
		s.Text = m.One(m.Names)
		s.Exprs = m.List(of.Expr, 1, 4)
	case api.SChar:
		s.Exprs = m.List(of.Expr, 4, 4)
	}
	for range bodies {
		s.Bodies = append(s.Bodies, m.Program(depth-1, of))
	}
	return s
}

// simple returns a statement in which no others stand.
func (m Maker) simple(op api.StmtOp, of Parts) api.Stmt {
	s := api.Stmt{Op: op}
	switch op {
	case api.SEquals:
		s.Exprs = m.List(of.Expr, 2, 4)
	case api.SAssign:
		s.Exprs = append(m.List(of.Variable, 1, 1), of.Expr())
	case api.SDeclare:
		s.Text = m.One("numeric pair boolean string transform path pen")
		s.Exprs = m.List(of.Tag, 1, 4)
	case api.SSave:
		s.Exprs = m.List(of.Tag, 1, 4)
	case api.SFill, api.SDraw:
		s.Text = "draw"
		if op == api.SFill {
			s.Text = m.One("fill evenfill")
		}
		s.Exprs = m.List(of.Expr, 1, 3)
		s.Ink = m.List(of.Expr, 0, 1)
	case api.SClip:
		s.Text = m.One("clip evenclip")
		s.Exprs = m.List(of.Expr, 1, 3)
	case api.SExit, api.SPickup, api.SMessage:
		s.Exprs = m.List(of.Expr, 1, 1)
	case api.SLig:
		s.Exprs = m.List(of.Expr, 1, 1)
		for range m.Pick(3) + 1 {
			k := m.List(of.Expr, 2, 2)
			s.Rules = append(s.Rules, api.Rule{Text: m.One("kern =: |=: =:| |=:|"), Next: k[0], Value: k[1]})
		}
	case api.SShow:
		s.Exprs = m.List(of.Expr, 1, 4)
	}
	return s
}
