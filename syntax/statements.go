package syntax

import (
	"slices"

	"fleuron/api"
	"fleuron/expr"
	"fleuron/lex"
)

// alike reports whether two statements differ at most in positions and in what stands within them.
func alike(a, b api.Stmt) bool {
	return a.Op == b.Op && a.Text == b.Text && len(a.Bodies) == len(b.Bodies) && slices.EqualFunc(a.Exprs, b.Exprs, expr.Same) &&
		slices.EqualFunc(a.Ink, b.Ink, expr.Same) && slices.EqualFunc(a.Rules, b.Rules, alikeRules)
}

// alikeRules reports whether two rules differ at most in positions.
func alikeRules(a, b api.Rule) bool {
	return a.Text == b.Text && expr.Same(a.Next, b.Next) && expr.Same(a.Value, b.Value)
}

// sound reports whether a statement is valid, if those within it are.
func sound(s api.Stmt) bool {
	return soundText(s) && soundParts(s) && all(s.Exprs, expr.Valid) && all(s.Ink, expr.Valid) && all(s.Rules, soundRule)
}

// all reports whether all of a list are sound.
func all[T any](l []T, sound func(x T) bool) bool {
	return !slices.ContainsFunc(l, func(x T) bool { return !sound(x) })
}

// soundText reports whether a statement has the text that its kind asks for.
func soundText(s api.Stmt) bool {
	switch s.Op {
	case api.SDeclare:
		return isType(s.Text)
	case api.SFor, api.SEach:
		return lex.Valid(api.Token{Kind: api.TokName, Text: s.Text})
	case api.SFill:
		return isFill(s.Text)
	case api.SDraw:
		return s.Text == "draw"
	case api.SClip:
		return isClip(s.Text)
	}
	return s.Text == ""
}

// soundParts reports whether a statement has as many parts as its kind asks for.
func soundParts(s api.Stmt) bool {
	exprs, bodies := len(s.Exprs), len(s.Bodies)
	switch {
	case len(s.Ink) > 0 && (s.Op != api.SFill && s.Op != api.SDraw || len(s.Ink) > 1):
		return false
	case (len(s.Rules) > 0) != (s.Op == api.SLig):
		return false
	}
	switch s.Op {
	case api.SEquals:
		return exprs >= 2 && bodies == 0
	case api.SAssign:
		return exprs == 2 && bodies == 0 && s.Exprs[0].Op == api.EVar
	case api.SDeclare, api.SSave:
		return exprs >= 1 && bodies == 0 && all(s.Exprs, isTag)
	case api.SIf:
		return exprs >= 1 && (bodies == exprs || bodies == exprs+1)
	case api.SFor:
		return exprs == 3 && bodies == 1
	case api.SEach:
		return exprs >= 1 && bodies == 1
	case api.SForever, api.SGroup:
		return exprs == 0 && bodies == 1
	case api.SChar:
		return exprs == 4 && bodies == 1
	case api.SFill, api.SDraw, api.SClip, api.SShow:
		return exprs >= 1 && bodies == 0
	case api.SUnclip:
		return exprs == 0 && bodies == 0
	case api.SExit, api.SPickup, api.SLig, api.SMessage:
		return exprs == 1 && bodies == 0
	}
	return false
}

// isTag reports whether an expression is a variable without suffixes.
func isTag(x api.Expr) bool { return x.Op == api.EVar && len(x.Kids) == 0 }

// soundRule reports whether a rule is valid.
func soundRule(r api.Rule) bool { return isRule(r.Text) && expr.Valid(r.Next) && expr.Valid(r.Value) }
