package expr

import (
	"slices"

	"fleuron/api"
	"fleuron/lex"
	"fleuron/num"
	"fleuron/tree"
)

// alike reports whether two nodes differ at most in positions and in what their parts are.
func alike(a, b *api.Expr) bool {
	return a.Op == b.Op && a.Num == b.Num && a.Text == b.Text && a.Cycle == b.Cycle && len(a.Kids) == len(b.Kids) &&
		slices.EqualFunc(a.Joins, b.Joins, alikeJoins)
}

// alikeJoins reports whether two joins differ at most in what their parts are.
func alikeJoins(a, b api.Join) bool {
	return a.Op == b.Op && len(a.A) == len(b.A) && alikeDirs(a.Leave, b.Leave) && alikeDirs(a.Come, b.Come)
}

// alikeDirs reports whether two directions differ at most in what their parts are.
func alikeDirs(a, b api.Dir) bool { return a.Op == b.Op && len(a.E) == len(b.E) }

// sound reports whether a node is valid, if its parts are.
func sound(x *api.Expr) bool {
	dots := false
	tree.Parts(x, func(l []api.Expr) {
		dots = dots || slices.ContainsFunc(l, func(x api.Expr) bool { return x.Op == api.EDot })
	})
	switch {
	case dots && x.Op != api.EVar:
		return false
	case x.Op != api.ENum && x.Num != (api.Num{}):
		return false
	case x.Op != api.EPath && (len(x.Joins) > 0 || x.Cycle):
		return false
	}
	return soundParts(x)
}

// soundParts reports whether a node has the text, the number and as many parts as its kind asks for.
func soundParts(x *api.Expr) bool {
	kids := len(x.Kids)
	switch x.Op {
	case api.ENum:
		// All of these come up: P / Q is also P / 10 divided by Q / 10, and these are numbers in decimals.
		return kids == 0 && x.Text == "" && num.Valid(x.Num) && x.Num.P >= 0
	case api.EText:
		return kids == 0 && isToken(api.TokText, x.Text)
	case api.EVar:
		return isToken(api.TokName, x.Text)
	case api.EDot:
		return kids == 0 && isToken(api.TokName, x.Text)
	case api.EPair:
		return kids == 2 && x.Text == ""
	case api.EUnary:
		return kids == 0 && tree.IsConstant(x.Text) || kids == 1 && tree.IsUnary(x.Text)
	case api.EBinary:
		return kids == 2 && isBinary(x.Text)
	case api.EBetween:
		return kids == 3 && x.Text == ""
	case api.EPath:
		return x.Text == "" && soundPath(x)
	}
	return false
}

// isToken reports whether a text is that of a token of this kind.
func isToken(kind api.TokKind, text string) bool {
	return lex.Valid(api.Token{Kind: kind, Text: text})
}

// isBinary reports whether a word or a sign is an operation of two operands.
func isBinary(s string) bool {
	return tree.IsOf(s) || tree.IsProduct(s) || tree.IsSum(s) || isComparisonOrEqual(s)
}

// soundPath reports whether a path has as many joins as its knots ask for, each of them sound.
func soundPath(x *api.Expr) bool {
	joins := len(x.Kids)
	if !x.Cycle {
		joins--
	}
	if joins < 1 || len(x.Joins) != joins {
		return false
	}
	return !slices.ContainsFunc(x.Joins, func(j api.Join) bool { return !soundJoin(j) })
}

// soundJoin reports whether a join has what its kind asks for.
func soundJoin(j api.Join) bool {
	if !soundDir(j.Leave) || !soundDir(j.Come) {
		return false
	}
	switch j.Op {
	case api.JLine:
		return len(j.A) == 0 && j.Leave.Op == api.DirNone && j.Come.Op == api.DirNone
	case api.JControls:
		return len(j.A) == 1 || len(j.A) == 2
	case api.JCurve:
		return len(j.A) <= 2
	}
	return false
}

// soundDir reports whether a direction has an expression where its kind asks for one.
func soundDir(d api.Dir) bool {
	switch d.Op {
	case api.DirNone:
		return len(d.E) == 0
	case api.DirTo, api.DirCurl:
		return len(d.E) == 1
	}
	return false
}
