package show

import (
	"fleuron/api"
	"fleuron/lex"
	"fleuron/tree"
)

// named refuses an expression with a name that is spelled as a word.
func named(x *api.Expr) {
	tree.Visit(x, func(x *api.Expr) bool {
		if x.Op == api.EVar || x.Op == api.EDot {
			noWord(x.Text)
		}
		return true
	})
}

// namedAll refuses statements with such a name.
func namedAll(l []api.Stmt) {
	tree.VisitStatements(l, func(s api.Stmt) bool {
		if s.Op == api.SFor || s.Op == api.SEach {
			noWord(s.Text)
		}
		tree.Expressions(s, func(l []api.Expr) {
			for i := range l {
				named(&l[i])
			}
		})
		return true
	})
}

// noWord refuses a name that is spelled as a word, since it would be read as that.
func noWord(name string) {
	if lex.Word(name) {
		refuse(api.ErrName)
	}
}
