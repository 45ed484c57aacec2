// Package tree is what the layers share that are about programs that have been parsed: what nodes and statements are made of, gone through, and what operations bind like.
package tree

import "fleuron/api"

// Parts calls see with the expressions that a node is made of, slice by slice.
func Parts(x *api.Expr, see func(l []api.Expr)) {
	see(x.Kids)
	for _, j := range x.Joins {
		see(j.Leave.E)
		see(j.A)
		see(j.Come.E)
	}
}

// Visit calls see with an expression and all that it is made of, as long as see returns true, and reports whether it always did.
func Visit(x *api.Expr, see func(x *api.Expr) bool) bool {
	// It does not call itself: a chain of operations is as deep as it is long.
	waiting := []*api.Expr{x}
	for len(waiting) > 0 {
		last := len(waiting) - 1
		x := waiting[last]
		waiting = waiting[:last]
		if !see(x) {
			return false
		}
		Parts(x, func(l []api.Expr) {
			for i := range l {
				waiting = append(waiting, &l[i])
			}
		})
	}
	return true
}

// VisitStatements calls see with statements and all that stand within them, as long as see returns true, and reports whether it always did.
func VisitStatements(l []api.Stmt, see func(s api.Stmt) bool) bool {
	// It does not call itself, so that statements may be nested to any depth.
	waiting := [][]api.Stmt{l}
	for len(waiting) > 0 {
		last := len(waiting) - 1
		body := waiting[last]
		waiting = waiting[:last]
		for _, s := range body {
			if !see(s) {
				return false
			}
			waiting = append(waiting, s.Bodies...)
		}
	}
	return true
}

// Expressions calls see with the expressions of a statement, without those of the statements within it, slice by slice.
func Expressions(s api.Stmt, see func(l []api.Expr)) {
	see(s.Exprs)
	see(s.Ink)
	for _, r := range s.Rules {
		see([]api.Expr{r.Next, r.Value})
	}
}
