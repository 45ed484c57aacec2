package tree_test

import (
	"slices"
	"strings"
	"testing"

	"fleuron/api"
	"fleuron/tree"
)

// named returns a variable with some expressions as its suffixes.
func named(name string, kids ...api.Expr) api.Expr {
	return api.Expr{Op: api.EVar, Text: name, Kids: kids}
}

// names returns a row of variables.
func names(s string) []api.Expr {
	var l []api.Expr
	for _, n := range strings.Fields(s) {
		l = append(l, named(n))
	}
	return l
}

// path returns a path in which an expression stands in each place that there is.
func path() api.Expr {
	dir := func(name string) api.Dir { return api.Dir{Op: api.DirTo, E: names(name)} }
	return api.Expr{Op: api.EPath, Text: "path", Kids: []api.Expr{named("a", names("b c")...), named("d")}, Joins: []api.Join{{Leave: dir("e"), A: names("f g"), Come: dir("h")}, {A: names("i")}}}
}

// The parts of a node are those of its joins, too, in the order in which they stand there.
func TestParts(t *testing.T) {
	x := path()
	var got []string
	tree.Parts(&x, func(l []api.Expr) {
		for _, k := range l {
			got = append(got, k.Text)
		}
	})
	if s := strings.Join(got, " "); s != "a d e f g h i" {
		t.Error(s)
	}
}

// All nodes are visited once each, as long as there is a wish for more; the order does not depend on what they are.
func TestVisit(t *testing.T) {
	x := path()
	var all []string
	see := func(x *api.Expr) bool {
		all = append(all, x.Text)
		return true
	}
	if !tree.Visit(&x, see) || all[0] != "path" {
		t.Error(all)
	}
	first := slices.Clone(all)
	slices.Sort(all)
	if s := strings.Join(all, " "); s != "a b c d e f g h i path" {
		t.Error(s)
	}
	for stop := range first {
		var seen []string
		whole := tree.Visit(&x, func(x *api.Expr) bool {
			seen = append(seen, x.Text)
			return x.Text != first[stop]
		})
		if whole || !slices.Equal(seen, first[:stop+1]) {
			t.Errorf("%v; want the first %d of %v", seen, stop+1, first)
		}
	}
	deep := named("a")
	for range 300000 {
		deep = named("a", deep)
	}
	count := 0
	tree.Visit(&deep, func(*api.Expr) bool { count++; return true })
	if count != 300001 {
		t.Error(count)
	}
}

// The same for statements.
func TestVisitStatements(t *testing.T) {
	s := func(text string, bodies ...[]api.Stmt) api.Stmt { return api.Stmt{Text: text, Bodies: bodies} }
	l := []api.Stmt{s("a"), s("b", []api.Stmt{s("c"), s("d", nil, []api.Stmt{s("e")})}, []api.Stmt{s("f")}), s("g")}
	var all []string
	if !tree.VisitStatements(l, func(s api.Stmt) bool { all = append(all, s.Text); return true }) {
		t.Error(all)
	}
	for stop := range all {
		var seen []string
		whole := tree.VisitStatements(l, func(s api.Stmt) bool { seen = append(seen, s.Text); return s.Text != all[stop] })
		if whole || !slices.Equal(seen, all[:stop+1]) {
			t.Errorf("%v; want the first %d of %v", seen, stop+1, all)
		}
	}
	slices.Sort(all)
	if s := strings.Join(all, ""); s != "abcdefg" {
		t.Error(s)
	}
	if !tree.VisitStatements(nil, func(api.Stmt) bool { return false }) {
		t.Error("there is a statement where none is")
	}
}

// The expressions of a statement are in its ink and in its rules, too, but not those of what stands within it.
func TestExpressions(t *testing.T) {
	s := api.Stmt{Exprs: names("a b"), Ink: names("c"), Rules: []api.Rule{{Next: named("d"), Value: named("e")}, {Next: named("f"), Value: named("g")}}, Bodies: [][]api.Stmt{{{Exprs: names("h")}}}}
	var got []string
	tree.Expressions(s, func(l []api.Expr) {
		for _, k := range l {
			got = append(got, k.Text)
		}
	})
	if s := strings.Join(got, " "); s != "a b c d e f g" {
		t.Error(s)
	}
}

// Each operation is of one kind; + and - are of two.
func TestOperations(t *testing.T) {
	for s, want := range map[string]string{"true": "constant", "sqrt": "unary", "point": "of", "mod": "product", "or": "sum", "&": "comparison", "+": "unary sum", "-": "unary sum", "=": "", "..": "", "fill": "", "": "", "a": "", "cycle": "", "of": ""} {
		var got []string
		for _, k := range []struct {
			name string
			is   func(string) bool
		}{{"constant", tree.IsConstant}, {"unary", tree.IsUnary}, {"of", tree.IsOf}, {"product", tree.IsProduct}, {"sum", tree.IsSum}, {"comparison", tree.IsComparison}} {
			if k.is(s) {
				got = append(got, k.name)
			}
		}
		if strings.Join(got, " ") != want {
			t.Errorf("%q is %v, want %s", s, got, want)
		}
	}
}
