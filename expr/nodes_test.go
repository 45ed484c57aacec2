package expr_test

import (
	"math"
	"slices"
	"strings"
	"testing"

	"fleuron/api"
	"fleuron/expr"
	"fleuron/sample"
)

// nodesOf returns all nodes of an expression, itself first.
func nodesOf(x *api.Expr) []*api.Expr {
	l := []*api.Expr{x}
	for _, kids := range partsOf(x) {
		for i := range kids {
			l = append(l, nodesOf(&kids[i])...)
		}
	}
	return l
}

func partsOf(x *api.Expr) [][]api.Expr {
	l := [][]api.Expr{x.Kids}
	for _, j := range x.Joins {
		l = append(l, j.Leave.E, j.A, j.Come.E)
	}
	return l
}

// copied returns an expression that shares nothing with the one that it is a copy of.
func copied(x api.Expr) api.Expr {
	all := func(l []api.Expr) []api.Expr {
		var out []api.Expr
		for _, k := range l {
			out = append(out, copied(k))
		}
		return out
	}
	x.Kids = all(x.Kids)
	x.Joins = slices.Clone(x.Joins)
	for i := range x.Joins {
		j := &x.Joins[i]
		j.A, j.Leave.E, j.Come.E = all(j.A), all(j.Leave.E), all(j.Come.E)
	}
	return x
}

// moved returns an expression with other positions.
func (r random) moved(x api.Expr) api.Expr {
	x = copied(x)
	for _, k := range nodesOf(&x) {
		k.Line, k.Col = int(r.Int64()), []int{0, -1, math.MaxInt, math.MinInt}[r.IntN(4)]
	}
	return x
}

// A few nodes.
func number(p, q int64) api.Expr           { return api.Expr{Op: api.ENum, Num: api.Num{P: p, Q: q}} }
func text(s string) api.Expr               { return api.Expr{Op: api.EText, Text: s} }
func dot(s string) api.Expr                { return api.Expr{Op: api.EDot, Text: s} }
func tag(s string, l ...api.Expr) api.Expr { return api.Expr{Op: api.EVar, Text: s, Kids: l} }

// op returns a node with a text and Kids.
func op(kind api.ExprOp, s string, l ...api.Expr) api.Expr {
	return api.Expr{Op: kind, Text: s, Kids: l}
}

// ring returns a path with a cycle, of one knot and this join.
func ring(j api.Join) api.Expr {
	return api.Expr{Op: api.EPath, Cycle: true, Kids: []api.Expr{tag("a")}, Joins: []api.Join{j}}
}

// route returns a path with so many knots and joins.
func route(knots, joins int, cycle bool) api.Expr {
	return api.Expr{Op: api.EPath, Cycle: cycle, Kids: slices.Repeat([]api.Expr{tag("a")}, knots), Joins: make([]api.Join, joins)}
}

// P5.3: expressions that are valid.
func TestValid(t *testing.T) {
	a := tag("a")
	long := strings.Repeat("x", 40)
	valid := []api.Expr{
		number(0, 1), number(1, 3), number(api.MaxNum, 1), number(api.MaxNum, api.MaxNum-1), number(1, api.MaxNum), number(api.MaxNum, 2), number(1, 65536),
		text(""), text(" !#~"), text(strings.Repeat("x", 100)), tag(long), tag("fill"), tag("true"), tag("_"),
		tag("a", number(1, 3), dot(long), dot("fill"), text("s"), a, op(api.EBinary, "=", a, a), op(api.EPair, "", a, a), route(2, 1, false)),
		op(api.EPair, "", a, op(api.EBinary, "=", a, a)), op(api.EBetween, "", op(api.EBinary, "=", a, a), route(2, 1, false), text("")),
		route(2, 1, false), route(1, 1, true), route(5, 4, false), route(5, 5, true), route(1000, 999, false), op(api.EBinary, "*", number(1, 2), number(3, 1)), op(api.EBinary, "/", number(1, 1), number(0, 1)),
		ring(api.Join{Op: api.JLine}), ring(api.Join{A: []api.Expr{a}}), ring(api.Join{A: []api.Expr{a, a}}), ring(api.Join{Op: api.JControls, A: []api.Expr{a}}), ring(api.Join{Op: api.JControls, A: []api.Expr{a, a}}),
		ring(api.Join{Leave: api.Dir{Op: api.DirTo, E: []api.Expr{a}}, Come: api.Dir{Op: api.DirCurl, E: []api.Expr{a}}}), ring(api.Join{Op: api.JControls, A: []api.Expr{a}, Come: api.Dir{Op: api.DirTo, E: []api.Expr{a}}}),
		{Op: api.EVar, Text: "a", Kids: []api.Expr{}, Joins: []api.Join{}}, ring(api.Join{Op: api.JLine, A: []api.Expr{}, Leave: api.Dir{E: []api.Expr{}}}),
	}
	for _, s := range strings.Fields(sample.Constants) {
		valid = append(valid, op(api.EUnary, s))
	}
	for _, s := range strings.Fields(sample.Unary) {
		valid = append(valid, op(api.EUnary, s, a), op(api.EUnary, s, number(1, 1)), op(api.EUnary, s, route(2, 1, false)))
	}
	for _, s := range strings.Fields(sample.Products + " " + sample.Sums + " " + sample.Comparisons + " = " + sample.Of) {
		valid = append(valid, op(api.EBinary, s, a, a), op(api.EBinary, s, number(1, 1), op(api.EBinary, "=", a, a)))
	}
	r := newRandom()
	for _, x := range valid {
		for _, x := range []api.Expr{x, r.moved(x), op(api.EUnary, "-", x), tag("b", x), op(api.EBetween, "", x, x, x), ring(api.Join{Come: api.Dir{Op: api.DirTo, E: []api.Expr{x}}, A: []api.Expr{x}})} {
			if !expr.Valid(x) {
				t.Errorf("%.300s is not valid", dump(x, false))
			}
		}
		w := &writer{random: r}
		w.write(x, asCond)
		if y, f := expr.Cond(w.l); f != (api.Fault{}) || !expr.Same(x, y) {
			t.Errorf("%.300s is not what Cond gives: %.300s, %v", dump(x, false), dump(y, false), f)
		}
	}
}

// invalid returns expressions that are not valid, each for a reason of its own.
func invalid() []api.Expr {
	a := tag("a")
	one := []api.Expr{a}
	three := []api.Expr{a, a, a}
	dots := []api.Expr{dot("a")}
	huge := strings.Repeat("x", 1<<20)
	l := []api.Expr{
		{}, number(-1, 1), number(-1, 3), number(2, 2), number(2, 4), number(0, 2), number(1, 0), number(0, 0), number(1, -1), number(-1, -1), number(api.MaxNum+1, 1), number(1, api.MaxNum+1),
		number(math.MinInt64, 1), number(1, math.MinInt64), number(math.MaxInt64, math.MaxInt64), number(math.MinInt64, math.MinInt64),
		{Op: api.ENum, Num: api.Num{P: 1, Q: 1}, Text: "1"}, {Op: api.ENum, Num: api.Num{P: 1, Q: 1}, Kids: one},
		text("\""), text("\n"), text("\x7f"), text("é"), text(strings.Repeat("x", 101)), text(huge), op(api.EText, "s", a),
		tag(""), tag("a1"), tag("a b"), tag("é"), tag("+"), tag(strings.Repeat("x", 41)), tag(huge), tag("a", tag("")), tag("a", dot("")), tag("a", dot("1")), tag("a", dot(strings.Repeat("x", 41))),
		tag("a", op(api.EDot, "b", a)), dot("a"), {Op: api.EDot}, tag("a", number(-1, 1)), tag("a", tag("b", text("\""))),
		op(api.EPair, ""), op(api.EPair, "", a), op(api.EPair, "", three...), op(api.EPair, "(", a, a), op(api.EPair, ",", a, a),
		op(api.EUnary, "true", a), op(api.EUnary, "identity", a), op(api.EUnary, "-"), op(api.EUnary, "sqrt"), op(api.EUnary, "-", a, a), op(api.EUnary, "", a), op(api.EUnary, ""), op(api.EUnary, "*", a), op(api.EUnary, "point", a),
		op(api.EUnary, "cycle"), op(api.EUnary, "cycle", a), op(api.EUnary, "curl", a), op(api.EUnary, "Sqrt", a), op(api.EUnary, "sqrt ", a), op(api.EUnary, "++", a), op(api.EUnary, "nullpicture"), op(api.EUnary, "turningnumber", a), op(api.EUnary, huge, a),
		op(api.EBinary, "+"), op(api.EBinary, "+", a), op(api.EBinary, "+", three...), op(api.EBinary, "point", a), op(api.EBinary, "point", three...), op(api.EBinary, "", a, a), op(api.EBinary, "sqrt", a, a), op(api.EBinary, "true", a, a),
		op(api.EBinary, ":=", a, a), op(api.EBinary, "..", a, a), op(api.EBinary, "--", a, a), op(api.EBinary, "of", a, a), op(api.EBinary, "not", a, a), op(api.EBinary, "[", a, a), op(api.EBinary, "=:", a, a), op(api.EBinary, "==", a, a), op(api.EBinary, huge, a, a),
		op(api.EBinary, "also", a, a), op(api.EBinary, "tension", a, a), op(api.EBinary, ",", a, a), op(api.EBinary, ".", a, a),
		op(api.EBetween, ""), op(api.EBetween, "", a, a), op(api.EBetween, "", a, a, a, a), op(api.EBetween, "[", three...),
		{Op: 9, Kids: one}, {Op: 9}, {Op: -1}, {Op: 256 + api.EVar, Text: "a"}, {Op: math.MaxInt, Text: "a"}, {Op: math.MinInt, Text: "a"},
		route(0, 0, false), route(0, 0, true), route(1, 0, false), route(1, 0, true), route(1, 1, false), route(2, 0, false), route(2, 2, false), route(2, 1, true), route(2, 3, true), route(3, 1, false), route(0, 1, true), route(0, 1, false), route(2, 3, false),
		{Op: api.EPath, Text: "..", Kids: []api.Expr{a, a}, Joins: make([]api.Join, 1)}, {Op: api.EPath, Text: "cycle", Cycle: true, Kids: one, Joins: make([]api.Join, 1)},
	}
	for _, x := range []api.Expr{text("s"), a, tag("a", dot("b")), op(api.EPair, "", a, a), op(api.EUnary, "true"), op(api.EUnary, "-", a), op(api.EBinary, "+", a, a), op(api.EBetween, "", three...), route(2, 1, false), route(1, 1, true)} {
		for _, n := range []api.Num{{P: 0, Q: 1}, {P: 1, Q: 1}, {P: 1, Q: 0}, {P: -1, Q: 5}} {
			x.Num = n
			l = append(l, x)
		}
	}
	for _, x := range []api.Expr{number(1, 1), text("s"), a, op(api.EPair, "", a, a), op(api.EUnary, "true"), op(api.EUnary, "-", a), op(api.EBinary, "+", a, a), op(api.EBetween, "", three...)} {
		y := x
		x.Cycle = true
		y.Joins = make([]api.Join, 1)
		l = append(l, x, y)
	}
	for _, x := range []api.Expr{op(api.EPair, "", a, dot("a")), op(api.EPair, "", dot("a"), a), op(api.EUnary, "-", dots...), op(api.EBinary, "+", a, dot("b")), op(api.EBinary, "point", dot("b"), a), op(api.EBetween, "", a, a, dot("b")), op(api.EBetween, "", dot("b"), a, a)} {
		l = append(l, x)
	}
	to := func(op api.DirOp, l ...api.Expr) api.Dir { return api.Dir{Op: op, E: l} }
	for _, d := range []api.Dir{to(api.DirNone, a), to(api.DirTo), to(api.DirTo, a, a), to(api.DirCurl), to(api.DirCurl, a, a), to(3), to(3, a), to(-1, a), to(api.DirTo, dots...), to(api.DirCurl, number(-1, 1)), to(math.MinInt)} {
		for _, op := range []api.JoinOp{api.JCurve, api.JControls} {
			l = append(l, ring(api.Join{Op: op, A: one, Leave: d}), ring(api.Join{Op: op, A: one, Come: d}))
		}
	}
	for _, j := range []api.Join{
		{Op: api.JLine, A: one}, {Op: api.JLine, Leave: to(api.DirTo, a)}, {Op: api.JLine, Come: to(api.DirCurl, a)}, {Op: api.JCurve, A: three}, {Op: api.JControls}, {Op: api.JControls, A: three}, {Op: 3}, {Op: 3, A: one}, {Op: -1}, {Op: math.MinInt},
		{Op: api.JCurve, A: dots}, {Op: api.JControls, A: dots}, {Op: api.JCurve, A: []api.Expr{a, {}}},
	} {
		l = append(l, ring(j))
		x := route(3, 2, false)
		x.Joins[1] = j
		l = append(l, x)
	}
	return l
}

// P5.3 and P5.4: expressions that are not valid, on their own and in others.
func TestInvalid(t *testing.T) {
	a := tag("a")
	for _, x := range invalid() {
		within := []api.Expr{x, op(api.EUnary, "-", x), op(api.EPair, "", a, x), op(api.EBinary, "+", x, a), op(api.EBetween, "", a, x, a), op(api.EUnary, "not", op(api.EUnary, "not", x)),
			ring(api.Join{A: []api.Expr{a, x}}), ring(api.Join{Leave: api.Dir{Op: api.DirTo, E: []api.Expr{x}}}), ring(api.Join{Come: api.Dir{Op: api.DirCurl, E: []api.Expr{x}}})}
		if x.Op != api.EDot || len(x.Kids) > 0 || x.Text == "" {
			within = append(within, tag("a", x), tag("a", dot("b"), x, dot("c")))
		}
		for _, x := range within {
			if expr.Valid(x) {
				t.Errorf("%.300s is valid", dump(x, false))
			}
			if tags, e := expr.Tags(x); len(tags) > 0 || e != api.ErrArg {
				t.Errorf("Tags of %.300s: %v, %v", dump(x, false), tags, e)
			}
			if size, e := expr.Size(x); size != 0 || e != api.ErrArg {
				t.Errorf("Size of %.300s: %v, %v", dump(x, false), size, e)
			}
			if !expr.Same(x, x) || expr.Same(x, a) || expr.Same(a, x) {
				t.Errorf("Same of %.300s, and of it and a variable", dump(x, false))
			}
		}
	}
}

// P5.3: expressions that differ in one place, whether they are valid or not.
func TestSame(t *testing.T) {
	changes := []func(r random, x *api.Expr){
		func(r random, x *api.Expr) { x.Op++ },
		func(r random, x *api.Expr) { x.Num.P++ },
		func(r random, x *api.Expr) { x.Num.Q-- },
		func(r random, x *api.Expr) { x.Text += "x" },
		func(r random, x *api.Expr) { x.Cycle = !x.Cycle },
		func(r random, x *api.Expr) { x.Kids = append(x.Kids, api.Expr{}) },
		func(r random, x *api.Expr) { x.Kids = slices.Insert(x.Kids, 0, tag("new")) },
		func(r random, x *api.Expr) { x.Joins = append(x.Joins, api.Join{}) },
		func(r random, x *api.Expr) { x.Kids = append(x.Kids[:0:0], x.Kids[:max(len(x.Kids)-1, 0)]...) },
		func(r random, x *api.Expr) { x.Joins = x.Joins[:max(len(x.Joins)-1, 0)] },
	}
	joins := []func(j *api.Join){
		func(j *api.Join) { j.Op++ }, func(j *api.Join) { j.Leave.Op++ }, func(j *api.Join) { j.Come.Op-- }, func(j *api.Join) { j.A = append(j.A, tag("new")) },
		func(j *api.Join) { j.Leave.E = append(j.Leave.E, api.Expr{}) }, func(j *api.Join) { j.Come.E = append(j.Come.E, api.Expr{}) }, func(j *api.Join) { j.Leave, j.Come = j.Come, j.Leave },
		func(j *api.Join) { j.A, j.Come.E = append(slices.Clone(j.A), j.Come.E...), nil }, func(j *api.Join) { j.Leave.E, j.A = nil, append(slices.Clone(j.Leave.E), j.A...) },
	}
	r := newRandom()
	for range 20000 {
		x := r.Expr(1 + r.IntN(5))
		y := r.moved(x)
		if !expr.Same(x, y) || !expr.Same(y, x) || !expr.Same(x, x) {
			t.Fatalf("%s is not the same as it is elsewhere", dump(x, false))
		}
		nodes := nodesOf(&y)
		k := nodes[r.IntN(len(nodes))]
		if n := len(k.Joins); n > 0 && r.IntN(2) == 0 {
			joins[r.IntN(len(joins))](&k.Joins[r.IntN(n)])
		} else {
			changes[r.IntN(len(changes))](r, k)
		}
		if want := shape(x) == shape(y); expr.Same(x, y) != want || expr.Same(y, x) != want {
			t.Fatalf("Same of %s and %s is not %v", shape(x), shape(y), want)
		}
	}
	none := api.Expr{Op: api.EVar, Text: "a"}
	empty := api.Expr{Op: api.EVar, Text: "a", Kids: []api.Expr{}, Joins: []api.Join{}, Line: 1, Col: 2}
	if !expr.Same(none, empty) || !expr.Same(empty, none) || !expr.Same(api.Expr{}, api.Expr{}) || expr.Same(none, api.Expr{}) {
		t.Error("no Kids are not the same as none")
	}
	if expr.Same(tag("a", tag("b", tag("c"))), tag("a", tag("b"), tag("c"))) || expr.Same(op(api.EPair, "", tag("a", tag("b")), tag("c")), op(api.EPair, "", tag("a"), tag("b", tag("c")))) {
		t.Error("nodes in another order are the same")
	}
	if expr.Same(op(api.EBinary, "-", tag("a"), tag("b")), op(api.EBinary, "-", tag("b"), tag("a"))) {
		t.Error("a-b is the same as b-a")
	}
}

// shape writes all that there is in an expression but positions.
func shape(x api.Expr) string {
	var out strings.Builder
	var all func(l []api.Expr)
	numbers := func(l ...int) {
		for _, n := range l {
			out.WriteString(" " + dump(number(int64(n), 1), false))
		}
	}
	all = func(l []api.Expr) {
		out.WriteString("[")
		for _, x := range l {
			cycle := 0
			if x.Cycle {
				cycle = 1
			}
			numbers(int(x.Op), int(x.Num.P), int(x.Num.Q), cycle)
			out.WriteString(" " + x.Text + ";")
			all(x.Kids)
			for _, j := range x.Joins {
				numbers(int(j.Op), int(j.Leave.Op), int(j.Come.Op))
				all(j.Leave.E)
				all(j.A)
				all(j.Come.E)
			}
			out.WriteString(";")
		}
		out.WriteString("]")
	}
	all([]api.Expr{x})
	return out.String()
}

// P5.4: names and nodes, counted.
func TestTagsSize(t *testing.T) {
	for _, c := range []struct {
		s    string
		tags string
		size int
	}{
		{"1", "", 1}, {"1/2", "", 1}, {"\"a\"", "", 1}, {"true", "", 1}, {"a", "a", 1}, {"a1", "a", 2}, {"2a1", "a", 4}, {"a.b", "a", 2}, {"a[b].c[d1]", "a b d", 5}, {"(b,a)", "a b", 3}, {"((a))", "a", 1},
		{"b+a+B+_+a", "B _ a b", 9}, {"a[b,c]", "a b c", 4}, {"point a of b", "a b", 3}, {"sqrt a", "a", 2}, {"c..b--a", "a b c", 4}, {"c..cycle", "c", 2},
		{"h{g}..tension f and e..{curl d}c{curl b}..controls a..cycle", "a b c d e f g h", 9}, {"N_fill+N_and.N_or", "and fill", 4}, {"ab+a+abc+b", "a ab abc b", 7},
	} {
		x, f := expr.Parse(parsed(t, c.s))
		tags, e := expr.Tags(x)
		size, g := expr.Size(x)
		if f != (api.Fault{}) || e != api.OK || g != api.OK || strings.Join(tags, " ") != c.tags || size != c.size {
			t.Errorf("%s: %v; %v, %v; %d, %v; want %s; %d", c.s, f, tags, e, size, g, c.tags, c.size)
		}
	}
	r := newRandom()
	for range 5000 {
		x := r.Expr(1 + r.IntN(5))
		nodes := nodesOf(&x)
		var want []string
		for _, k := range nodes {
			if k.Op == api.EVar && !slices.Contains(want, k.Text) {
				want = append(want, k.Text)
			}
		}
		slices.Sort(want)
		tags, e := expr.Tags(x)
		size, f := expr.Size(x)
		if e != api.OK || f != api.OK || !slices.Equal(tags, want) || size != len(nodes) {
			t.Fatalf("%s: %v, %v; %d, %v; want %v; %d", dump(x, false), tags, e, size, f, want, len(nodes))
		}
	}
}

// P5.3: one change makes an expression another one; where it is still valid, tokens are read as it.
func TestChanged(t *testing.T) {
	r := newRandom()
	for range 20000 {
		x := copied(r.Expr(1 + r.IntN(4)))
		nodes := nodesOf(&x)
		k := nodes[r.IntN(len(nodes))]
		switch r.IntN(6) {
		case 0:
			k.Op = api.ExprOp(r.IntN(10))
		case 1:
			k.Text = r.One(sample.Unary + " " + sample.Constants + " " + sample.Products + " " + sample.Of + " of cycle =: a")
		case 2:
			k.Kids = r.Exprs(r.IntN(4), 1)
		case 3:
			k.Cycle = !k.Cycle
		case 4:
			k.Num = api.Num{P: r.Int64N(5) - 1, Q: r.Int64N(4)}
		case 5:
			if len(k.Joins) > 0 {
				k.Joins[r.IntN(len(k.Joins))] = api.Join{Op: api.JoinOp(r.IntN(3)), A: r.Exprs(r.IntN(4), 1), Leave: api.Dir{Op: api.DirOp(r.IntN(3)), E: r.Exprs(r.IntN(2), 1)}}
			}
		}
		valid := expr.Valid(x)
		y, f, ok := reread(r, x)
		if valid != (ok && f == (api.Fault{}) && expr.Same(x, y)) {
			t.Fatalf("Valid of %s is %v; what is written of it is read as %s, %v", shape(x), valid, dump(y, false), f)
		}
	}
}

// reread reads what is written of an expression; ok is false if the writer knows no tokens for it.
func reread(r random, x api.Expr) (y api.Expr, f api.Fault, ok bool) {
	defer func() { _ = recover() }()
	w := &writer{random: r}
	w.write(x, asCond)
	y, f = expr.Cond(w.l)
	return y, f, true
}

// P5.3 and P5.4: expressions that are nested deeper than tokens can be.
func TestDeepNodes(t *testing.T) {
	const depth = 200000
	build := func(inner api.Expr, around func(x api.Expr) api.Expr) api.Expr {
		for range depth {
			inner = around(inner)
		}
		return inner
	}
	for _, around := range []func(x api.Expr) api.Expr{
		func(x api.Expr) api.Expr { return op(api.EUnary, "-", x) },
		func(x api.Expr) api.Expr { return tag("b", x) },
		func(x api.Expr) api.Expr { return op(api.EBinary, "=", tag("a"), x) },
		func(x api.Expr) api.Expr { return op(api.EPair, "", x, number(1, 1)) },
		func(x api.Expr) api.Expr { return ring(api.Join{Op: api.JControls, A: []api.Expr{x}}) },
		func(x api.Expr) api.Expr { return ring(api.Join{Come: api.Dir{Op: api.DirTo, E: []api.Expr{x}}}) },
	} {
		x := build(tag("a"), around)
		nodes := 1
		for _, k := range partsOf(&x) {
			nodes += len(k)
		}
		tags, e := expr.Tags(x)
		size, f := expr.Size(x)
		if !expr.Valid(x) || !slices.Contains(tags, "a") || e != api.OK || size != depth*(nodes-1)+1 || f != api.OK {
			t.Errorf("%v, %v; %d, %v", tags, e, size, f)
		}
		if y := build(tag("a"), around); !expr.Same(x, y) {
			t.Error("it is not the same as it is elsewhere")
		}
		if y := build(tag("c"), around); expr.Same(x, y) {
			t.Error("it is the same with another name in it")
		}
		if y := build(dot("1"), around); expr.Valid(y) {
			t.Error("it is valid with a fault in it")
		}
	}
}

// Results share no memory with arguments, or with each other.
func TestShared(t *testing.T) {
	l := parsed(t, "a[b,c1][2d,e]{f}..tension 1 and 2..(g,h)--cycle")
	x, _ := expr.Parse(l)
	y, _ := expr.Parse(l)
	for _, k := range nodesOf(&x) {
		k.Text, k.Op = "changed", 99
		for i := range k.Joins {
			k.Joins[i] = api.Join{}
		}
	}
	if z, _ := expr.Parse(l); dump(y, true) != dump(z, true) {
		t.Errorf("%s became %s", dump(z, true), dump(y, true))
	}
	tags, _ := expr.Tags(y)
	tags[0] = "changed"
	if again, _ := expr.Tags(y); again[0] != "a" {
		t.Errorf("%v", again)
	}
}
