package syntax_test

import (
	"math"
	"slices"
	"strings"
	"testing"

	"fleuron/api"
	"fleuron/syntax"
)

// A few expressions: a tag, a variable with a suffix, a sum, a comparison, and two that are not valid.
func tag(s string) api.Expr { return api.Expr{Op: api.EVar, Text: s} }
func suffixed() api.Expr    { return api.Expr{Op: api.EVar, Text: "a", Kids: []api.Expr{tag("b")}} }
func sum() api.Expr         { return api.Expr{Op: api.EBinary, Text: "+", Kids: tags(2)} }
func equal() api.Expr       { return api.Expr{Op: api.EBinary, Text: "=", Kids: tags(2)} }
func dot() api.Expr         { return api.Expr{Op: api.EDot, Text: "a"} }
func broken() api.Expr {
	return api.Expr{Op: api.EPair, Kids: []api.Expr{tag("a"), {Op: api.EText, Text: "\""}}}
}

// tags returns so many tags.
func tags(n int) []api.Expr { return slices.Repeat([]api.Expr{tag("a")}, n) }

// bodies returns so many bodies without statements.
func bodies(n int) [][]api.Stmt { return make([][]api.Stmt, n) }

// rules returns so many rules.
func rules(n int) []api.Rule {
	return slices.Repeat([]api.Rule{{Text: "kern", Next: tag("a"), Value: sum()}}, n)
}

// valid returns a statement of each kind, in each of the forms that it has.
func valid() []api.Stmt {
	l := []api.Stmt{
		{Op: api.SEquals, Exprs: tags(2)}, {Op: api.SEquals, Exprs: tags(9)}, {Op: api.SEquals, Exprs: []api.Expr{equal(), sum()}}, {Op: api.SAssign, Exprs: tags(2)}, {Op: api.SAssign, Exprs: []api.Expr{suffixed(), equal()}}, {Op: api.SSave, Exprs: tags(1)}, {Op: api.SSave, Exprs: tags(3)},
		{Op: api.SSave, Exprs: []api.Expr{tag("fill"), tag("_"), tag(strings.Repeat("x", 40))}}, {Op: api.SIf, Exprs: tags(1), Bodies: bodies(1)}, {Op: api.SIf, Exprs: tags(1), Bodies: bodies(2)}, {Op: api.SIf, Exprs: tags(5), Bodies: bodies(5)}, {Op: api.SIf, Exprs: []api.Expr{equal(), sum()}, Bodies: bodies(3)},
		{Op: api.SFor, Text: "i", Exprs: tags(3), Bodies: bodies(1)}, {Op: api.SFor, Text: "fill", Exprs: []api.Expr{equal(), sum(), suffixed()}, Bodies: bodies(1)}, {Op: api.SEach, Text: "i", Exprs: tags(1), Bodies: bodies(1)}, {Op: api.SEach, Text: "_", Exprs: tags(3), Bodies: bodies(1)}, {Op: api.SEach, Text: strings.Repeat("x", 40), Exprs: tags(9), Bodies: bodies(1)},
		{Op: api.SForever, Bodies: bodies(1)}, {Op: api.SExit, Exprs: []api.Expr{equal()}}, {Op: api.SGroup, Bodies: bodies(1)}, {Op: api.SPickup, Exprs: tags(1)}, {Op: api.SFill, Text: "fill", Exprs: tags(1)}, {Op: api.SFill, Text: "evenfill", Exprs: tags(3), Ink: []api.Expr{sum()}}, {Op: api.SDraw, Text: "draw", Exprs: tags(1), Ink: []api.Expr{equal()}}, {Op: api.SDraw, Text: "draw", Exprs: tags(3)},
		{Op: api.SClip, Text: "clip", Exprs: tags(1)}, {Op: api.SClip, Text: "evenclip", Exprs: tags(4)}, {Op: api.SUnclip}, {Op: api.SChar, Exprs: tags(4), Bodies: bodies(1)}, {Op: api.SLig, Exprs: tags(1), Rules: rules(1)}, {Op: api.SLig, Exprs: []api.Expr{sum()}, Rules: rules(7)}, {Op: api.SMessage, Exprs: tags(1)}, {Op: api.SShow, Exprs: tags(1)}, {Op: api.SShow, Exprs: []api.Expr{equal(), sum(), tag("b")}},
		{Op: api.SUnclip, Exprs: []api.Expr{}, Ink: []api.Expr{}, Bodies: [][]api.Stmt{}, Rules: []api.Rule{}}, {Op: api.SGroup, Bodies: [][]api.Stmt{{}}, Ink: []api.Expr{}},
	}
	for _, word := range strings.Fields("numeric pair boolean string transform path pen") {
		l = append(l, api.Stmt{Op: api.SDeclare, Text: word, Exprs: tags(1)}, api.Stmt{Op: api.SDeclare, Text: word, Exprs: tags(4)})
	}
	for _, word := range strings.Fields("kern =: |=: =:| |=:|") {
		l = append(l, api.Stmt{Op: api.SLig, Exprs: tags(1), Rules: []api.Rule{{Text: word, Next: equal(), Value: tag("a")}}})
	}
	return l
}

// invalid returns statements that are not valid, each for a reason of its own.
func invalid() []api.Stmt {
	l := []api.Stmt{
		{Op: api.SEquals}, {Op: api.SEquals, Exprs: tags(1)}, {Op: api.SAssign}, {Op: api.SAssign, Exprs: tags(1)}, {Op: api.SAssign, Exprs: tags(3)}, {Op: api.SAssign, Exprs: []api.Expr{sum(), tag("a")}}, {Op: api.SAssign, Exprs: []api.Expr{{Op: api.ENum, Num: api.Num{P: 1, Q: 1}}, tag("a")}},
		{Op: api.SDeclare, Text: "pair"}, {Op: api.SDeclare, Exprs: tags(1)}, {Op: api.SDeclare, Text: "fill", Exprs: tags(1)}, {Op: api.SDeclare, Text: "Pair", Exprs: tags(1)}, {Op: api.SDeclare, Text: "pair ", Exprs: tags(1)}, {Op: api.SDeclare, Text: "pair", Exprs: []api.Expr{suffixed()}}, {Op: api.SDeclare, Text: "picture", Exprs: tags(1)},
		{Op: api.SDeclare, Text: "pair", Exprs: []api.Expr{tag("a"), sum()}}, {Op: api.SDeclare, Text: "pair", Exprs: []api.Expr{{Op: api.EUnary, Text: "true"}}}, {Op: api.SSave}, {Op: api.SSave, Exprs: []api.Expr{suffixed()}}, {Op: api.SSave, Exprs: []api.Expr{tag("a"), {Op: api.EText, Text: "a"}}}, {Op: api.SSave, Exprs: []api.Expr{tag("")}},
		{Op: api.SIf}, {Op: api.SIf, Bodies: bodies(1)}, {Op: api.SIf, Exprs: tags(1)}, {Op: api.SIf, Exprs: tags(1), Bodies: bodies(3)}, {Op: api.SIf, Exprs: tags(3), Bodies: bodies(2)}, {Op: api.SIf, Exprs: tags(2), Bodies: bodies(4)}, {Op: api.SFor, Text: "i", Exprs: tags(3)}, {Op: api.SFor, Text: "i", Exprs: tags(3), Bodies: bodies(2)},
		{Op: api.SFor, Text: "i", Exprs: tags(2), Bodies: bodies(1)}, {Op: api.SFor, Text: "i", Exprs: tags(4), Bodies: bodies(1)}, {Op: api.SFor, Text: "", Exprs: tags(3), Bodies: bodies(1)}, {Op: api.SFor, Text: "i1", Exprs: tags(3), Bodies: bodies(1)}, {Op: api.SFor, Text: strings.Repeat("x", 41), Exprs: tags(3), Bodies: bodies(1)}, {Op: api.SFor, Text: "i j", Exprs: tags(3), Bodies: bodies(1)},
		{Op: api.SEach, Text: "i", Bodies: bodies(1)}, {Op: api.SEach, Text: "i", Exprs: tags(1)}, {Op: api.SEach, Text: "i", Exprs: tags(1), Bodies: bodies(2)}, {Op: api.SEach, Exprs: tags(1), Bodies: bodies(1)}, {Op: api.SEach, Text: "+", Exprs: tags(1), Bodies: bodies(1)}, {Op: api.SForever}, {Op: api.SForever, Bodies: bodies(2)}, {Op: api.SForever, Exprs: tags(1), Bodies: bodies(1)},
		{Op: api.SForever, Text: "forever", Bodies: bodies(1)}, {Op: api.SExit}, {Op: api.SExit, Exprs: tags(2)}, {Op: api.SGroup}, {Op: api.SGroup, Bodies: bodies(2)}, {Op: api.SGroup, Exprs: tags(1), Bodies: bodies(1)}, {Op: api.SPickup}, {Op: api.SPickup, Exprs: tags(2)}, {Op: api.SFill, Text: "fill"}, {Op: api.SFill, Exprs: tags(1)}, {Op: api.SFill, Text: "draw", Exprs: tags(1)},
		{Op: api.SFill, Text: "clip", Exprs: tags(1)}, {Op: api.SFill, Text: "fill", Exprs: tags(1), Ink: tags(2)}, {Op: api.SFill, Text: "fill", Ink: tags(1)}, {Op: api.SDraw, Text: "draw"}, {Op: api.SDraw, Exprs: tags(1)}, {Op: api.SDraw, Text: "fill", Exprs: tags(1)}, {Op: api.SDraw, Text: "evendraw", Exprs: tags(1)}, {Op: api.SDraw, Text: "draw", Exprs: tags(1), Ink: tags(2)},
		{Op: api.SClip, Text: "clip"}, {Op: api.SClip, Exprs: tags(1)}, {Op: api.SClip, Text: "fill", Exprs: tags(1)}, {Op: api.SClip, Text: "unclip", Exprs: tags(1)}, {Op: api.SClip, Text: "clip", Exprs: tags(1), Ink: tags(1)}, {Op: api.SUnclip, Text: "unclip"}, {Op: api.SUnclip, Exprs: tags(1)}, {Op: api.SUnclip, Bodies: bodies(1)}, {Op: api.SChar, Bodies: bodies(1)},
		{Op: api.SChar, Exprs: tags(4)}, {Op: api.SChar, Exprs: tags(3), Bodies: bodies(1)}, {Op: api.SChar, Exprs: tags(5), Bodies: bodies(1)}, {Op: api.SChar, Exprs: tags(4), Bodies: bodies(2)}, {Op: api.SLig, Rules: rules(1)}, {Op: api.SLig, Exprs: tags(1)}, {Op: api.SLig, Exprs: tags(2), Rules: rules(1)}, {Op: api.SLig, Exprs: tags(1), Rules: []api.Rule{{Next: tag("a"), Value: tag("a")}}},
		{Op: api.SMessage}, {Op: api.SMessage, Exprs: tags(2)}, {Op: api.SShow}, {Op: api.SShow, Text: "show", Exprs: tags(1)}, {Op: api.SShow + 1}, {Op: api.SShow + 1, Exprs: tags(1)}, {Op: -1}, {Op: -1, Exprs: tags(2)}, {Op: math.MaxInt, Exprs: tags(1)}, {Op: math.MinInt}, {},
	}
	for _, word := range []string{"", "=", ":=", "=:=", "kern ", "fill", "|=", "=:|:", "Kern", "|"} {
		l = append(l, api.Stmt{Op: api.SLig, Exprs: tags(1), Rules: append(rules(1), api.Rule{Text: word, Next: tag("a"), Value: tag("a")})})
	}
	for _, x := range []api.Expr{dot(), broken(), {}, {Op: 9}} {
		l = append(l, api.Stmt{Op: api.SLig, Exprs: tags(1), Rules: []api.Rule{{Text: "kern", Next: x, Value: tag("a")}}}, api.Stmt{Op: api.SLig, Exprs: tags(1), Rules: append(rules(1), api.Rule{Text: "kern", Next: tag("a"), Value: x})})
		for _, s := range valid() {
			for i := range s.Exprs {
				other := s
				other.Exprs = slices.Clone(s.Exprs)
				other.Exprs[i] = x
				l = append(l, other)
			}
			if len(s.Ink) > 0 {
				s.Ink = []api.Expr{x}
				l = append(l, s)
			}
		}
	}
	for _, s := range valid() {
		a, b, c, d := s, s, s, s
		a.Text += "x"
		b.Rules = append(rules(1), api.Rule{})
		c.Ink = append(c.Ink, tags(2)...)
		d.Bodies = append(slices.Clone(d.Bodies), bodies(2)...)
		if (s.Op != api.SFor && s.Op != api.SEach) || len(a.Text) > api.MaxName {
			l = append(l, a)
		}
		l = append(l, b, c, d)
		if s.Op != api.SFill && s.Op != api.SDraw {
			s.Ink = tags(1)
			l = append(l, s)
			s.Ink = nil
		}
		if s.Op != api.SLig {
			s.Rules = rules(1)
			l = append(l, s)
		}
	}
	return l
}

// wrappings returns programs in which a statement stands, and how many statements each has.
func wrappings(s api.Stmt) map[int][]api.Stmt {
	show := api.Stmt{Op: api.SShow, Exprs: tags(1)}
	one := []api.Stmt{s}
	return map[int][]api.Stmt{
		1: one, 2: {{Op: api.SGroup, Bodies: [][]api.Stmt{one}}}, 3: {show, s, show}, 4: {{Op: api.SGroup, Bodies: [][]api.Stmt{{{Op: api.SForever, Bodies: [][]api.Stmt{{show, s}}}}}}},
		5: {{Op: api.SIf, Exprs: tags(2), Bodies: [][]api.Stmt{{show}, {show}, one}}, show}, 6: {{Op: api.SChar, Exprs: tags(4), Bodies: [][]api.Stmt{{s, show, show, show, show}}}}, 7: {{Op: api.SEach, Text: "i", Exprs: tags(1), Bodies: [][]api.Stmt{{show, s, show, show, show, show}}}},
	}
}

// P6.3 and P6.4: statements that are valid, and how many there are.
func TestValid(t *testing.T) {
	if n, e := syntax.Count(nil); !syntax.Valid(nil) || !syntax.Valid([]api.Stmt{}) || n != 0 || e != api.OK {
		t.Errorf("no statements: %d, %v", n, e)
	}
	for _, s := range valid() {
		s.Line, s.Col = math.MinInt, math.MaxInt
		for count, l := range wrappings(s) {
			if n, e := syntax.Count(l); !syntax.Valid(l) || n != count || e != api.OK {
				t.Errorf("%s: %d, %v; want %d", dump(l), n, e, count)
			}
			if !syntax.Same(l, l) {
				t.Errorf("%s is not the same as itself", dump(l))
			}
		}
	}
}

// P6.3 and P6.4: statements that are not valid, on their own and in others.
func TestInvalid(t *testing.T) {
	for _, s := range invalid() {
		for _, l := range wrappings(s) {
			if n, e := syntax.Count(l); syntax.Valid(l) || n != 0 || e != api.ErrArg {
				t.Errorf("%#v: %v, %d, %v", l, syntax.Valid(l), n, e)
			}
			if !syntax.Same(l, l) {
				t.Errorf("%#v is not the same as itself", l)
			}
		}
	}
}

// P6.3: statements that differ in one place, whether they are valid or not.
func TestSame(t *testing.T) {
	all := slices.Concat(valid(), invalid(), []api.Stmt{
		{Op: api.SEquals, Exprs: []api.Expr{tag("a"), tag("b")}}, {Op: api.SEquals, Exprs: []api.Expr{tag("b"), tag("a")}}, {Op: api.SIf, Exprs: tags(1), Bodies: [][]api.Stmt{{}, {{Op: api.SUnclip}}}}, {Op: api.SIf, Exprs: tags(1), Bodies: [][]api.Stmt{{{Op: api.SUnclip}}, {}}},
		{Op: api.SLig, Exprs: tags(1), Rules: []api.Rule{{Text: "=:", Next: tag("a"), Value: tag("b")}}}, {Op: api.SLig, Exprs: tags(1), Rules: []api.Rule{{Text: "=:", Next: tag("b"), Value: tag("a")}}}, {Op: api.SGroup, Bodies: [][]api.Stmt{{{Op: api.SGroup, Bodies: [][]api.Stmt{{{Op: api.SUnclip}}}}}}},
		{Op: api.SGroup, Bodies: [][]api.Stmt{{{Op: api.SGroup, Bodies: bodies(1)}, {Op: api.SUnclip}}}}, {Op: api.SGroup, Bodies: [][]api.Stmt{{{Op: api.SUnclip}, {Op: api.SUnclip}}}}, {Op: api.SDraw, Text: "draw", Exprs: tags(1), Ink: []api.Expr{tag("c")}}, {Op: api.SDraw, Text: "draw", Exprs: tags(1), Ink: []api.Expr{tag("d")}},
	})
	var shapes []string
	for _, s := range all {
		shapes = append(shapes, shape(s))
	}
	for i, a := range all {
		for k, b := range all {
			b.Line, b.Col = i, k
			if want := shapes[i] == shapes[k]; syntax.Same([]api.Stmt{a}, []api.Stmt{b}) != want {
				t.Fatalf("Same of %s and %s is not %v", shapes[i], shapes[k], want)
			}
		}
		p := []api.Stmt{a}
		if syntax.Same(p, nil) || syntax.Same(nil, p) || syntax.Same(p, []api.Stmt{a, a}) || syntax.Same([]api.Stmt{a, a}, p) {
			t.Errorf("%s is the same as none, or as two of it", dump(p))
		}
	}
	if !syntax.Same(nil, nil) || !syntax.Same(nil, []api.Stmt{}) || !syntax.Same([]api.Stmt{}, nil) {
		t.Error("no statements are not the same as none")
	}
}

// everywhere returns pointers to all statements.
func everywhere(l []api.Stmt) []*api.Stmt {
	var out []*api.Stmt
	for i := range l {
		out = append(out, &l[i])
		for _, b := range l[i].Bodies {
			out = append(out, everywhere(b)...)
		}
	}
	return out
}

// copied returns statements whose own slices share nothing with those that they are copies of.
func copied(l []api.Stmt) []api.Stmt {
	out := slices.Clone(l)
	for i := range out {
		s := &out[i]
		s.Exprs, s.Ink, s.Rules, s.Bodies = slices.Clone(s.Exprs), slices.Clone(s.Ink), slices.Clone(s.Rules), slices.Clone(s.Bodies)
		for k, b := range s.Bodies {
			s.Bodies[k] = copied(b)
		}
	}
	return out
}

// change makes one change in a statement.
func (r random) change(s *api.Stmt) {
	switch r.IntN(10) {
	case 0:
		s.Op = api.StmtOp(r.IntN(20))
	case 1:
		s.Text = r.One("fill evenfill draw clip evenclip unclip numeric pair path i j if ; show := a1 begingroup")
	case 2:
		s.Text = ""
	case 3:
		s.Exprs = r.some(r.conds, 0, 5)
	case 4:
		s.Exprs = r.some(r.tags, 1, 4)
	case 5:
		s.Ink = r.some(r.conds, 0, 2)
	case 6:
		s.Bodies = bodies(r.IntN(5))
	case 7:
		s.Bodies = append(s.Bodies, r.program(1))
	case 8:
		s.Rules = rules(r.IntN(2))
		for i := range s.Rules {
			s.Rules[i].Text, s.Rules[i].Value = r.One("kern = =: |=: =:| |=:| := fill"), tag("b")
		}
	case 9:
		s.Line, s.Col = int(r.Int64()), -1
	}
}

// P6.3: what is changed in one place is the same exactly if it looks so, and valid exactly if tokens are read as it.
func TestChanged(t *testing.T) {
	r := newRandom(t)
	for range 6000 {
		program := r.program(1 + r.IntN(3))
		other := copied(program)
		if all := everywhere(other); len(all) > 0 {
			r.change(all[r.IntN(len(all))])
		}
		if want := shape(program) == shape(other); syntax.Same(program, other) != want || syntax.Same(other, program) != want {
			t.Fatalf("Same of %s and %s is not %v", shape(program), shape(other), want)
		}
		want := reread(r, other)
		if syntax.Valid(other) != want {
			t.Fatalf("Valid of %s is not %v", shape(other), want)
		}
		count, e := syntax.Count(other)
		if want && (e != api.OK || count != len(everywhere(other))) || !want && (e != api.ErrArg || count != 0) {
			t.Fatalf("Count of %s: %d, %v", shape(other), count, e)
		}
	}
}

// reread reports whether what is written of statements is read as they are.
func reread(r random, l []api.Stmt) (same bool) {
	defer func() { _ = recover() }()
	w := &writer{random: r}
	w.program(l)
	program, f := syntax.Program(w.l)
	return f.Code == api.OK && shape(program) == shape(l)
}

// P6.3 and P6.4: statements that are nested deeper than tokens can be.
func TestDeepNodes(t *testing.T) {
	const depth = 65000
	build := func(inner api.Stmt, op api.StmtOp, exprs int) []api.Stmt {
		l := []api.Stmt{inner}
		for range depth {
			l = []api.Stmt{{Op: op, Exprs: tags(exprs), Bodies: [][]api.Stmt{l}}}
		}
		return l
	}
	for op, exprs := range map[api.StmtOp]int{api.SGroup: 0, api.SForever: 0, api.SIf: 1, api.SChar: 4} {
		l := build(api.Stmt{Op: api.SUnclip}, op, exprs)
		if n, e := syntax.Count(l); !syntax.Valid(l) || n != depth+1 || e != api.OK || !syntax.Same(l, build(api.Stmt{Op: api.SUnclip, Line: 1}, op, exprs)) {
			t.Errorf("%d, %v", n, e)
		}
		other := build(api.Stmt{Op: api.SUnclip, Text: "unclip"}, op, exprs)
		if n, e := syntax.Count(other); syntax.Valid(other) || n != 0 || e != api.ErrArg || syntax.Same(l, other) {
			t.Errorf("%d, %v", n, e)
		}
	}
}
