package show_test

import (
	"slices"
	"strings"
	"testing"

	"fleuron/api"
	"fleuron/grammar"
	"fleuron/show"
	"fleuron/syntax"
)

// variable returns a variable without suffixes.
func variable(name string) api.Expr { return api.Expr{Op: api.EVar, Text: name} }

// minus returns an expression behind some signs.
func minus(count int, x api.Expr) api.Expr {
	for range count {
		x = api.Expr{Op: api.EUnary, Text: "-", Kids: []api.Expr{x}}
	}
	return x
}

// sum returns an expression to which some variables are added, each behind the one before it.
func sum(count int, x api.Expr) api.Expr {
	for range count {
		x = api.Expr{Op: api.EBinary, Text: "+", Kids: []api.Expr{x, variable("a")}}
	}
	return x
}

// sumWithin returns an expression that is added to some variables, each ahead of the one before it.
func sumWithin(count int, x api.Expr) api.Expr {
	for range count {
		x = api.Expr{Op: api.EBinary, Text: "+", Kids: []api.Expr{variable("a"), x}}
	}
	return x
}

// groups returns statements within some groups.
func groups(count int, l []api.Stmt) []api.Stmt {
	for range count {
		l = []api.Stmt{{Op: api.SGroup, Bodies: [][]api.Stmt{l}}}
	}
	return l
}

// P7.1: 20,000 bytes, and one more.
func TestLongExpressions(t *testing.T) {
	t.Parallel()
	for _, d := range sides() {
		for _, c := range []struct {
			x    api.Expr
			want int
		}{
			{sum(4999, variable("abc")), 19999}, {sum(4999, variable("abcd")), 20000}, {sum(4999, variable("abcde")), 20001},
			{minus(9999, variable("ab")), 20000}, {minus(9999, variable("abc")), 20001}, {minus(10000, variable("a")), 20001},
			{api.Expr{Op: api.EPair, Kids: []api.Expr{sum(4997, variable("a")), variable("abcd")}}, 20000},
			{api.Expr{Op: api.EPair, Kids: []api.Expr{sum(4997, variable("a")), variable("abcde")}}, 20001},
			{api.Expr{Op: api.EVar, Text: "ab", Kids: slices.Repeat([]api.Expr{{Op: api.ENum, Num: api.Num{P: 7, Q: 1}}}, 9999)}, 20000},
			{api.Expr{Op: api.EVar, Text: "abc", Kids: slices.Repeat([]api.Expr{{Op: api.ENum, Num: api.Num{P: 7, Q: 1}}}, 9999)}, 20001},
		} {
			if c.want > api.MaxText {
				if s, e := d.write(c.x); s != "" || e != api.ErrLimit {
					t.Errorf("%s of what has %d bytes: %d bytes, %v", d.name, c.want, len(s), e)
				}
				continue
			}
			s := checked(t, d, c.x)
			if len(s) != c.want {
				t.Errorf("%s has %d bytes, want %d", d.name, len(s), c.want)
			}
			if l, _ := grammar.Tokens(s); c.x.Op != api.EUnary {
				reads(t, d, c.x)
			} else if _, f := d.read(l); f.Code != api.ErrDeep {
				t.Errorf("%v", f)
			}
		}
	}
}

// P7.2: 20,000 bytes, and one more.
func TestLongPrograms(t *testing.T) {
	one := api.Stmt{Op: api.SShow, Exprs: []api.Expr{variable("a")}}
	many := slices.Repeat([]api.Stmt{one}, 2221)
	for _, c := range []struct {
		last string
		want int
	}{{"ab", 19999}, {"abc", 20000}, {"abcd", 20001}} {
		last := api.Stmt{Op: api.SShow, Exprs: []api.Expr{variable(c.last)}}
		for at := range 2 {
			l := slices.Insert(slices.Clone(many), at*2221, last)
			s, e := show.Program(l)
			switch {
			case c.want > api.MaxText:
				if s != "" || e != api.ErrLimit {
					t.Errorf("%d bytes: %d bytes, %v", c.want, len(s), e)
				}
			case len(s) != c.want || e != api.OK:
				t.Errorf("%d bytes: %d bytes, %v", c.want, len(s), e)
			default:
				readsProgram(t, l)
			}
		}
	}
	for _, count := range []int{66, 94, 95, 96, 97, 98, 140} {
		l := groups(count, nil)
		s, e := show.Program(l)
		want := count * (2*(count-1) + len("begingroup\nendgroup ;\n"))
		switch {
		case want > api.MaxText:
			if s != "" || e != api.ErrLimit {
				t.Errorf("%d groups: %d bytes, %v", count, len(s), e)
			}
		case len(s) != want || e != api.OK:
			t.Errorf("%d groups: %d bytes, %v; want %d", count, len(s), e, want)
		default:
			checkedProgram(t, l)
			if _, f := syntax.Read(s); f.Code != api.ErrDeep {
				t.Errorf("%d groups: %v", count, f)
			}
		}
	}
}

// P7.1, P7.2: what is very deep, or very long, is too long; a name that is spelled as a word is found first, wherever it is, and what is not valid ahead of it.
func TestHuge(t *testing.T) {
	t.Parallel()
	const count = 100000
	for i, build := range []func(int, api.Expr) api.Expr{minus, sum, sumWithin} {
		for _, c := range []struct {
			name string
			want api.Errno
		}{{"a", api.ErrLimit}, {"fill", api.ErrName}, {"1", api.ErrArg}} {
			x := build(count, variable(c.name))
			for _, d := range sides() {
				if s, e := d.write(x); s != "" || e != c.want {
					t.Errorf("%s of a huge expression (%d) of %s: %d bytes, %v", d.name, i, c.name, len(s), e)
				}
			}
			for _, l := range [][]api.Stmt{
				{{Op: api.SShow, Exprs: []api.Expr{x}}},
				groups(count, []api.Stmt{{Op: api.SShow, Exprs: []api.Expr{variable(c.name)}}}),
				slices.Repeat([]api.Stmt{{Op: api.SShow, Exprs: []api.Expr{variable(c.name)}}}, count),
				append(slices.Repeat([]api.Stmt{{Op: api.SUnclip}}, count), api.Stmt{Op: api.SSave, Exprs: []api.Expr{variable(c.name)}}),
			} {
				if s, e := show.Program(l); s != "" || e != c.want {
					t.Errorf("Program of something huge (%d) with %s: %d bytes, %v", i, c.name, len(s), e)
				}
			}
		}
	}
}

// P7.1: what is in the middle of a long expression is refused, too.
func TestOrderOfErrors(t *testing.T) {
	long := sum(6000, variable("a"))
	word, wrong := variable("fill"), api.Expr{Op: api.EUnary, Text: "cycle"}
	pair := func(a, b api.Expr) api.Expr { return api.Expr{Op: api.EPair, Kids: []api.Expr{a, b}} }
	for _, c := range []struct {
		x    api.Expr
		want api.Errno
	}{
		{pair(long, word), api.ErrName}, {pair(word, long), api.ErrName}, {pair(long, wrong), api.ErrArg}, {pair(wrong, long), api.ErrArg}, {pair(word, wrong), api.ErrArg}, {pair(wrong, word), api.ErrArg}, {pair(long, long), api.ErrLimit},
	} {
		for _, d := range sides() {
			if s, e := d.write(c.x); s != "" || e != c.want {
				t.Errorf("%s: %d bytes, %v; want %v", d.name, len(s), e, c.want)
			}
		}
		l := []api.Stmt{{Op: api.SEquals, Exprs: c.x.Kids}, {Op: api.SUnclip}}
		if s, e := show.Program(l); s != "" || e != c.want {
			t.Errorf("Program: %d bytes, %v; want %v", len(s), e, c.want)
		}
		l = []api.Stmt{{Op: api.SShow, Exprs: c.x.Kids[:1]}, {Op: api.SIf, Exprs: c.x.Kids[1:], Bodies: [][]api.Stmt{nil}}}
		if s, e := show.Program(l); s != "" || e != c.want {
			t.Errorf("Program: %d bytes, %v; want %v", len(s), e, c.want)
		}
	}
}

// P7.1: expressions that are not valid.
func TestInvalidExpressions(t *testing.T) {
	a, one := variable("a"), api.Expr{Op: api.ENum, Num: api.Num{P: 1, Q: 1}}
	dot := api.Expr{Op: api.EDot, Text: "a"}
	for _, x := range []api.Expr{
		{}, {Op: -1}, {Op: 9}, dot, {Op: api.ENum, Num: api.Num{P: 2, Q: 4}}, {Op: api.ENum, Num: api.Num{P: -1, Q: 1}}, {Op: api.ENum, Num: api.Num{P: 1}}, {Op: api.ENum, Num: api.Num{P: api.MaxNum + 1, Q: 1}}, {Op: api.ENum, Num: one.Num, Text: "1"}, {Op: api.EText, Text: `"`}, {Op: api.EText, Text: strings.Repeat("a", 101)},
		{Op: api.EVar}, {Op: api.EVar, Text: "a1"}, {Op: api.EVar, Text: strings.Repeat("a", 41)}, {Op: api.EVar, Text: "a", Num: one.Num}, {Op: api.EPair, Kids: []api.Expr{a}}, {Op: api.EPair, Kids: []api.Expr{a, dot}}, {Op: api.EUnary, Text: "a"}, {Op: api.EUnary, Text: "true", Kids: []api.Expr{a}}, {Op: api.EUnary, Text: "-"},
		{Op: api.EBinary, Text: "*", Kids: []api.Expr{one}}, {Op: api.EBinary, Text: "*"}, {Op: api.EBinary, Text: ":=", Kids: []api.Expr{a, a}}, {Op: api.EBetween, Kids: []api.Expr{a, a}}, {Op: api.EBetween}, {Op: api.EPath}, {Op: api.EPath, Kids: []api.Expr{a}}, {Op: api.EPath, Kids: []api.Expr{a, a}},
		{Op: api.EPath, Kids: []api.Expr{a, a}, Joins: []api.Join{{Op: 3}}}, {Op: api.EPath, Kids: []api.Expr{a}, Joins: []api.Join{{}}}, {Op: api.EPath, Kids: []api.Expr{a, a}, Joins: []api.Join{{Op: api.JControls}}}, {Op: api.EPath, Kids: []api.Expr{a, a}, Joins: []api.Join{{Leave: api.Dir{Op: api.DirTo}}}}, {Op: api.EPath, Cycle: true},
		minus(50, api.Expr{Op: api.EUnary, Text: "-"}), {Op: api.EVar, Text: "a", Joins: []api.Join{{}}}, {Op: api.EVar, Text: "a", Cycle: true}, {Op: api.EVar, Text: "a", Kids: []api.Expr{{}}},
	} {
		for _, d := range sides() {
			if s, e := d.write(x); s != "" || e != api.ErrArg {
				t.Errorf("%s of %.300s: %q, %v", d.name, shape(x), s, e)
			}
		}
		for _, l := range [][]api.Stmt{
			{{Op: api.SShow, Exprs: []api.Expr{x}}}, {{Op: api.SFill, Text: "fill", Exprs: []api.Expr{a}, Ink: []api.Expr{x}}}, {{Op: api.SLig, Exprs: []api.Expr{a}, Rules: []api.Rule{{Text: "kern", Next: a, Value: x}}}}, groups(3, []api.Stmt{{Op: api.SExit, Exprs: []api.Expr{x}}}),
		} {
			if s, e := show.Program(l); s != "" || e != api.ErrArg {
				t.Errorf("Program of %.300s: %q, %v", shape(l), s, e)
			}
		}
	}
}

// P7.2: statements that are not valid.
func TestInvalidPrograms(t *testing.T) {
	a, b := []api.Expr{variable("a")}, [][]api.Stmt{nil}
	for _, s := range []api.Stmt{
		{}, {Op: -1}, {Op: 19}, {Op: api.SEquals, Exprs: a}, {Op: api.SAssign, Exprs: a}, {Op: api.SAssign, Exprs: []api.Expr{minus(1, a[0]), a[0]}}, {Op: api.SDeclare, Exprs: a}, {Op: api.SDeclare, Text: "pair"}, {Op: api.SDeclare, Text: "fill", Exprs: a}, {Op: api.SSave}, {Op: api.SSave, Text: "save", Exprs: a},
		{Op: api.SIf, Exprs: a}, {Op: api.SIf, Bodies: b}, {Op: api.SIf}, {Op: api.SFor, Text: "i", Exprs: a, Bodies: b}, {Op: api.SFor, Exprs: slices.Repeat(a, 3), Bodies: b}, {Op: api.SFor, Text: "i", Exprs: slices.Repeat(a, 3)}, {Op: api.SEach, Text: "i", Bodies: b}, {Op: api.SEach, Text: "i", Exprs: a}, {Op: api.SForever},
		{Op: api.SExit}, {Op: api.SGroup}, {Op: api.SGroup, Exprs: a, Bodies: b}, {Op: api.SPickup}, {Op: api.SFill, Exprs: a}, {Op: api.SFill, Text: "draw", Exprs: a}, {Op: api.SFill, Text: "fill"}, {Op: api.SFill, Text: "fill", Exprs: a, Ink: slices.Repeat(a, 2)}, {Op: api.SDraw, Exprs: a}, {Op: api.SDraw, Text: "draw"},
		{Op: api.SClip, Text: "clip"}, {Op: api.SClip, Text: "clip", Exprs: a, Ink: a}, {Op: api.SUnclip, Text: "unclip"}, {Op: api.SUnclip, Exprs: a}, {Op: api.SChar, Exprs: slices.Repeat(a, 3), Bodies: b}, {Op: api.SChar, Exprs: slices.Repeat(a, 4)}, {Op: api.SLig, Exprs: a}, {Op: api.SLig, Exprs: a, Rules: []api.Rule{{Text: "=", Next: a[0], Value: a[0]}}},
		{Op: api.SMessage}, {Op: api.SShow}, {Op: api.SShow, Exprs: a, Bodies: b}, {Op: api.SShow, Exprs: a, Rules: []api.Rule{{}}},
	} {
		for _, l := range [][]api.Stmt{{s}, {{Op: api.SUnclip}, s}, groups(2, []api.Stmt{s}), {{Op: api.SSave, Exprs: []api.Expr{variable("fill")}}, s}} {
			if got, e := show.Program(l); got != "" || e != api.ErrArg {
				t.Errorf("Program of %.300s: %q, %v", shape(l), got, e)
			}
		}
	}
}
