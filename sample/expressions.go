// Package sample makes expressions and programs of all kinds for the tests. What it makes depends on the numbers that are picked alone.
package sample

import (
	"strings"

	"fleuron/api"
)

// The operations as DOC.md lists them.
const (
	Unary       = "+ - not known unknown odd floor abs sqrt sind cosd angle dir length xpart ypart xxpart xypart yxpart yypart inverse decimal char code reverse"
	Of          = "point direction subpath precontrol postcontrol"
	Constants   = "true false identity pencircle pensquare"
	Products    = "* / ** and mod dotprod scaled xscaled yscaled shifted rotated slanted transformed"
	Sums        = "+ - ++ +-+ or"
	Comparisons = "< <= > >= <> &"
)

// Maker makes expressions and programs that are valid.
type Maker struct {
	Pick  func(n int) int // returns a number from 0 up to n, but not n
	Names string          // the names that there are, with blanks between them
}

// One returns one of the words of a string.
func (m Maker) One(words string) string {
	l := strings.Fields(words)
	return l[m.Pick(len(l))]
}

// yes reports whether 0 is picked of a few numbers.
func (m Maker) yes(n int) bool { return m.Pick(n) == 0 }

// Num returns a number of which P and Q are small, or at most as great as they can be.
func (m Maker) Num() api.Num {
	top := []int{2, 10, 1000, api.MaxNum}[m.Pick(4)]
	p := int64(m.Pick(top + 1))
	q := int64(m.Pick(top) + 1)
	for a, b := p, q; ; a, b = b, a%b {
		if b == 0 {
			return api.Num{P: p / a, Q: q / a}
		}
	}
}

// Exprs returns some expressions.
func (m Maker) Exprs(count, depth int) []api.Expr {
	var l []api.Expr
	for range count {
		l = append(l, m.Expr(depth))
	}
	return l
}

// Expr returns an expression whose nodes are at most so deep.
func (m Maker) Expr(depth int) api.Expr {
	kind := m.Pick(12)
	if depth <= 1 {
		kind = m.Pick(4)
	}
	switch kind {
	case 0:
		return api.Expr{Op: api.ENum, Num: m.Num()}
	case 1:
		return api.Expr{Op: api.EText, Text: []string{"", "a", "+ (", strings.Repeat("~", 100)}[m.Pick(4)]}
	case 2:
		return api.Expr{Op: api.EUnary, Text: m.One(Constants)}
	case 3, 4:
		return m.Variable(depth)
	case 5:
		return api.Expr{Op: api.EPair, Kids: m.Exprs(2, depth-1)}
	case 6:
		return api.Expr{Op: api.EUnary, Text: m.One(Unary), Kids: m.Exprs(1, depth-1)}
	case 7:
		return api.Expr{Op: api.EBetween, Kids: m.Exprs(3, depth-1)}
	case 8:
		return m.path(depth)
	case 9:
		return m.binary("/ * = "+Of, depth)
	}
	return m.binary(Products+" "+Sums+" "+Comparisons, depth)
}

func (m Maker) binary(operations string, depth int) api.Expr {
	text := m.One(operations)
	return api.Expr{Op: api.EBinary, Text: text, Kids: m.Exprs(2, depth-1)}
}

// Variable returns a variable, maybe with suffixes.
func (m Maker) Variable(depth int) api.Expr {
	x := api.Expr{Op: api.EVar, Text: m.One(m.Names)}
	for depth > 1 && m.yes(2) {
		if m.yes(3) {
			x.Kids = append(x.Kids, api.Expr{Op: api.EDot, Text: m.One(m.Names)})
		} else {
			x.Kids = append(x.Kids, m.Expr(depth-1))
		}
	}
	return x
}

func (m Maker) path(depth int) api.Expr {
	x := api.Expr{Op: api.EPath, Cycle: m.yes(2)}
	joins := m.Pick(3) + 1
	x.Kids = m.Exprs(joins, depth-1)
	if !x.Cycle {
		x.Kids = append(x.Kids, m.Expr(depth-1))
	}
	for range joins {
		x.Joins = append(x.Joins, m.join(depth))
	}
	return x
}

func (m Maker) join(depth int) api.Join {
	j := api.Join{Op: []api.JoinOp{api.JCurve, api.JControls, api.JLine}[m.Pick(3)]}
	if j.Op == api.JLine {
		return j
	}
	settings := m.Pick(3)
	if j.Op == api.JControls {
		settings = m.Pick(2) + 1
	}
	j.A = m.Exprs(settings, depth-1)
	j.Leave = m.dir(depth)
	j.Come = m.dir(depth)
	return j
}

func (m Maker) dir(depth int) api.Dir {
	d := api.Dir{Op: []api.DirOp{api.DirNone, api.DirTo, api.DirCurl}[m.Pick(3)]}
	if d.Op != api.DirNone {
		d.E = m.Exprs(1, depth-1)
	}
	return d
}
