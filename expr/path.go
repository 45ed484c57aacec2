package expr

import (
	"fleuron/api"
	"fleuron/cursor"
)

// path parses what follows the first knot of a path.
func (p *parser) path(knot api.Expr) api.Expr {
	x := combined(api.EPath, "", knot)
	for isJoin(p.Ahead()) {
		x.Joins = append(x.Joins, p.join())
		if p.Skip("cycle") {
			x.Cycle = true
			break
		}
		x.Kids = append(x.Kids, p.tert())
	}
	return x
}

// join parses what stands between two knots.
func (p *parser) join() api.Join {
	if p.Skip("--") {
		return api.Join{Op: api.JLine}
	}
	j := api.Join{Op: api.JCurve, Leave: p.dir()}
	p.Demand("..")
	switch {
	case p.Skip("tension"):
		j.A = p.oneOrTwo()
	case p.Skip("controls"):
		j.Op = api.JControls
		j.A = p.oneOrTwo()
	}
	j.Come = p.dir()
	return j
}

// oneOrTwo parses tensions or controls, and the sign behind them.
func (p *parser) oneOrTwo() []api.Expr {
	l := []api.Expr{p.setting()}
	if p.Skip("and") {
		l = append(l, p.setting())
	}
	p.Demand("..")
	return l
}

// setting parses a tension or a control, behind which no operation can stand.
func (p *parser) setting() api.Expr {
	x := p.prim()
	if p.At == p.undivided && p.Skip("/") {
		// A quotient could go on with the sign, so that the fault is at the token behind it.
		cursor.Fail(api.ErrSyntax, p.Take())
	}
	return x
}

// dir parses a direction, if one comes next.
func (p *parser) dir() api.Dir {
	if p.Ahead() != "{" {
		return api.Dir{}
	}
	p.enter()
	d := api.Dir{Op: api.DirTo}
	if p.Skip("curl") {
		d.Op = api.DirCurl
	}
	d.E = []api.Expr{p.expr(false)}
	p.leaveBy("}")
	return d
}
