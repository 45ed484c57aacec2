package expr

import "fleuron/api"

// path parses what follows the first knot of a path.
func (p *parser) path(knot api.Expr) api.Expr {
	x := combined(api.EPath, "", knot)
	for isJoin(p.ahead()) {
		x.Joins = append(x.Joins, p.join())
		if p.skip("cycle") {
			x.Cycle = true
			break
		}
		x.Kids = append(x.Kids, p.tert())
	}
	return x
}

// join parses what stands between two knots.
func (p *parser) join() api.Join {
	if p.skip("--") {
		return api.Join{Op: api.JLine}
	}
	j := api.Join{Op: api.JCurve, Leave: p.dir()}
	p.demand("..")
	switch {
	case p.skip("tension"):
		j.A = p.oneOrTwo()
	case p.skip("controls"):
		j.Op = api.JControls
		j.A = p.oneOrTwo()
	}
	j.Come = p.dir()
	return j
}

// oneOrTwo parses tensions or controls, and the sign behind them.
func (p *parser) oneOrTwo() []api.Expr {
	l := []api.Expr{p.setting()}
	if p.skip("and") {
		l = append(l, p.setting())
	}
	p.demand("..")
	return l
}

// setting parses a tension or a control, behind which no operation can stand.
func (p *parser) setting() api.Expr {
	x := p.prim()
	if p.at == p.undivided && p.skip("/") {
		// A quotient could go on with the sign, so that the fault is at the token behind it.
		fail(api.ErrSyntax, p.take())
	}
	return x
}

// dir parses a direction, if one comes next.
func (p *parser) dir() api.Dir {
	if p.ahead() != "{" {
		return api.Dir{}
	}
	p.enter()
	d := api.Dir{Op: api.DirTo}
	if p.skip("curl") {
		d.Op = api.DirCurl
	}
	d.E = []api.Expr{p.expr(false)}
	p.leaveBy("}")
	return d
}
