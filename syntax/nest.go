package syntax

import "fleuron/api"

// nest takes a statement in which others stand.
func (p *parser) nest() api.Stmt {
	switch p.Take().Text {
	case "if":
		return p.choice()
	case "for":
		return p.loop()
	case "forever":
		p.Demand(":")
		return p.within(api.Stmt{Op: api.SForever}, "endfor")
	case "begingroup":
		return p.within(api.Stmt{Op: api.SGroup}, "endgroup")
	}
	return p.char()
}

// within takes the statements that stand in a statement, and the word that ends it.
func (p *parser) within(s api.Stmt, end string) api.Stmt {
	s.Bodies = [][]api.Stmt{p.body(end)}
	p.Demand(end)
	return s
}

// choice takes conditions and what is done if they are true, behind if.
func (p *parser) choice() api.Stmt {
	s := api.Stmt{Op: api.SIf}
	for more := true; more; more = p.Skip("elseif") {
		s.Exprs = append(s.Exprs, p.cond())
		p.Demand(":")
		s.Bodies = append(s.Bodies, p.body("elseif", "else", "fi"))
	}
	if p.Skip("else") {
		p.Demand(":")
		s.Bodies = append(s.Bodies, p.body("fi"))
	}
	p.Demand("fi")
	return s
}

// loop takes a loop with steps, or over a list, behind for.
func (p *parser) loop() api.Stmt {
	s := api.Stmt{Op: api.SEach, Text: p.Name().Text}
	p.Demand("=")
	s.Exprs = p.list(",")
	if len(s.Exprs) == 1 && p.Skip("step") {
		s.Op = api.SFor
		s.Exprs = append(s.Exprs, p.expr())
		p.Demand("until")
		s.Exprs = append(s.Exprs, p.expr())
	}
	p.Demand(":")
	return p.within(s, "endfor")
}

// char takes a char, behind beginchar.
func (p *parser) char() api.Stmt {
	s := api.Stmt{Op: api.SChar}
	p.Demand("(")
	s.Exprs = append(s.Exprs, p.expr())
	for range 3 {
		p.Demand(",")
		s.Exprs = append(s.Exprs, p.expr())
	}
	p.Demand(")")
	return p.within(s, "endchar")
}
