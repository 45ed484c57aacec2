package show

import "fleuron/api"

// path writes a path.
func (w *writer) path(x *api.Expr) {
	for i := range x.Kids {
		w.expr(&x.Kids[i], tert)
		if i < len(x.Joins) {
			w.join(&x.Joins[i])
		}
	}
	if x.Cycle {
		w.put("cycle")
	}
}

// join writes what stands between two knots.
func (w *writer) join(j *api.Join) {
	if j.Op == api.JLine {
		w.put("--")
		return
	}
	w.dir(j.Leave)
	w.put("..")
	if len(j.A) > 0 {
		w.put(settings(j.Op))
		w.list(j.A, prim, "and")
		w.put("..")
	}
	w.dir(j.Come)
}

// settings returns the word ahead of what is set in a join.
func settings(op api.JoinOp) string {
	if op == api.JControls {
		return "controls"
	}
	return "tension"
}

// dir writes a direction, if there is one.
func (w *writer) dir(d api.Dir) {
	if d.Op == api.DirNone {
		return
	}
	w.put("{")
	if d.Op == api.DirCurl {
		w.put("curl")
	}
	w.list(d.E, whole)
	w.put("}")
}
