package tree

import (
	"headland/api"
	"strconv"
)

// Names returns the names of the parameters, the arrays and the loops of a program.
func Names(p api.Program) []string {
	l := append([]string{}, p.Params...)
	for _, a := range p.Arrays {
		l = append(l, a.Name)
	}
	var walk func(body []api.Stmt)
	walk = func(body []api.Stmt) {
		for _, s := range body {
			if s.Kind == api.For {
				l = append(l, s.Name)
			}
			walk(s.Body)
			walk(s.Else)
		}
	}
	walk(p.Body)
	return l
}

// Numbered returns a name that consists of a stem and a number.
func Numbered(stem string, n int) string {
	return stem + strconv.Itoa(n)
}

// Change returns an assignment with all its linear expressions changed.
func Change(s api.Stmt, change func(api.Lin) api.Lin) api.Stmt {
	ref := func(r api.Ref) api.Ref { return api.Ref{Array: r.Array, Subs: each(r.Subs, change)} }
	var expr func(x api.Expr) api.Expr
	expr = func(x api.Expr) api.Expr {
		y := api.Expr{Op: x.Op, K: x.K, R: ref(x.R), Args: each(x.Args, expr)}
		if x.Op == api.Aff {
			y.L = change(x.L)
		}
		return y
	}
	return api.Stmt{Kind: s.Kind, Target: ref(s.Target), Value: expr(s.Value)}
}
