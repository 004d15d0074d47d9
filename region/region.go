// Package region turns the bounds of loops into sets.
package region

import "headland/api"

// Params returns the conditions that parameters satisfy, over dim variables of which the first n are the parameters.
func Params(n, dim int) []api.Cond {
	var p []api.Cond
	for i := range n {
		p = append(p, ge(dim, i, 1, api.Lin{}), ge(dim, i, -1, api.Lin{K: api.MaxParam}))
	}
	return p
}

// ge returns the condition that l plus c times variable v is at least 0, over dim variables.
func ge(dim, v, c int, l api.Lin) api.Cond {
	return api.Cond{Kind: api.Ge, L: plus(dim, v, c, l)}
}

// plus returns l plus c times variable v, over dim variables; v comes after the variables of l.
func plus(dim, v, c int, l api.Lin) api.Lin {
	r := api.Lin{C: make([]int, dim), K: l.K}
	copy(r.C, l.C)
	r.C[v] = c
	return r
}

// minus returns -l.
func minus(l api.Lin) api.Lin {
	r := api.Lin{C: make([]int, len(l.C)), K: -l.K}
	for i, c := range l.C {
		r.C[i] = -c
	}
	return r
}

// Low returns the points, of dim variables, at which variable v is not below a low bound over the variables before it.
func Low(b api.Bound, v, dim int) api.Set {
	return bounded(b, dim, func(r api.Row) api.Cond { return Above(r, v, dim) })
}

// High returns the points, of dim variables, at which variable v is not above a high bound over the variables before it.
func High(b api.Bound, v, dim int) api.Set {
	return bounded(b, dim, func(r api.Row) api.Cond { return Below(r, v, dim) })
}

func bounded(b api.Bound, dim int, cond func(api.Row) api.Cond) api.Set {
	s := api.Set{Dim: dim}
	for _, rows := range b.Parts {
		var p []api.Cond
		for _, r := range rows {
			p = append(p, cond(r))
		}
		s.Pieces = append(s.Pieces, p)
	}
	return s
}

// Above returns the condition that variable v is not below a row of a low bound.
func Above(r api.Row, v, dim int) api.Cond {
	return ge(dim, v, r.Div, minus(r.L))
}

// Below returns the condition that variable v is not above a row of a high bound.
func Below(r api.Row, v, dim int) api.Cond {
	return ge(dim, v, -r.Div, r.L)
}

// Step returns the condition that the distance of variable v from the first value of its loop is a multiple of the step.
func Step(s api.Stmt, v, dim int) api.Cond {
	return api.Cond{Kind: api.Div, M: s.Step, L: plus(dim, v, 1, minus(s.Low.Parts[0][0].L))}
}
