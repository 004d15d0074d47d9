// Package image computes which values an expression has at the points of a set.
package image

import (
	"headland/api"
	"headland/elim"
	"headland/lin"
	"headland/set"
)

// Of returns the values of l at the points of s, as a set of one variable.
func Of(s api.Set, l api.Lin) (api.Set, api.Errno) {
	if !set.Valid(s) || !lin.Valid(l) {
		return api.Set{}, api.ErrArg
	}
	if len(l.C) != s.Dim {
		return api.Set{}, api.ErrDim
	}
	if s.Dim == api.MaxVars {
		return api.Set{}, api.ErrFull
	}
	t, e := set.Room(s, s.Dim, 1)
	if e != api.OK {
		return api.Set{}, e
	}
	// v - l = 0, where v is the new variable.
	c := make([]int, t.Dim)
	for i, n := range l.C {
		c[i] = -n
	}
	c[s.Dim] = 1
	if t, e = set.Where(t, []api.Cond{{Kind: api.Eq, L: api.Lin{C: c, K: -l.K}}}); e != api.OK {
		return api.Set{}, e
	}
	others := make([]int, s.Dim)
	for i := range others {
		others[i] = i
	}
	return elim.Elims(t, others)
}
