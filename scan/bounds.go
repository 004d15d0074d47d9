package scan

import (
	"headland/api"
	"headland/lin"
	"headland/set"
	"headland/tree"
	"slices"
)

// rule says which low and which high rows a condition a v + rest of the last variable v gives.
type rule func(a int, rest api.Lin) (low, high []api.Row)

// rules builds the rules for the kinds of conditions.
func rules() [3]rule {
	scaled := func(l api.Lin, sign, div int) []api.Row {
		r := api.Lin{C: slices.Clone(l.C), K: sign * l.K}
		for i := range r.C {
			r.C[i] *= sign
		}
		return []api.Row{{L: r, Div: div}}
	}
	return [3]rule{
		api.Ge: func(a int, rest api.Lin) (low, high []api.Row) {
			if a > 0 {
				return scaled(rest, -1, a), nil
			}
			return nil, scaled(rest, 1, -a)
		},
		api.Eq: func(a int, rest api.Lin) (low, high []api.Row) {
			sign := -1
			if a < 0 {
				a, sign = -a, 1
			}
			return scaled(rest, sign, a), scaled(rest, sign, a)
		},
		api.Div: func(a int, rest api.Lin) (low, high []api.Row) { return nil, nil },
	}
}

// bounds returns the bounds of normalized pieces for their last variable. Of equal parts the first one stays.
func bounds(pieces [][]api.Cond) (low, high api.Bound, e api.Errno) {
	table := rules()
	for _, p := range pieces {
		var below, above []api.Row
		for _, c := range p {
			v := len(c.L.C) - 1
			a := c.L.C[v]
			if a == 0 {
				continue
			}
			l, h := table[c.Kind](a, api.Lin{C: c.L.C[:v], K: c.L.K})
			below, above = append(below, l...), append(above, h...)
		}
		if !usable(below) || !usable(above) {
			return api.Bound{}, api.Bound{}, api.ErrFull
		}
		low.Parts, high.Parts = with(low.Parts, below), with(high.Parts, above)
	}
	return low, high, api.OK
}

// usable reports whether rows may be a part of a bound.
func usable(l []api.Row) bool {
	return len(l) > 0 && !slices.ContainsFunc(l, func(r api.Row) bool { return r.Div > api.MaxMod || !lin.Valid(r.L) })
}

// with adds a part, unless it is there already.
func with(parts [][]api.Row, l []api.Row) [][]api.Row {
	if slices.ContainsFunc(parts, func(m []api.Row) bool { return tree.SameRows(l, m) }) {
		return parts
	}
	return append(parts, l)
}

// Bounds returns the bounds of the pieces of s for its last variable.
func Bounds(s api.Set) (low, high api.Bound, e api.Errno) {
	if !set.Valid(s) {
		return api.Bound{}, api.Bound{}, api.ErrArg
	}
	if s.Dim == 0 {
		return api.Bound{}, api.Bound{}, api.ErrDim
	}
	var pieces [][]api.Cond
	for _, p := range s.Pieces {
		q, void, e := set.Simple(p, s.Dim)
		if e != api.OK {
			return api.Bound{}, api.Bound{}, e
		}
		if !void {
			pieces = append(pieces, q)
		}
	}
	if len(pieces) == 0 {
		return api.Bound{}, api.Bound{}, api.ErrNone
	}
	return bounds(pieces)
}
