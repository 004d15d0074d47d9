package tidy

import (
	"headland/api"
	"headland/cond"
	"headland/set"
	"slices"
)

// reduced removes the conditions of a piece that follow from the context and the other conditions.
func reduced(c api.Set, q []api.Cond) []api.Cond {
	kept := slices.Clone(q)
	for i := 0; i < len(kept); {
		rest := slices.Concat(kept[:i], kept[i+1:])
		if follows(c, rest, kept[i]) {
			kept = rest
		} else {
			i++
		}
	}
	return kept
}

// follows reports whether a condition holds at all points of c at which others hold.
func follows(c api.Set, rest []api.Cond, d api.Cond) bool {
	opposites, e := cond.Negate(d)
	if e != api.OK {
		return false
	}
	for _, o := range opposites {
		if !none(func() api.Set { return must(set.Where(c, append(rest[:len(rest):len(rest)], o))) }) {
			return false
		}
	}
	return true
}
