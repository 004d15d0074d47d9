package search

import "headland/api"

// reach returns, for each assignment, which ones can be reached from it through open dependences. Each reaches itself.
func (x *state) reach() [][]bool {
	n := len(x.infos)
	all := make([][]bool, n)
	for s := range n {
		seen := make([]bool, n)
		var visit func(s int)
		visit = func(s int) {
			if seen[s] {
				return
			}
			seen[s] = true
			for _, d := range x.open {
				if d.From == s {
					visit(d.To)
				}
			}
		}
		visit(s)
		all[s] = seen
	}
	return all
}

// parts returns the number of each assignment's component.
func (x *state) parts() []int {
	n := len(x.infos)
	all := x.reach()
	parts := make([]int, n)
	for s := range parts {
		parts[s] = -1
	}
	together := func(s, t int) bool { return all[s][t] && all[t][s] }
	next := 0
numbers:
	for {
		// The first assignment that is free belongs to the component that comes next.
	assignments:
		for s := range n {
			if parts[s] >= 0 {
				continue
			}
			for _, d := range x.open {
				if together(d.To, s) && !together(d.From, s) && parts[d.From] < 0 {
					continue assignments
				}
			}
			for t := range n {
				if together(s, t) {
					parts[t] = next
				}
			}
			next++
			continue numbers
		}
		return parts
	}
}

// Parts returns, for each assignment, the number of its component.
func Parts(p api.Program, deps []api.Dep, s api.Sched) ([]int, api.Errno) {
	x, e := checked(p, deps, s, 0)
	if e != api.OK {
		return nil, e
	}
	if e := x.leave(p, deps, s); e != api.OK {
		return nil, e
	}
	return x.parts(), api.OK
}
