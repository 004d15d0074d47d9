package elim

import (
	"headland/api"
	"headland/num"
	"headland/wide"
	"slices"
)

// parted is a normalized piece over n variables that is divided by how its conditions mention the variable v.
type parted struct {
	n, v                          int
	rest, eqs, lower, upper, divs []api.Cond
}

func part(p []api.Cond, n, v int) *parted {
	x := &parted{n: n, v: v}
	for _, c := range p {
		into := &x.rest
		switch a := c.L.C[v]; {
		case a == 0:
		case c.Kind == api.Eq:
			into = &x.eqs
		case c.Kind == api.Div:
			into = &x.divs
		case a > 0:
			into = &x.lower
		default:
			into = &x.upper
		}
		*into = append(*into, c)
	}
	return x
}

// a way to project: whether it is the one for the piece, and what it adds to the projection.
type way struct {
	fits bool
	add  func(u *wide.Union) api.Errno
}

// project returns the projection of a normalized piece over n variables along v.
func project(p []api.Cond, n, v int) ([][]api.Cond, api.Errno) {
	x := part(p, n, v)
	open := len(x.lower) == 0 || len(x.upper) == 0
	whole := len(x.divs) == 0
	ways := []way{
		{len(x.eqs) > 0, func(u *wide.Union) api.Errno { return u.Add(x.substituted()) }},
		// This is also the way of a piece that does not mention v at all.
		{whole && open, func(u *wide.Union) api.Errno { return u.Add(x.without(x.rest)) }},
		{whole && x.exact(), func(u *wide.Union) api.Errno { return u.Add(x.paired()) }},
		{true, func(u *wide.Union) api.Errno { return x.cases(u, open) }},
	}
	u := wide.NewUnion()
	for _, w := range ways {
		if !w.fits {
			continue
		}
		if e := w.add(u); e != api.OK {
			return nil, e
		}
		break
	}
	return u.Pieces(), api.OK
}

// without removes the terms of v, in conditions in which they do not count or cancel.
func (x *parted) without(l []api.Cond) []api.Cond {
	r := make([]api.Cond, len(l))
	for i, c := range l {
		r[i] = api.Cond{Kind: c.Kind, M: c.M, L: api.Lin{C: slices.Concat(c.L.C[:x.v], c.L.C[x.v+1:]), K: c.L.K}}
	}
	return r
}

// combined returns a times l plus b times m.
func combined(a int, l api.Lin, b int, m api.Lin) api.Lin {
	c := make([]int, len(l.C))
	for i := range c {
		c[i] = a*l.C[i] + b*m.C[i]
	}
	return api.Lin{C: c, K: a*l.K + b*m.K}
}

// substituted uses the first Eq with the least coefficient of v.
func (x *parted) substituted() []api.Cond {
	size := func(c api.Cond) int { return max(c.L.C[x.v], -c.L.C[x.v]) }
	best := 0
	for i, c := range x.eqs {
		if size(c) < size(x.eqs[best]) {
			best = i
		}
	}
	by := x.eqs[best]
	a, sign := size(by), 1
	if by.L.C[x.v] < 0 {
		sign = -1
	}
	l := slices.Clone(x.rest)
	for _, c := range slices.Concat(x.eqs[:best], x.eqs[best+1:], x.lower, x.upper, x.divs) {
		// a (b v + S) - sign b (sign a v + R): the terms of v cancel.
		l = append(l, api.Cond{Kind: c.Kind, M: a * c.M, L: combined(a, c.L, -sign*c.L.C[x.v], by.L)})
	}
	if a > 1 {
		l = append(l, api.Cond{Kind: api.Div, M: a, L: by.L})
	}
	return x.without(l)
}

// exact reports whether the pairs of bounds decide exactly whether there is an integer between them.
func (x *parted) exact() bool {
	for _, c := range x.lower {
		for _, d := range x.upper {
			if c.L.C[x.v] != 1 && d.L.C[x.v] != -1 {
				return false
			}
		}
	}
	return true
}

func (x *parted) paired() []api.Cond {
	l := slices.Clone(x.rest)
	for _, c := range x.lower {
		for _, d := range x.upper {
			l = append(l, api.Cond{Kind: api.Ge, L: combined(c.L.C[x.v], d.L, -d.L.C[x.v], c.L)})
		}
	}
	return x.without(l)
}

// cases adds a piece for each bound and each remainder that its distance from the variable may have.
func (x *parted) cases(u *wide.Union, open bool) api.Errno {
	y, unit, d, e := x.scaled()
	if e != api.OK {
		return e
	}
	// From here on the variable is w = unit v. Each start is what w may be, but for a distance.
	w := make([]int, x.n)
	w[x.v] = 1
	divs := append(slices.Clone(y.divs), api.Cond{Kind: api.Div, M: unit, L: api.Lin{C: w}})
	bounds, sign := y.lower, -1
	if len(y.lower) > len(y.upper) {
		bounds, sign = y.upper, 1
	}
	all := slices.Concat(y.lower, y.upper, divs)
	if open {
		// Nothing but the remainder matters: w starts at 0.
		bounds, sign, all = []api.Cond{{L: api.Lin{C: make([]int, x.n)}}}, -1, divs
	}
	for _, b := range bounds {
		for j := range d {
			start := combined(sign, b.L, 0, b.L)
			start.K -= sign * j
			if e := u.Add(x.without(append(replaced(all, x.v, start), x.rest...))); e != api.OK {
				return e
			}
		}
	}
	return api.OK
}

// replaced substitutes an expression for the variable v, whose coefficients are 1 or -1, but leaves some term of v.
func replaced(l []api.Cond, v int, by api.Lin) []api.Cond {
	r := make([]api.Cond, len(l))
	for i, c := range l {
		r[i] = api.Cond{Kind: c.Kind, M: c.M, L: combined(1, c.L, c.L.C[v], by)}
	}
	return r
}

// scaled multiplies the conditions that mention v, so that unit v has the coefficient 1 or -1 in them. The pattern of the Div conditions repeats after d steps of unit v.
func (x *parted) scaled() (y *parted, unit, d int, e api.Errno) {
	var sizes []int
	for _, c := range slices.Concat(x.lower, x.upper, x.divs) {
		sizes = append(sizes, max(c.L.C[x.v], -c.L.C[x.v]))
	}
	if unit, e = num.Lcm(sizes...); e != api.OK {
		return nil, 0, 0, e
	}
	times := func(l []api.Cond) []api.Cond {
		r := make([]api.Cond, len(l))
		for i, c := range l {
			a := c.L.C[x.v]
			k := unit / max(a, -a)
			r[i] = api.Cond{Kind: c.Kind, M: k * c.M, L: combined(k, c.L, 0, c.L)}
			r[i].L.C[x.v] = a * k / unit
		}
		return r
	}
	y = &parted{n: x.n, v: x.v, lower: times(x.lower), upper: times(x.upper), divs: times(x.divs)}
	periods := []int{unit}
	for _, c := range y.divs {
		periods = append(periods, c.M)
	}
	if d, e = num.Lcm(periods...); e != api.OK {
		return nil, 0, 0, e
	}
	return y, unit, d, api.OK
}
