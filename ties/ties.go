// Package ties follows the pairs of a dependence through the rows of a schedule: which of them are tied, turned or right at each row.
package ties

import (
	"headland/api"
	"headland/clean"
	"headland/lang"
	"headland/set"
	"headland/wide"
	"iter"
	"slices"
)

// Check returns the first error of dependences of a program.
func Check(p api.Program, deps []api.Dep) api.Errno {
	infos, e := lang.Assigns(p)
	if e != api.OK {
		return e
	}
	for _, d := range deps {
		if d.From < 0 || d.From >= len(infos) || d.To < 0 || d.To >= len(infos) {
			return api.ErrNone
		}
		if !set.Valid(d.Pairs) {
			return api.ErrArg
		}
		if d.Pairs.Dim != len(infos[d.From].Names)+len(infos[d.To].Names)-len(p.Params) {
			return api.ErrDim
		}
	}
	return api.OK
}

// Chain is a dependence and a schedule, with the lists of tied pieces that are known already.
type Chain struct {
	d        api.Dep
	from, to []api.Row // the rows of both assignments, over the pairs
	n, loops int       // the numbers of parameters and of From's loops
	known    [][][]api.Cond
}

// New returns the chain of a dependence and a schedule that have been checked.
func New(p api.Program, d api.Dep, s api.Sched) *Chain {
	infos, _ := lang.Assigns(p)
	n := len(p.Params)
	c := &Chain{d: d, n: n, loops: len(infos[d.From].Names) - n}
	for _, r := range s.Rows[d.From] {
		l := slices.Concat(r.L.C, make([]int, d.Pairs.Dim-len(r.L.C)))
		c.from = append(c.from, api.Row{L: api.Lin{C: l, K: r.L.K}, Div: r.Div})
	}
	for _, r := range s.Rows[d.To] {
		l := slices.Concat(r.L.C[:n], make([]int, c.loops), r.L.C[n:])
		c.to = append(c.to, api.Row{L: api.Lin{C: l, K: r.L.K}, Div: r.Div})
	}
	return c
}

// Rows returns the number of rows of the schedule.
func (c *Chain) Rows() int { return len(c.from) }

// Set returns the set of pieces over the space of the pairs.
func (c *Chain) Set(pieces [][]api.Cond) api.Set {
	return api.Set{Dim: c.d.Pairs.Dim, Pieces: pieces}
}

// Witness divides a point of the pairs into the parameters, From's and To's variables.
func (c *Chain) Witness(x []int) (params, from, to []int) {
	return slices.Clone(x[:c.n]), slices.Clone(x[c.n : c.n+c.loops]), slices.Clone(x[c.n+c.loops:])
}

// Levels yields the lists of tied pieces T(0), T(1) and so on, up to the first error.
func (c *Chain) Levels() iter.Seq2[[][]api.Cond, api.Errno] {
	return func(yield func([][]api.Cond, api.Errno) bool) {
		for k := 0; k <= c.Rows(); k++ {
			if k == len(c.known) {
				l := c.d.Pairs.Pieces
				if k > 0 {
					l = split(c.known[k-1], c.tiedAt(k-1))
				}
				t, e := clean.Pieces(l, c.d.Pairs.Dim)
				if e != api.OK {
					yield(nil, e)
					return
				}
				c.known = append(c.known, t)
			}
			if !yield(c.known[k], api.OK) {
				return
			}
		}
	}
}

// Tied returns the pieces of T(k).
func (c *Chain) Tied(k int) ([][]api.Cond, api.Errno) {
	i := 0
	for t, e := range c.Levels() {
		if e != api.OK || i == k {
			return t, e
		}
		i++
	}
	return nil, api.ErrRange
}

// adds says which conditions a split adds to a piece: one list for each piece that it makes.
type adds func() [][]api.Cond

// split splits all pieces of a list.
func split(l [][]api.Cond, by adds) [][]api.Cond {
	more := by()
	var r [][]api.Cond
	for _, q := range l {
		for _, m := range more {
			r = append(r, slices.Concat(q, m))
		}
	}
	return r
}

// sum returns i a + j b + k, whose numbers may exceed the limits.
func sum(i int, a api.Lin, j int, b api.Lin, k int) api.Lin {
	l := api.Lin{C: make([]int, len(a.C)), K: i*a.K + j*b.K + k}
	for v := range l.C {
		l.C[v] = i*a.C[v] + j*b.C[v]
	}
	return l
}

func ge(l api.Lin) api.Cond { return api.Cond{Kind: api.Ge, L: l} }

func divides(m int, l api.Lin) api.Cond { return api.Cond{Kind: api.Div, M: m, L: l} }

// tiedAt says that row k has the same value for both: with b - r = f q, that e q <= a <= e q + e - 1.
func (c *Chain) tiedAt(k int) adds {
	a, e, b, f := c.from[k].L, c.from[k].Div, c.to[k].L, c.to[k].Div
	return func() (l [][]api.Cond) {
		for r := range f {
			l = append(l, []api.Cond{divides(f, sum(1, b, 0, b, -r)), ge(sum(f, a, -e, b, e*r)), ge(sum(-f, a, e, b, f*(e-1)-e*r))})
		}
		return l
	}
}

// turnedAt says that the value of row k is smaller for To.
func (c *Chain) turnedAt(k int) adds {
	return smaller(c.to[k], c.from[k])
}

// rightAt says that the value of row k is smaller for From.
func (c *Chain) rightAt(k int) adds {
	return smaller(c.from[k], c.to[k])
}

// smaller says that the value of one row is smaller than that of another one: with b - r = f q, that a >= e (q + 1).
func smaller(low, high api.Row) adds {
	a, e, b, f := high.L, high.Div, low.L, low.Div
	return func() (l [][]api.Cond) {
		for r := range f {
			l = append(l, []api.Cond{divides(f, sum(1, b, 0, b, -r)), ge(sum(f, a, -e, b, e*r-e*f))})
		}
		return l
	}
}

// ordered says, for two instances of one assignment, that the point of one of them is smaller: with the sign 1 that of From, and with -1 that of To.
func (c *Chain) ordered(t [][]api.Cond, sign int) [][]api.Cond {
	dim := c.d.Pairs.Dim
	// later is sign (y_j - x_j) + k.
	later := func(kind, j, k int) api.Cond {
		l := api.Lin{C: make([]int, dim), K: k}
		l.C[c.n+j], l.C[c.n+c.loops+j] = -sign, sign
		return api.Cond{Kind: kind, L: l}
	}
	var r [][]api.Cond
	var equal []api.Cond
	for j := range c.loops {
		for _, q := range t {
			r = append(r, slices.Concat(q, equal, []api.Cond{later(api.Ge, j, -1)}))
		}
		equal = append(equal, later(api.Eq, j, 0))
	}
	return r
}

// raw returns the pieces from which B(k) (for the sign -1) or C(k) (for the sign 1) is obtained by cleaning, and whether they are clean already.
func (c *Chain) raw(k, sign int) (l [][]api.Cond, cleaned bool, e api.Errno) {
	t, e := c.Tied(k)
	if e != api.OK {
		return nil, false, e
	}
	// Where the times are equal, the number of the assignment decides.
	order := sign * (c.d.To - c.d.From)
	switch {
	case k < c.Rows() && sign < 0:
		return split(t, c.turnedAt(k)), false, api.OK
	case k < c.Rows():
		return split(t, c.rightAt(k)), false, api.OK
	case order > 0:
		return t, true, api.OK
	case order < 0:
		return nil, true, api.OK
	}
	return c.ordered(t, sign), false, api.OK
}

func (c *Chain) cleaned(k, sign int) ([][]api.Cond, api.Errno) {
	l, done, e := c.raw(k, sign)
	if e != api.OK || done {
		return l, e
	}
	return clean.Pieces(l, c.d.Pairs.Dim)
}

// Turned returns the pieces of B(k).
func (c *Chain) Turned(k int) ([][]api.Cond, api.Errno) { return c.cleaned(k, -1) }

// Right returns the pieces of C(k).
func (c *Chain) Right(k int) ([][]api.Cond, api.Errno) { return c.cleaned(k, 1) }

// Across returns the pairs of T(from) for which the value of row k is smaller for To.
func (c *Chain) Across(from, k int) ([][]api.Cond, api.Errno) {
	t, e := c.Tied(from)
	if e != api.OK {
		return nil, e
	}
	return clean.Pieces(split(t, c.turnedAt(k)), c.d.Pairs.Dim)
}

// Claims returns the pieces from which B(k) is obtained by cleaning, normal and without void ones.
func (c *Chain) Claims(k int) ([][]api.Cond, api.Errno) {
	l, _, e := c.raw(k, -1)
	if e != api.OK {
		return nil, e
	}
	var r [][]api.Cond
	for _, q := range l {
		p, void, e := wide.Piece(q)
		if e != api.OK {
			return nil, e
		}
		if !void {
			r = append(r, p)
		}
	}
	return r, api.OK
}

// Claim is a piece of B(Row) of a dependence before the cleaning. A schedule is legal if none of them has a point.
type Claim struct {
	Dep, Row, Piece int
	Dim             int
	Conds           []api.Cond
}

// Claims yields the claims of dependences and a schedule that have been checked, in order, up to the first error.
func Claims(p api.Program, deps []api.Dep, s api.Sched) iter.Seq2[Claim, api.Errno] {
	return func(yield func(Claim, api.Errno) bool) {
		for i, d := range deps {
			c := New(p, d, s)
			for k := range c.Rows() + 1 {
				l, e := c.Claims(k)
				if e != api.OK {
					yield(Claim{}, e)
					return
				}
				for j, q := range l {
					if !yield(Claim{i, k, j, d.Pairs.Dim, q}, api.OK) {
						return
					}
				}
			}
		}
	}
}
