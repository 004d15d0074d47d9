// Package wide normalizes conditions and pieces whose numbers may exceed the limits of package api, as they arise in computations. All numbers that it receives are small enough for their sums with each other not to overflow.
package wide

import (
	"cmp"
	"headland/api"
	"headland/lin"
	"slices"
)

// Verdicts about a condition.
const (
	Never  = -1 // it holds nowhere
	Open   = 0  // it is neither of the others
	Always = 1  // it holds everywhere
)

// shape is a condition with the greatest common divisor of its coefficients.
type shape struct {
	api.Cond
	gcd int
}

// Normal normalizes a condition. Its result is zero unless the verdict is Open.
func Normal(c api.Cond) (api.Cond, int) {
	return rules()[c.Kind](shape{c, divisor(0, c.L.C)})
}

// rules builds the table of the rules for the kinds Ge, Eq and Div.
func rules() [3]func(shape) (api.Cond, int) {
	return [3]func(shape) (api.Cond, int){api.Ge: shape.atLeast, api.Eq: shape.equal, api.Div: shape.divided}
}

func (s shape) atLeast() (api.Cond, int) {
	if s.gcd == 0 {
		return verdict(s.L.K >= 0)
	}
	return api.Cond{Kind: api.Ge, L: api.Lin{C: quotients(s.L.C, s.gcd), K: floor(s.L.K, s.gcd)}}, Open
}

func (s shape) equal() (api.Cond, int) {
	if s.gcd == 0 {
		return verdict(s.L.K == 0)
	}
	if s.L.K%s.gcd != 0 {
		return api.Cond{}, Never
	}
	by := s.gcd
	if Lead(s.L.C) < 0 {
		by = -by
	}
	return api.Cond{Kind: api.Eq, L: api.Lin{C: quotients(s.L.C, by), K: s.L.K / by}}, Open
}

func (s shape) divided() (api.Cond, int) {
	h := divisor(s.M, s.L.C)
	k := mod(s.L.K, s.M)
	if k%h != 0 {
		return api.Cond{}, Never
	}
	if h == s.M {
		return api.Cond{}, Always
	}
	c := make([]int, len(s.L.C))
	for i, n := range s.L.C {
		c[i] = mod(n, s.M) / h
	}
	return api.Cond{Kind: api.Div, M: s.M / h, L: api.Lin{C: c, K: k / h}}, Open
}

func verdict(holds bool) (api.Cond, int) {
	if holds {
		return api.Cond{}, Always
	}
	return api.Cond{}, Never
}

// Lead returns the first coefficient that is not 0, or 0 if there is none.
func Lead(c []int) int {
	for _, n := range c {
		if n != 0 {
			return n
		}
	}
	return 0
}

// Fits reports whether a condition, which has a valid Kind, does not exceed the limits.
func Fits(c api.Cond) bool {
	return c.M <= api.MaxMod && lin.Valid(c.L)
}

// Order orders conditions: by Kind (Eq, Ge, Div), M, coefficients and constant.
func Order(a, b api.Cond) int {
	if n := cmp.Compare(rank(a.Kind), rank(b.Kind)); n != 0 {
		return n
	}
	if n := cmp.Compare(a.M, b.M); n != 0 {
		return n
	}
	if n := slices.Compare(a.L.C, b.L.C); n != 0 {
		return n
	}
	return cmp.Compare(a.L.K, b.L.K)
}

func rank(kind int) int {
	switch kind {
	case api.Eq:
		return 0
	case api.Ge:
		return 1
	}
	return 2
}

// divisor returns the greatest common divisor of g and the numbers of l.
func divisor(g int, l []int) int {
	for _, n := range l {
		for n != 0 {
			g, n = n, g%n
		}
	}
	return max(g, -g)
}

func quotients(l []int, by int) []int {
	r := make([]int, len(l))
	for i, n := range l {
		r[i] = n / by
	}
	return r
}

func floor(a, b int) int {
	q := a / b
	if a%b < 0 {
		q--
	}
	return q
}

func mod(a, b int) int {
	r := a % b
	if r < 0 {
		r += b
	}
	return r
}
