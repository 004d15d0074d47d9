package farkas

import (
	"headland/api"
	"slices"
	"strconv"
)

// limit is the greatest size of a number of a row.
const limit = 1 << 30

// vector is a list of numbers that are added and multiplied one by one.
type vector[N ~int] []N

// plus returns k times v plus m times w.
func (v vector[N]) plus(k N, w vector[N], m N) vector[N] {
	r := make(vector[N], len(v))
	for i := range v {
		r[i] = k*v[i] + m*w[i]
	}
	return r
}

// reduced returns v divided by the greatest common divisor of its elements.
func (v vector[N]) reduced() vector[N] {
	var g N
	for _, n := range v {
		for n != 0 {
			g, n = n, g%n
		}
	}
	g = max(g, -g)
	if g <= 1 {
		return v
	}
	r := make(vector[N], len(v))
	for i, n := range v {
		r[i] = n / g
	}
	return r
}

// within reports whether no element is greater than most.
func (v vector[N]) within(most N) bool {
	return !slices.ContainsFunc(v, func(n N) bool { return n < -most || n > most })
}

// row is what follows from some conditions: the coefficients of n variables, the constant, and the weights of the conditions.
type row struct {
	vector[int]
	n  int
	eq bool
}

func (r row) constant() int { return r.vector[r.n] }

func (r row) weights() []int { return r.vector[r.n+1:] }

// key differs for rows with different expressions or flags.
func (r row) key() string {
	b := strconv.AppendBool(nil, r.eq)
	for _, n := range r.vector[:r.n+1] {
		b = append(b, ' ')
		b = strconv.AppendInt(b, int64(n), 10)
	}
	return string(b)
}

// rows returns the rows of the Ge and Eq conditions of a piece over n variables.
func rows(p []api.Cond, n int) []row {
	var l []row
	for i, c := range p {
		if c.Kind == api.Div {
			continue
		}
		v := make(vector[int], n+1+len(p))
		copy(v, c.L.C)
		v[n] = c.L.K
		v[n+1+i] = 1
		l = append(l, row{v, n, c.Kind == api.Eq})
	}
	return l
}

// eliminate returns rows without the variable v that follow from the rows of a list.
func eliminate(l []row, v int) ([]row, api.Errno) {
	var made []row
	if i := unit(l, v); i >= 0 {
		made = replaced(l, v, i)
	} else {
		made = paired(l, v)
	}
	seen := map[string]bool{}
	var kept []row
	for _, r := range made {
		r.vector = r.reduced()
		if key := r.key(); !seen[key] {
			seen[key] = true
			kept = append(kept, r)
		}
	}
	if len(kept) > api.MaxPieces || slices.ContainsFunc(kept, func(r row) bool { return !r.within(limit) }) {
		return nil, api.ErrFull
	}
	return kept, api.OK
}

// unit returns the position of the first Eq row with the least coefficient of v, or -1 if no Eq row mentions v.
func unit(l []row, v int) int {
	best, least := -1, 0
	for i, r := range l {
		size := max(r.vector[v], -r.vector[v])
		if r.eq && size > 0 && (best < 0 || size < least) {
			best, least = i, size
		}
	}
	return best
}

// replaced uses the Eq row at position i to remove v from all others.
func replaced(l []row, v, i int) []row {
	by := l[i]
	a, sign := by.vector[v], 1
	if a < 0 {
		a, sign = -a, -1
	}
	var made []row
	for j, r := range l {
		if j == i {
			continue
		}
		if b := r.vector[v]; b != 0 {
			r.vector = r.plus(a, by.vector, -sign*b)
		}
		made = append(made, r)
	}
	return made
}

// paired adds each lower bound of v to each upper bound, so that v falls away.
func paired(l []row, v int) []row {
	var made []row
	for _, r := range l {
		if r.vector[v] == 0 {
			made = append(made, r)
		}
	}
	for _, r := range l {
		a := r.vector[v]
		if a <= 0 {
			continue
		}
		for _, s := range l {
			if b := -s.vector[v]; b > 0 {
				made = append(made, row{r.plus(b, s.vector, a), r.n, false})
			}
		}
	}
	return made
}
