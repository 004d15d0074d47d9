// Package lin is layer 2: linear expressions.
package lin

import (
	"cmp"
	"headland/api"
	"headland/num"
	"iter"
	"slices"
)

// Valid reports whether l has at most MaxVars variables and all its numbers fit.
func Valid(l api.Lin) bool {
	if len(l.C) > api.MaxVars || !num.Fits(l.K) {
		return false
	}
	for _, c := range terms(l) {
		if !num.Fits(c) {
			return false
		}
	}
	return true
}

// terms yields the variables with coefficients that are not 0, with these.
func terms(l api.Lin) iter.Seq2[int, int] {
	return func(yield func(int, int) bool) {
		for i, c := range l.C {
			if c != 0 && !yield(i, c) {
				return
			}
		}
	}
}

// Const returns the constant k over n variables.
func Const(n, k int) (api.Lin, api.Errno) {
	if n < 0 || n > api.MaxVars {
		return api.Lin{}, api.ErrRange
	}
	if !num.Fits(k) {
		return api.Lin{}, api.ErrFull
	}
	return api.Lin{C: make([]int, n), K: k}, api.OK
}

// Var returns variable i, over n variables.
func Var(n, i int) (api.Lin, api.Errno) {
	if n < 0 || n > api.MaxVars || i < 0 || i >= n {
		return api.Lin{}, api.ErrRange
	}
	l := api.Lin{C: make([]int, n)}
	l.C[i] = 1
	return l, api.OK
}

// Add returns the sum of a and b.
func Add(a, b api.Lin) (api.Lin, api.Errno) {
	return both(a, b, func(m, n int) int { return m + n })
}

// Sub returns the difference of a and b.
func Sub(a, b api.Lin) (api.Lin, api.Errno) {
	return both(a, b, func(m, n int) int { return m - n })
}

// both applies an operation to the coefficients and to the constants of two expressions.
func both(a, b api.Lin, op func(int, int) int) (api.Lin, api.Errno) {
	if e := together(a, b); e != api.OK {
		return api.Lin{}, e
	}
	return fitting(api.Lin{C: zip(a.C, b.C, op), K: op(a.K, b.K)})
}

// zip applies an operation to the elements of two lists of the same length.
func zip[E, R any](a, b []E, op func(E, E) R) []R {
	l := make([]R, len(a))
	for i := range a {
		l[i] = op(a[i], b[i])
	}
	return l
}

// together returns the error that two expressions together cause.
func together(a, b api.Lin) api.Errno {
	if !Valid(a) || !Valid(b) {
		return api.ErrArg
	}
	if len(a.C) != len(b.C) {
		return api.ErrDim
	}
	return api.OK
}

// fitting returns l, or ErrFull if it is not valid.
func fitting(l api.Lin) (api.Lin, api.Errno) {
	if !Valid(l) {
		return api.Lin{}, api.ErrFull
	}
	return l, api.OK
}

// Scale returns k times a.
func Scale(a api.Lin, k int) (api.Lin, api.Errno) {
	if !Valid(a) {
		return api.Lin{}, api.ErrArg
	}
	l := api.Lin{C: make([]int, len(a.C))}
	zero := a.K == 0
	for range terms(a) {
		zero = false
	}
	if zero {
		return l, api.OK
	}
	// Beyond that, a product with a number that is not 0 does not fit, and might overflow.
	if !num.Fits(k) {
		return api.Lin{}, api.ErrFull
	}
	for i, c := range terms(a) {
		l.C[i] = k * c
	}
	l.K = k * a.K
	return fitting(l)
}

// At returns the value of l at x.
func At(l api.Lin, x []int) (int, api.Errno) {
	if !Valid(l) {
		return 0, api.ErrArg
	}
	sum, e := num.Dot(l.C, x)
	if e != api.OK {
		return 0, e
	}
	return sum + l.K, api.OK
}

// Put substitutes by for variable i in l.
func Put(l api.Lin, i int, by api.Lin) (api.Lin, api.Errno) {
	if e := together(l, by); e != api.OK {
		return api.Lin{}, e
	}
	if i < 0 || i >= len(l.C) {
		return api.Lin{}, api.ErrRange
	}
	r := api.Lin{C: slices.Clone(l.C), K: l.K + l.C[i]*by.K}
	r.C[i] = 0
	for j, c := range terms(by) {
		r.C[j] += l.C[i] * c
	}
	return fitting(r)
}

// Cut returns l without variable i, whose coefficient must be 0.
func Cut(l api.Lin, i int) (api.Lin, api.Errno) {
	if !Valid(l) {
		return api.Lin{}, api.ErrArg
	}
	if i < 0 || i >= len(l.C) {
		return api.Lin{}, api.ErrRange
	}
	if l.C[i] != 0 {
		return api.Lin{}, api.ErrForm
	}
	return api.Lin{C: slices.Concat(l.C[:i], l.C[i+1:]), K: l.K}, api.OK
}

// Room returns l with k new variables before position i.
func Room(l api.Lin, i, k int) (api.Lin, api.Errno) {
	if !Valid(l) {
		return api.Lin{}, api.ErrArg
	}
	if i < 0 || i > len(l.C) || k < 0 {
		return api.Lin{}, api.ErrRange
	}
	if k > api.MaxVars-len(l.C) {
		return api.Lin{}, api.ErrFull
	}
	return api.Lin{C: slices.Concat(l.C[:i], make([]int, k), l.C[i:]), K: l.K}, api.OK
}

// Compare orders expressions by their coefficients and, behind these, their constants.
func Compare(a, b api.Lin) (int, api.Errno) {
	if e := together(a, b); e != api.OK {
		return 0, e
	}
	if n := slices.Compare(a.C, b.C); n != 0 {
		return n, api.OK
	}
	return cmp.Compare(a.K, b.K), api.OK
}
