package point

import (
	"headland/api"
	"headland/set"
	"iter"
)

// lines returns the lines of a set of one variable, without those that are seen to have no values.
func lines(s api.Set) []line {
	return linesAt(s, 0, nil)
}

// linesAt returns the lines of variable i of a set, where the other variables have the coordinates x.
func linesAt(s api.Set, i int, x []int) []line {
	var l []line
	for _, p := range s.Pieces {
		var terms []term
		for _, c := range p {
			t := term{c.Kind, c.M, c.L.C[i], c.L.K}
			for j, n := range x {
				v := j
				if j >= i {
					v++
				}
				t.k += c.L.C[v] * n
			}
			terms = append(terms, t)
		}
		if n, ok := drawn(terms); ok {
			l = append(l, n)
		}
	}
	return l
}

func mirrored(l []line) []line {
	var r []line
	for _, n := range l {
		r = append(r, n.mirrored())
	}
	return r
}

// best returns the element that comes before all others, and false if there are no elements.
func best[E any](l iter.Seq[E], before func(E, E) bool) (b E, ok bool) {
	for e := range l {
		if !ok || before(e, b) {
			b, ok = e, true
		}
	}
	return b, ok
}

func less(a, b int) bool { return a < b }

// from returns the least value of some lines that is at least start, and ErrNone or ErrFull if there is none that is a coordinate.
func from(l []line, start int) (int, api.Errno) {
	n, ok := best(func(yield func(int) bool) {
		for _, n := range l {
			if v, ok := n.next(start); ok && !yield(v) {
				return
			}
		}
	}, less)
	return coordinate(n, ok)
}

func coordinate(n int, ok bool) (int, api.Errno) {
	if !ok {
		return 0, api.ErrNone
	}
	if n < -api.MaxCoord || n > api.MaxCoord {
		return 0, api.ErrFull
	}
	return n, api.OK
}

// least returns the least value of some lines.
func least(l []line) (int, api.Errno) {
	for _, n := range l {
		// A line without a lower bound always has values: its classes repeat.
		if below, _ := n.bounded(); !below {
			return 0, api.ErrRange
		}
	}
	return from(l, -far)
}

// single returns the error of a set that ought to have one variable.
func single(s api.Set) api.Errno {
	if !set.Valid(s) {
		return api.ErrArg
	}
	if s.Dim != 1 {
		return api.ErrDim
	}
	return api.OK
}

// Next returns the least value of s that is at least start.
func Next(s api.Set, start int) (int, api.Errno) {
	if e := single(s); e != api.OK {
		return 0, e
	}
	if start < -api.MaxCoord || start > api.MaxCoord {
		return 0, api.ErrRange
	}
	return from(lines(s), start)
}

// Back returns the greatest value of s that is at most start.
func Back(s api.Set, start int) (int, api.Errno) {
	if e := single(s); e != api.OK {
		return 0, e
	}
	if start < -api.MaxCoord || start > api.MaxCoord {
		return 0, api.ErrRange
	}
	n, e := from(mirrored(lines(s)), -start)
	return -n, e
}

// Low returns the least value of s.
func Low(s api.Set) (int, api.Errno) {
	if e := single(s); e != api.OK {
		return 0, e
	}
	return least(lines(s))
}

// High returns the greatest value of s.
func High(s api.Set) (int, api.Errno) {
	if e := single(s); e != api.OK {
		return 0, e
	}
	n, e := least(mirrored(lines(s)))
	return -n, e
}

// Near returns the value of variable i that is nearest to 0, where the other variables have the coordinates x.
func Near(s api.Set, i int, x []int) (int, api.Errno) {
	if !set.Valid(s) {
		return 0, api.ErrArg
	}
	if len(x) != s.Dim-1 {
		return 0, api.ErrDim
	}
	if i < 0 || i >= s.Dim {
		return 0, api.ErrRange
	}
	for _, n := range x {
		if n < -api.MaxCoord || n > api.MaxCoord {
			return 0, api.ErrRange
		}
	}
	l := linesAt(s, i, x)
	up, e := from(l, 0)
	down, f := from(mirrored(l), 0)
	switch {
	case e == api.OK && (f != api.OK || up <= down):
		return up, api.OK
	case f == api.OK:
		return -down, api.OK
	case e == api.ErrFull || f == api.ErrFull:
		return 0, api.ErrFull
	}
	return 0, api.ErrNone
}
