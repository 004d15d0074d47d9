package tidy

import (
	"headland/api"
	"headland/elim"
	"headland/lang"
	"headland/region"
	"headland/set"
	"headland/wide"
)

// doubt is what a question panics with if it cannot be decided.
type doubt struct{}

// must returns a set, unless it cannot be computed.
func must(s api.Set, e api.Errno) api.Set {
	if e != api.OK {
		panic(doubt{})
	}
	return s
}

// none asks whether a set has no points. The answer is no if it cannot be found.
func none(f func() api.Set) (answer bool) {
	defer func() {
		r := recover()
		if _, ok := r.(doubt); !ok && r != nil {
			panic(r)
		}
	}()
	empty, e := elim.Empty(f())
	if e != api.OK {
		panic(doubt{})
	}
	return empty
}

// start returns the context of the statements of a program's body.
func start(p api.Program) api.Set {
	n := len(p.Params)
	return api.Set{Dim: n, Pieces: [][]api.Cond{region.Params(n, n)}}
}

// roomed returns a context with room for a variable at the end.
func roomed(c api.Set) (api.Set, api.Errno) {
	return set.Room(c, c.Dim, 1)
}

// iterated returns the context of the statements of a loop's body. What cannot be computed is left out.
func iterated(c api.Set, s api.Stmt) (api.Set, api.Errno) {
	v := c.Dim
	c, e := roomed(c)
	if e != api.OK {
		return api.Set{}, e
	}
	sets := []api.Set{region.Low(s.Low, v, v+1), region.High(s.High, v, v+1)}
	if s.Step > 1 {
		sets = append(sets, api.Set{Dim: v + 1, Pieces: [][]api.Cond{{region.Step(s, v, v+1)}}})
	}
	for _, t := range sets {
		if m, e := set.Meet(c, t); e == api.OK {
			c = m
		}
	}
	return c, api.OK
}

// sided returns the context of the statements of a test's Body (side 0) or Else (side 1).
func sided(c api.Set, s api.Stmt, side int) api.Set {
	split := set.Meet
	if side == 1 {
		split = set.Minus
	}
	if m, e := split(c, s.Test); e == api.OK {
		return m
	}
	return c
}

// Context returns the context of the statement at path.
func Context(p api.Program, path []int) (api.Set, api.Errno) {
	if _, e := lang.At(p, path); e != api.OK {
		return api.Set{}, e
	}
	c, l := start(p), p.Body
	for len(path) > 1 {
		s, side := l[path[0]], path[1]
		l, path = s.Body, path[2:]
		if s.Kind == api.For {
			var e api.Errno
			if c, e = iterated(c, s); e != api.OK {
				return api.Set{}, e
			}
			continue
		}
		if side == 1 {
			l = s.Else
		}
		c = sided(c, s, side)
	}
	return c, api.OK
}

// Gist returns a set with the points that s has in c, and with as few conditions as the order of its conditions allows.
func Gist(c, s api.Set) (api.Set, api.Errno) {
	if !set.Valid(c) || !set.Valid(s) {
		return api.Set{}, api.ErrArg
	}
	if c.Dim != s.Dim {
		return api.Set{}, api.ErrDim
	}
	s, e := set.Normal(s)
	if e != api.OK {
		return api.Set{}, e
	}
	u := wide.NewUnion()
	for _, q := range s.Pieces {
		if none(func() api.Set { return must(set.Where(c, q)) }) {
			continue
		}
		if e := u.Keep(reduced(c, q)); e != api.OK {
			return api.Set{}, e
		}
	}
	return api.Set{Dim: s.Dim, Pieces: u.Pieces()}, api.OK
}
