package driver

import (
	"headland/api"
	"headland/dep"
	"headland/elim"
	"headland/expand"
	"headland/farkas"
	"headland/fold"
	"headland/moves"
	"headland/par"
	"headland/scan"
	"headland/scratch"
	"headland/search"
	"headland/tidy"
	"headland/ties"
	"headland/tree"
	"headland/unroll"
	"slices"
)

// own returns a copy of an order in which the fields that its kind does not mention are zero.
func own(o Order) Order {
	r := Order{Kind: o.Kind}
	switch o.Kind {
	case Search:
		r.Mode = o.Mode
	case Change:
		r.Move = o.Move
		r.Move.List = slices.Clone(o.Move.List)
	case Tiles:
		r.K = o.K
	case Strip, Unroll:
		r.Path, r.K = slices.Clone(o.Path), o.K
	case Peel:
		r.Path = slices.Clone(o.Path)
	case Copy:
		r.Path, r.Array, r.Low, r.Nums = slices.Clone(o.Path), o.Array, tree.Lins(o.Low), slices.Clone(o.Nums)
	case Expand:
		r.K, r.Low, r.Size = o.K, tree.Lins(o.Low), tree.Lins(o.Size)
	case Fold:
		r.Array, r.Nums = o.Array, slices.Clone(o.Nums)
	case Drop:
		r.Array = o.Array
	}
	return r
}

// after returns the state after an order.
func (s state) after(o Order) (state, api.Errno) {
	if o.Kind < Search || o.Kind > Drop {
		return state{}, api.ErrNone
	}
	if o.Kind > Build {
		p, e := s.rewritten(o)
		if e != api.OK {
			return state{}, e
		}
		return s.stepped(Step{Order: o, After: p}), api.OK
	}
	deps, e := dep.All(s.program)
	if e != api.OK {
		return state{}, e
	}
	if o.Kind != Search && !s.scheduled {
		return state{}, api.ErrState
	}
	if compute, ok := planners()[o.Kind]; ok {
		rows, e := compute(s, deps, o)
		if e != api.OK {
			return state{}, e
		}
		return s.planned(rows, true), api.OK
	}
	if o.Kind == Choose {
		s.marks, e = par.Choose(s.program, deps, s.sched, nil)
		return s, e
	}
	return s.built(deps, o)
}

// planners returns the functions of the orders that compute a schedule.
func planners() map[int]func(state, []api.Dep, Order) (api.Sched, api.Errno) {
	return map[int]func(state, []api.Dep, Order) (api.Sched, api.Errno){
		Search: func(s state, deps []api.Dep, o Order) (api.Sched, api.Errno) {
			return search.Search(s.program, deps, o.Mode)
		},
		Change: func(s state, deps []api.Dep, o Order) (api.Sched, api.Errno) {
			rows, _, e := moves.Try(s.program, deps, s.sched, o.Move)
			return rows, e
		},
		Tiles: func(s state, deps []api.Dep, o Order) (api.Sched, api.Errno) {
			return moves.TileAll(s.program, deps, s.sched, o.K)
		},
	}
}

// built returns the state after a Build.
func (s state) built(deps []api.Dep, o Order) (state, api.Errno) {
	proofs, e := s.proofs(deps)
	if e != api.OK {
		return state{}, e
	}
	p, e := scan.Scan(s.program, s.sched, s.marks)
	if e != api.OK {
		return state{}, e
	}
	return s.stepped(Step{Order: o, Sched: s.sched, Marks: s.marks, Proofs: proofs, After: p}), api.OK
}

// proofs proves that the schedule breaks no dependence.
func (s state) proofs(deps []api.Dep) (l []Proof, e api.Errno) {
	for c, e := range ties.Claims(s.program, deps, s.sched) {
		if e != api.OK {
			return nil, e
		}
		weights, e := farkas.Prove(c.Conds, c.Dim)
		if e != api.OK {
			weights = nil
			if e := empty(c); e != api.OK {
				return nil, e
			}
		}
		l = append(l, Proof{Dep: c.Dep, Row: c.Row, Piece: c.Piece, Weights: weights})
	}
	return l, api.OK
}

// empty returns ErrOrder if a claim has points.
func empty(c ties.Claim) api.Errno {
	none, e := elim.Empty(api.Set{Dim: c.Dim, Pieces: [][]api.Cond{c.Conds}})
	if e == api.OK && !none {
		return api.ErrOrder
	}
	return e
}

// rewritten returns the program after an order that needs no schedule.
func (s state) rewritten(o Order) (api.Program, api.Errno) {
	p := s.program
	if o.Kind == Tidy {
		return tidy.Tidy(p)
	}
	if marked(p.Body) {
		return api.Program{}, api.ErrState
	}
	switch o.Kind {
	case Strip:
		return unroll.Strip(p, o.Path, o.K)
	case Unroll:
		return unroll.Unroll(p, o.Path, o.K)
	case Peel:
		return unroll.Peel(p, o.Path)
	case Copy:
		return scratch.Copy(p, o.Path, o.Array, o.Low, o.Nums)
	case Expand:
		return expand.Expand(p, o.K, o.Low, o.Size)
	case Fold:
		return fold.Fold(p, o.Array, o.Nums)
	default:
		return expand.Drop(p, o.Array)
	}
}

// marked reports whether a loop has a mark other than Plain.
func marked(l []api.Stmt) bool {
	return slices.ContainsFunc(l, func(s api.Stmt) bool {
		return s.Mark != api.Plain || marked(s.Body) || marked(s.Else)
	})
}
