// Package tree copies and changes the parts of programs.
package tree

import (
	"headland/api"
	"slices"
)

// Lin returns a copy of an expression.
func Lin(l api.Lin) api.Lin {
	return api.Lin{C: slices.Clone(l.C), K: l.K}
}

// each returns a list of the copies of elements.
func each[E any](l []E, clone func(E) E) []E {
	if len(l) == 0 {
		return nil
	}
	r := make([]E, len(l))
	for i, x := range l {
		r[i] = clone(x)
	}
	return r
}

// Lins returns a copy of a list of expressions.
func Lins(l []api.Lin) []api.Lin {
	return each(l, Lin)
}

// Row returns a copy of a row.
func Row(r api.Row) api.Row {
	return api.Row{L: Lin(r.L), Div: r.Div}
}

// Rows returns a copy of a list of lists of rows.
func Rows(l [][]api.Row) [][]api.Row {
	return each(l, func(rows []api.Row) []api.Row { return each(rows, Row) })
}

// Bound returns a copy of a bound.
func Bound(b api.Bound) api.Bound {
	return api.Bound{Parts: Rows(b.Parts)}
}

// Cond returns a copy of a condition.
func Cond(c api.Cond) api.Cond {
	return api.Cond{Kind: c.Kind, M: c.M, L: Lin(c.L)}
}

// Set returns a copy of a set.
func Set(s api.Set) api.Set {
	return api.Set{Dim: s.Dim, Pieces: each(s.Pieces, func(p []api.Cond) []api.Cond { return each(p, Cond) })}
}

// Ref returns a copy of a cell.
func Ref(r api.Ref) api.Ref {
	return api.Ref{Array: r.Array, Subs: Lins(r.Subs)}
}

// Expr returns a copy of an expression.
func Expr(x api.Expr) api.Expr {
	return api.Expr{Op: x.Op, K: x.K, L: Lin(x.L), R: Ref(x.R), Args: each(x.Args, Expr)}
}

// Stmt returns a copy of a statement.
func Stmt(s api.Stmt) api.Stmt {
	s.Low, s.High = Bound(s.Low), Bound(s.High)
	s.Test = Set(s.Test)
	s.Target, s.Value = Ref(s.Target), Expr(s.Value)
	s.Body, s.Else = Stmts(s.Body), Stmts(s.Else)
	return s
}

// Stmts returns a copy of a list of statements.
func Stmts(l []api.Stmt) []api.Stmt {
	return each(l, Stmt)
}

// Array returns a copy of an array.
func Array(a api.Array) api.Array {
	return api.Array{Name: a.Name, Sizes: Lins(a.Sizes)}
}

// Arrays returns a copy of a list of arrays.
func Arrays(l []api.Array) []api.Array {
	return each(l, Array)
}

// Program returns a copy of a program.
func Program(p api.Program) api.Program {
	return api.Program{Params: slices.Clone(p.Params), Arrays: Arrays(p.Arrays), Body: Stmts(p.Body)}
}

// Sched returns a copy of a schedule.
func Sched(s api.Sched) api.Sched {
	return api.Sched{Rows: Rows(s.Rows)}
}
