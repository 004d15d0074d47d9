package tree

import (
	"headland/api"
	"strconv"
)

// Names returns the names of the parameters, the arrays and the loops of a program.
func Names(p api.Program) []string {
	l := append([]string{}, p.Params...)
	for _, a := range p.Arrays {
		l = append(l, a.Name)
	}
	var walk func(body []api.Stmt)
	walk = func(body []api.Stmt) {
		for _, s := range body {
			if s.Kind == api.For {
				l = append(l, s.Name)
			}
			walk(s.Body)
			walk(s.Else)
		}
	}
	walk(p.Body)
	return l
}

// Numbered returns a name that consists of a stem and a number.
func Numbered(stem string, n int) string {
	return stem + strconv.Itoa(n)
}

// Editor changes the expressions and the cells of statements. The depth counts the loops of these statements around them. An error ends the traversal.
type Editor interface {
	Lin(l api.Lin, depth int) (api.Lin, api.Errno)
	// Cell receives a cell with its expressions changed already.
	Cell(r api.Ref, depth int) (api.Ref, api.Errno)
}

// Same is the editor that changes nothing.
type Same struct{}

// Lin returns l.
func (Same) Lin(l api.Lin, _ int) (api.Lin, api.Errno) { return Lin(l), api.OK }

// Cell returns r.
func (Same) Cell(r api.Ref, _ int) (api.Ref, api.Errno) { return r, api.OK }

// edited returns the changed elements of a list.
func edited[E any](l []E, depth int, edit func(E, int) (E, api.Errno)) ([]E, api.Errno) {
	var r []E
	for _, x := range l {
		y, e := edit(x, depth)
		if e != api.OK {
			return nil, e
		}
		r = append(r, y)
	}
	return r, api.OK
}

// traversal applies an editor to all parts of statements.
type traversal struct {
	Editor
}

// Edit returns statements changed by an editor.
func Edit(l []api.Stmt, by Editor) ([]api.Stmt, api.Errno) {
	return edited(l, 0, traversal{by}.stmt)
}

func (t traversal) stmt(s api.Stmt, depth int) (api.Stmt, api.Errno) {
	inside := depth
	var e api.Errno
	switch s.Kind {
	case api.For:
		inside++
		if s.Low.Parts, e = edited(s.Low.Parts, depth, t.rows); e != api.OK {
			return api.Stmt{}, e
		}
		if s.High.Parts, e = edited(s.High.Parts, depth, t.rows); e != api.OK {
			return api.Stmt{}, e
		}
	case api.If:
		if s.Test, e = t.set(s.Test, depth); e != api.OK {
			return api.Stmt{}, e
		}
	default:
		if s.Target, e = t.ref(s.Target, depth); e != api.OK {
			return api.Stmt{}, e
		}
		if s.Value, e = t.expr(s.Value, depth); e != api.OK {
			return api.Stmt{}, e
		}
	}
	if s.Body, e = edited(s.Body, inside, t.stmt); e != api.OK {
		return api.Stmt{}, e
	}
	if s.Else, e = edited(s.Else, depth, t.stmt); e != api.OK {
		return api.Stmt{}, e
	}
	return s, api.OK
}

func (t traversal) rows(l []api.Row, depth int) ([]api.Row, api.Errno) {
	return edited(l, depth, func(r api.Row, depth int) (api.Row, api.Errno) {
		var e api.Errno
		r.L, e = t.Lin(r.L, depth)
		return r, e
	})
}

// set changes the expressions of a set; how many variables it has then shows in its conditions, or else in an expression that is changed like them.
func (t traversal) set(s api.Set, depth int) (api.Set, api.Errno) {
	sample, e := t.Lin(api.Lin{C: make([]int, s.Dim)}, depth)
	if e != api.OK {
		return api.Set{}, e
	}
	s.Dim = len(sample.C)
	s.Pieces, e = edited(s.Pieces, depth, func(p []api.Cond, depth int) ([]api.Cond, api.Errno) {
		return edited(p, depth, func(c api.Cond, depth int) (api.Cond, api.Errno) {
			var e api.Errno
			c.L, e = t.Lin(c.L, depth)
			return c, e
		})
	})
	return s, e
}

func (t traversal) ref(r api.Ref, depth int) (api.Ref, api.Errno) {
	var e api.Errno
	if r.Subs, e = edited(r.Subs, depth, t.Lin); e != api.OK {
		return api.Ref{}, e
	}
	return t.Cell(r, depth)
}

func (t traversal) expr(x api.Expr, depth int) (api.Expr, api.Errno) {
	var e api.Errno
	switch x.Op {
	case api.Num:
	case api.Aff:
		x.L, e = t.Lin(x.L, depth)
	case api.Read:
		x.R, e = t.ref(x.R, depth)
	default:
		x.Args, e = edited(x.Args, depth, t.expr)
	}
	return x, e
}

// Editing is an editor that changes expressions by a function.
type Editing struct {
	Same
	Change func(l api.Lin, depth int) (api.Lin, api.Errno)
}

// Lin returns the changed expression.
func (x Editing) Lin(l api.Lin, depth int) (api.Lin, api.Errno) { return x.Change(l, depth) }
