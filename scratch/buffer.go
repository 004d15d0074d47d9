package scratch

import (
	"headland/api"
	"headland/lang"
	"headland/lin"
	"headland/tree"
)

// local is the editor that replaces the cells of the array by those of the buffer.
type local struct {
	tree.Same
	array int
	cell  func(r api.Ref, depth int) (api.Ref, api.Errno)
}

// Cell returns the cell of the buffer.
func (x local) Cell(r api.Ref, depth int) (api.Ref, api.Errno) {
	if r.Array != x.array {
		return r, api.OK
	}
	return x.cell(r, depth)
}

// buffered returns the program in which the statement uses a buffer.
func (x *spot) buffered(foot, written api.Set, low []api.Lin, size []int) (api.Program, api.Errno) {
	p := x.program
	name, e := lang.Fresh(p, "b")
	if e != api.OK {
		return api.Program{}, e
	}
	q := tree.Program(p)
	buffer := api.Array{Name: name}
	for _, n := range size {
		buffer.Sizes = append(buffer.Sizes, api.Lin{C: make([]int, len(p.Params)), K: n})
	}
	q.Arrays = append(q.Arrays, buffer)
	in, e := x.copying(foot, low, size, true)
	if e != api.OK {
		return api.Program{}, api.ErrFull
	}
	out, e := x.copying(written, low, size, false)
	if e != api.OK {
		return api.Program{}, api.ErrFull
	}
	body, e := tree.Edit([]api.Stmt{x.stmt}, local{array: x.array, cell: func(r api.Ref, depth int) (api.Ref, api.Errno) {
		return x.moved(r.Subs, low, depth)
	}})
	if e != api.OK {
		return api.Program{}, api.ErrFull
	}
	// The program without the statement is in order, so what is not valid is beyond a limit.
	r, e := lang.Put(q, x.path, []api.Stmt{in, body[0], out})
	if e != api.OK {
		return api.Program{}, api.ErrFull
	}
	return r, api.OK
}

// moved returns the cell of the buffer for given subscripts, inside a number of loops of the statement.
func (x *spot) moved(subs, low []api.Lin, depth int) (api.Ref, api.Errno) {
	r := api.Ref{Array: len(x.program.Arrays)}
	for j, f := range subs {
		l, e := lin.Room(low[j], x.m, depth)
		if e != api.OK {
			return api.Ref{}, e
		}
		d, e := lin.Sub(f, l)
		if e != api.OK {
			return api.Ref{}, e
		}
		r.Subs = append(r.Subs, d)
	}
	return r, api.OK
}

// copying returns the loops that copy the cells of a set to the buffer, or back.
func (x *spot) copying(cells api.Set, low []api.Lin, size []int, in bool) (api.Stmt, api.Errno) {
	var own []api.Lin
	for j := range low {
		v, e := lin.Var(cells.Dim, x.m+j)
		if e != api.OK {
			return api.Stmt{}, e
		}
		own = append(own, v)
	}
	from := api.Ref{Array: x.array, Subs: own}
	to, e := x.moved(own, low, len(low))
	if e != api.OK {
		return api.Stmt{}, e
	}
	if !in {
		from, to = to, from
	}
	copied := api.Stmt{Kind: api.Assign, Target: to, Value: api.Expr{Op: api.Read, R: from}}
	test := api.Stmt{Kind: api.If, Test: cells, Body: []api.Stmt{copied}}
	return x.nested(0, x.names(len(low)), low, size, test)
}

// names returns names for the copying loops.
func (x *spot) names(count int) []string {
	used := map[string]bool{}
	for _, name := range tree.Names(x.program) {
		used[name] = true
	}
	var l []string
	for i := 1; len(l) < count; i++ {
		if name := tree.Numbered("c", i); !used[name] {
			l = append(l, name)
		}
	}
	return l
}

// nested returns the loops from number j on, around the innermost statement.
func (x *spot) nested(j int, names []string, low []api.Lin, size []int, innermost api.Stmt) (api.Stmt, api.Errno) {
	if j == len(names) {
		return innermost, api.OK
	}
	first, e := lin.Room(low[j], x.m, j)
	if e != api.OK {
		return api.Stmt{}, e
	}
	last := api.Lin{C: first.C, K: first.K + size[j] - 1}
	body, e := x.nested(j+1, names, low, size, innermost)
	row := func(l api.Lin) api.Bound { return api.Bound{Parts: [][]api.Row{{{L: l, Div: 1}}}} }
	return api.Stmt{Kind: api.For, Name: names[j], Low: row(first), High: row(last), Step: 1, Body: []api.Stmt{body}}, e
}
