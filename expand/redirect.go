package expand

import (
	"headland/api"
	"headland/lin"
	"headland/tree"
	"slices"
)

// reader is the editor that lets one read of an assignment, which is given by its position, read another cell.
type reader struct {
	tree.Same
	pos  int
	cell api.Ref
	next *int
}

// Cell returns the other cell in the place of that read. The target comes first, at position 0.
func (x reader) Cell(r api.Ref, _ int) (api.Ref, api.Errno) {
	pos := *x.next
	*x.next++
	if pos == x.pos {
		return tree.Ref(x.cell), api.OK
	}
	return r, api.OK
}

// last combines the elements of a list with a start, from the last one to the first one.
func last[E, R any](l []E, start R, join func(E, R) (R, api.Errno)) (R, api.Errno) {
	for _, x := range slices.Backward(l) {
		var e api.Errno
		if start, e = join(x, start); e != api.OK {
			return start, e
		}
	}
	return start, api.OK
}

// redirected lets the read at pos of each assignment in l read the new array, where the parts say so.
func (x *view) redirected(l []api.Stmt, pos int, parts []Part, low []api.Lin) ([]api.Stmt, api.Errno) {
	l, e := tree.Assigns(l, func(_ int, s api.Stmt) ([]api.Stmt, api.Errno) {
		return last(parts, []api.Stmt{s}, func(part Part, other []api.Stmt) ([]api.Stmt, api.Errno) {
			cell, e := x.position(part, low)
			if e != api.OK {
				return nil, e
			}
			next := 0
			body, e := tree.Edit([]api.Stmt{s}, reader{pos: pos, cell: cell, next: &next})
			return []api.Stmt{{Kind: api.If, Test: part.Set, Body: body, Else: other}}, e
		})
	})
	if e != api.OK {
		return nil, e
	}
	// The statements multiply with each read; so many are too many whatever comes.
	if tree.Count(l) > api.MaxStmts {
		return nil, api.ErrFull
	}
	return l, api.OK
}

// position returns the cell of the new array that a part reads.
func (x *view) position(part Part, low []api.Lin) (api.Ref, api.Errno) {
	r := api.Ref{Array: len(x.program.Arrays)}
	for j, e := range part.From {
		sub := minus(e, low[j])
		if !lin.Valid(sub) {
			return api.Ref{}, api.ErrFull
		}
		r.Subs = append(r.Subs, sub)
	}
	return r, api.OK
}
