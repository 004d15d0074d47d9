package fold

import (
	"headland/api"
	"headland/cond"
	"headland/tree"
	"strconv"
)

// class is an expression that is folded, with its modulus.
type class struct {
	f api.Lin
	m int
}

// key differs for different classes.
func (c class) key() string {
	b := strconv.AppendInt(nil, int64(c.m), 10)
	for _, n := range append(c.f.C[:len(c.f.C):len(c.f.C)], c.f.K) {
		b = append(b, ' ')
		b = strconv.AppendInt(b, int64(n), 10)
	}
	return string(b)
}

// folder replaces an assignment by one for each way in which its subscripts may be folded.
type folder struct {
	array  int
	moduli []int
	stmts  int
}

// folded is the editor that puts the chosen constants in the place of the subscripts.
type folded struct {
	tree.Same
	*folder
	chosen map[string]int
}

// Cell returns a folded cell.
func (x folded) Cell(r api.Ref, _ int) (api.Ref, api.Errno) {
	if r.Array != x.array {
		return r, api.OK
	}
	for k, m := range x.moduli {
		if m > 0 {
			r.Subs[k] = api.Lin{C: make([]int, len(r.Subs[k].C)), K: x.chosen[class{r.Subs[k], m}.key()]}
		}
	}
	return r, api.OK
}

// classes is the editor that collects the different classes of an assignment.
type classes struct {
	tree.Same
	*folder
	seen map[string]bool
	list *[]class
}

// Cell notes the classes of a cell.
func (x classes) Cell(r api.Ref, _ int) (api.Ref, api.Errno) {
	if r.Array != x.array {
		return r, api.OK
	}
	for k, m := range x.moduli {
		c := class{r.Subs[k], m}
		if m > 0 && !x.seen[c.key()] {
			x.seen[c.key()] = true
			*x.list = append(*x.list, c)
		}
	}
	return r, api.OK
}

// replaced returns what stands for an assignment.
func (x *folder) replaced(s api.Stmt) ([]api.Stmt, api.Errno) {
	var list []class
	one := []api.Stmt{s}
	// The target comes first in an assignment, then the reads in their order.
	if _, e := tree.Edit(one, classes{folder: x, seen: map[string]bool{}, list: &list}); e != api.OK {
		return nil, e
	}
	chosen := map[string]int{}
	var choose func(i int) ([]api.Stmt, api.Errno)
	choose = func(i int) ([]api.Stmt, api.Errno) {
		if i == len(list) {
			if e := x.count(); e != api.OK {
				return nil, e
			}
			return tree.Edit(one, folded{folder: x, chosen: chosen})
		}
		c := list[i]
		var chain func(r int) ([]api.Stmt, api.Errno)
		chain = func(r int) ([]api.Stmt, api.Errno) {
			chosen[c.key()] = r
			body, e := choose(i + 1)
			if e != api.OK || r == c.m-1 {
				return body, e
			}
			test, e := x.test(c, r)
			if e != api.OK {
				return nil, e
			}
			other, e := chain(r + 1)
			if e != api.OK {
				return nil, e
			}
			return []api.Stmt{{Kind: api.If, Test: test, Body: body, Else: other}}, api.OK
		}
		return chain(0)
	}
	return choose(0)
}

// count counts a statement. There are many more of them than a program may have if the classes are many.
func (x *folder) count() api.Errno {
	x.stmts++
	if x.stmts > api.MaxStmts {
		return api.ErrFull
	}
	return api.OK
}

// test returns the set in which an expression is r modulo its modulus, as it arises.
func (x *folder) test(c class, r int) (api.Set, api.Errno) {
	d := api.Cond{Kind: api.Div, M: c.m, L: api.Lin{C: c.f.C, K: c.f.K - r}}
	if e := x.count(); e != api.OK {
		return api.Set{}, e
	}
	if !cond.Valid(d) {
		return api.Set{}, api.ErrFull
	}
	return api.Set{Dim: len(c.f.C), Pieces: [][]api.Cond{{d}}}, api.OK
}
