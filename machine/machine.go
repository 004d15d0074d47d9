// Package machine has the parts of which the machines that execute programs are made: sizes, cells, values, bounds and the course of an execution.
package machine

import (
	"headland/api"
	"headland/lang"
	"headland/num"
)

// Stop is what an execution that ends with an error panics with.
type Stop struct {
	Code api.Errno
}

// Machine is a program with given parameters.
type Machine struct {
	Program api.Program
	Params  []int
	Sizes   [][]int // of each array, by each subscript
	Cells   []int   // the number of cells of each array
	Body    []Node
}

// Node is a statement, with the number of the first assignment in it.
type Node struct {
	api.Stmt
	First      int
	Then, Else []Node
}

// New returns a machine, or the error of the program or of the parameters.
func New(p api.Program, params []int) (*Machine, api.Errno) {
	if e := lang.Check(p); e != api.OK {
		return nil, e
	}
	if len(params) != len(p.Params) {
		return nil, api.ErrDim
	}
	for _, n := range params {
		if n < 0 || n > api.MaxParam {
			return nil, api.ErrRange
		}
	}
	m := &Machine{Program: p, Params: params}
	all := 0
	for _, a := range p.Arrays {
		sizes, cells := []int{}, 1
		for _, l := range a.Sizes {
			n := At(l, params)
			if n > api.MaxCells {
				return nil, api.ErrFull
			}
			sizes = append(sizes, n)
			cells *= max(n, 0)
		}
		m.Sizes, m.Cells = append(m.Sizes, sizes), append(m.Cells, cells)
		all += cells
	}
	if all > api.MaxCells {
		return nil, api.ErrFull
	}
	m.Body, _ = nodes(p.Body, 0)
	return m, api.OK
}

// nodes returns the nodes of statements, of which the first assignment has the number first, and the number of the next assignment.
func nodes(l []api.Stmt, first int) ([]Node, int) {
	var r []Node
	for _, s := range l {
		n := Node{Stmt: s, First: first}
		if s.Kind == api.Assign {
			first++
		}
		n.Then, first = nodes(s.Body, first)
		n.Else, first = nodes(s.Else, first)
		r = append(r, n)
	}
	return r, first
}

// At returns the value of a valid expression at a point.
func At(l api.Lin, x []int) int {
	n := l.K
	for i, c := range l.C {
		n += c * x[i]
	}
	return n
}

// Fits reports whether memory has one list for each array, with a value for each of its cells.
func (m *Machine) Fits(memory [][]int) bool {
	if len(memory) != len(m.Cells) {
		return false
	}
	for a, l := range memory {
		if len(l) != m.Cells[a] || !Values(l) {
			return false
		}
	}
	return true
}

// Values reports whether all numbers of a list are values of cells.
func Values(l []int) bool {
	for _, n := range l {
		if n != num.Wrap(n) {
			return false
		}
	}
	return true
}

// Cell returns the number of a cell in its array's list. It stops the execution if the array does not have the cell.
func (m *Machine) Cell(r api.Ref, x []int) int {
	k := 0
	for i, l := range r.Subs {
		n, size := At(l, x), m.Sizes[r.Array][i]
		if n < 0 || n >= size {
			panic(Stop{api.ErrRange})
		}
		k = k*size + n
	}
	return k
}

// operators are the operations of the expressions that have two arguments.
type operators struct {
	add, sub, mul, min, max func(a, b int) int
}

func operations() operators {
	return operators{
		add: func(a, b int) int { return num.Wrap(a + b) },
		sub: func(a, b int) int { return num.Wrap(a - b) },
		mul: func(a, b int) int { return num.Wrap(a * b) },
		min: func(a, b int) int { return min(a, b) },
		max: func(a, b int) int { return max(a, b) },
	}
}

func (o operators) of(op int) func(a, b int) int {
	switch op {
	case api.Add:
		return o.add
	case api.Sub:
		return o.sub
	case api.Mul:
		return o.mul
	case api.Min:
		return o.min
	}
	return o.max
}

// Value returns the value of an expression at a point, where read returns that of a cell.
func Value(x api.Expr, at []int, read func(api.Ref) int) int {
	o := operations()
	var value func(x api.Expr) int
	value = func(x api.Expr) int {
		switch x.Op {
		case api.Num:
			return x.K
		case api.Aff:
			return num.Wrap(At(x.L, at))
		case api.Read:
			return read(x.R)
		}
		a := value(x.Args[0])
		b := value(x.Args[1])
		return o.of(x.Op)(a, b)
	}
	return value(x)
}

// Bounds returns the values of the low and the high bound of a loop. It stops the execution if one of them is not a coordinate.
func Bounds(s api.Stmt, x []int) (low, high int) {
	low = coordinate(bound(s.Low, x, num.Ceil, 1))
	high = coordinate(-bound(s.High, x, num.Floor, -1))
	return low, high
}

// bound returns the least of the greatest values of the rows; with the sign -1 all values are negated, so that the order is reversed.
func bound(b api.Bound, x []int, divide func(a, b int) (int, api.Errno), sign int) int {
	var least int
	for i, rows := range b.Parts {
		var most int
		for j, r := range rows {
			n, _ := divide(At(r.L, x), r.Div)
			if n *= sign; j == 0 || n > most {
				most = n
			}
		}
		if i == 0 || most < least {
			least = most
		}
	}
	return least
}

func coordinate(n int) int {
	if n < -api.MaxCoord || n > api.MaxCoord {
		panic(Stop{api.ErrRange})
	}
	return n
}

// Holds reports whether a point is in the set of a test.
func Holds(s api.Set, x []int) bool {
pieces:
	for _, p := range s.Pieces {
		for _, c := range p {
			if n := At(c.L, x); c.Kind == api.Ge && n < 0 || c.Kind == api.Eq && n != 0 || c.Kind == api.Div && n%c.M != 0 {
				continue pieces
			}
		}
		return true
	}
	return false
}

// stopped returns the error of a stop that was recovered, and OK if there was none. It panics again with everything else.
func stopped(r any) api.Errno {
	switch s := r.(type) {
	case nil:
		return api.OK
	case Stop:
		return s.Code
	default:
		panic(r)
	}
}

// Use is a cell that an assignment accesses.
type Use struct {
	Array, Cell int
	Write       bool
}

// Uses returns the cells that an assignment accesses at a point, its target first, or ErrRange if one of them does not exist.
func (m *Machine) Uses(s api.Stmt, point []int) (l []Use, e api.Errno) {
	defer func() {
		if code := stopped(recover()); code != api.OK {
			l, e = nil, code
		}
	}()
	l = []Use{{s.Target.Array, m.Cell(s.Target, point), true}}
	Value(s.Value, point, func(r api.Ref) int {
		l = append(l, Use{r.Array, m.Cell(r, point), false})
		return 0
	})
	return l, api.OK
}

// Valued returns the cell of the target of an assignment at a point and the value that it gets, or ErrRange if a cell does not exist.
func (m *Machine) Valued(s api.Stmt, point []int, memory [][]int) (array, cell, value int, e api.Errno) {
	defer func() {
		if code := stopped(recover()); code != api.OK {
			array, cell, value, e = 0, 0, 0, code
		}
	}()
	value = Value(s.Value, point, func(r api.Ref) int { return memory[r.Array][m.Cell(r, point)] })
	return s.Target.Array, m.Cell(s.Target, point), value, api.OK
}
