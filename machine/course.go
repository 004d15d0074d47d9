package machine

import (
	"headland/api"
	"headland/lang"
	"slices"
)

// Course is what happens in an execution, as far as it is of interest: the functions may be nil. Enter and Leave are called before and after a loop, and Turn before each of its iterations. The point of an assignment is only lent.
type Course struct {
	Assign             func(number int, s api.Stmt, point []int)
	Enter, Turn, Leave func(mark int)
}

// complete returns c with functions that do nothing in place of those that are nil.
func (c Course) complete() Course {
	if c.Assign == nil {
		c.Assign = func(int, api.Stmt, []int) {}
	}
	for _, f := range []*func(int){&c.Enter, &c.Turn, &c.Leave} {
		if *f == nil {
			*f = func(int) {}
		}
	}
	return c
}

// Follow executes the loops and the tests of a program, and counts the steps. It returns the error with which the execution ends.
func (m *Machine) Follow(c Course) (steps int, e api.Errno) {
	defer func() {
		if code := stopped(recover()); code != api.OK {
			steps, e = 0, code
		}
	}()
	w := &walker{course: c.complete()}
	w.list(m.Body, slices.Clone(m.Params))
	return w.steps, api.OK
}

// walker is the state of an execution.
type walker struct {
	course Course
	steps  int
}

// step counts a step that is about to be performed.
func (w *walker) step() {
	if w.steps == api.MaxSteps {
		panic(Stop{api.ErrFull})
	}
	w.steps++
}

func (w *walker) list(l []Node, point []int) {
	for _, n := range l {
		switch {
		case n.Kind == api.For:
			w.loop(n, point)
		case n.Kind == api.Assign:
			w.step()
			w.course.Assign(n.First, n.Stmt, point)
		case Holds(n.Test, point):
			w.list(n.Then, point)
		default:
			w.list(n.Else, point)
		}
	}
}

func (w *walker) loop(n Node, point []int) {
	w.course.Enter(n.Mark)
	low, high := Bounds(n.Stmt, point)
	inside := append(slices.Clone(point), 0)
	for v := low; v <= high; v += n.Step {
		w.step()
		w.course.Turn(n.Mark)
		inside[len(point)] = v
		w.list(n.Then, inside)
	}
	w.course.Leave(n.Mark)
}

// Insts returns the instances of a machine's program in the order of execution, or the error of the steps and bounds, or ErrFull if there are too many.
func (m *Machine) Insts() ([]api.Inst, api.Errno) {
	var l []api.Inst
	many := false
	_, e := m.Follow(Course{Assign: func(k int, _ api.Stmt, point []int) {
		if len(l) == api.MaxPoints {
			many = true
			return
		}
		l = append(l, api.Inst{Stmt: k, At: slices.Clone(point[len(m.Params):])})
	}})
	if e != api.OK {
		return nil, e
	}
	if many {
		return nil, api.ErrFull
	}
	return l, api.OK
}

// Stmts returns the assignments of the program, by their numbers.
func (m *Machine) Stmts() []api.Stmt {
	infos, _ := lang.Assigns(m.Program)
	var l []api.Stmt
	for _, x := range infos {
		l = append(l, x.Stmt)
	}
	return l
}
