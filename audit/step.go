package audit

import (
	"errors"
	"headland/api"
	"headland/dep"
	"headland/driver"
	"headland/elim"
	"headland/expand"
	"headland/farkas"
	"headland/fold"
	"headland/lang"
	"headland/par"
	"headland/scan"
	"headland/sched"
	"headland/scratch"
	"headland/tidy"
	"headland/ties"
	"headland/unroll"
	"slices"
)

// Reasons why a step is not correct.
var (
	errKind   = errors.New("its kind is not that of a step")
	errField  = errors.New("a field has no meaning")
	errMark   = errors.New("the marks are not sound")
	errProof  = errors.New("the proofs are not those of the claims")
	errLoop   = errors.New("a loop is not Plain")
	errResult = errors.New("the program is not the result")
)

// step is a step of a report, with the program before it.
type step struct {
	before api.Program
	driver.Step
}

// correct returns why a step is not correct, or nil.
func (s step) correct() error {
	for _, holds := range s.conditions() {
		if cause := holds(); cause != nil {
			return cause
		}
	}
	return nil
}

// conditions returns the conditions for a correct step; each one may rely on those before it.
func (s step) conditions() []func() error {
	all := []func() error{
		func() error { return unless(s.Order.Kind >= driver.Build && s.Order.Kind <= driver.Drop, errKind) },
		func() error { return unless(mentioned(s.Order), errField) },
	}
	if s.Order.Kind == driver.Build {
		return append(all, s.built()...)
	}
	return append(all,
		func() error { return unless(s.Order.Kind == driver.Tidy || !marked(s.before.Body), errLoop) },
		func() error {
			return unless(len(s.Sched.Rows)+len(s.Marks)+len(s.Proofs) == 0, errField)
		},
		func() error { return s.result(s.rewritten()) },
	)
}

// built returns the conditions for a Build.
func (s step) built() []func() error {
	var deps []api.Dep
	return []func() error{
		func() (cause error) {
			var e api.Errno
			deps, e = dep.All(s.before)
			return refused(e)
		},
		func() error { return refused(sched.Check(s.before, s.Sched)) },
		func() error { return s.sound(deps) },
		func() error { return s.proved(deps) },
		func() error { return s.result(scan.Scan(s.before, s.Sched, s.Marks)) },
	}
}

// unless returns a cause unless something holds.
func unless(holds bool, cause error) error {
	if holds {
		return nil
	}
	return cause
}

// refused returns the error of a function as a cause.
func refused(e api.Errno) error {
	if e == api.OK {
		return nil
	}
	return called(e)
}

// result compares the program after the step with that of a layer.
func (s step) result(p api.Program, e api.Errno) error {
	if e != api.OK {
		return called(e)
	}
	return unless(lang.Same(p, s.After), errResult)
}

// sound checks the marks.
func (s step) sound(deps []api.Dep) error {
	// There are also ErrDim and ErrRange of marks that are too many or too few, or that do not exist.
	ok, _, e := par.Sound(s.before, deps, s.Sched, nil, s.Marks)
	if e != api.OK {
		return called(e)
	}
	return unless(ok, errMark)
}

// proved advances the claims and the proofs together, and checks each proof.
func (s step) proved(deps []api.Dep) error {
	next := s.advance()
	for c, e := range ties.Claims(s.before, deps, s.Sched) {
		if e != api.OK {
			return called(e)
		}
		p, ok := next()
		if !ok || p.Dep != c.Dep || p.Row != c.Row || p.Piece != c.Piece {
			return errProof
		}
		if cause := refuted(c, p.Weights); cause != nil {
			return cause
		}
	}
	_, more := next()
	return unless(!more, errProof)
}

// advance returns a function that returns one proof after the other.
func (s step) advance() func() (driver.Proof, bool) {
	i := 0
	return func() (driver.Proof, bool) {
		if i == len(s.Proofs) {
			return driver.Proof{}, false
		}
		i++
		return s.Proofs[i-1], true
	}
}

// refuted checks that a claim has no points.
func refuted(c ties.Claim, weights []int) error {
	if len(weights) > 0 {
		ok, e := farkas.Check(c.Conds, c.Dim, weights)
		if e != api.OK {
			return called(e)
		}
		return unless(ok, errProof)
	}
	none, e := elim.Empty(api.Set{Dim: c.Dim, Pieces: [][]api.Cond{c.Conds}})
	if e != api.OK {
		return called(e)
	}
	return unless(none, errProof)
}

// mentioned reports whether all fields of an order are zero that its kind does not mention.
func mentioned(o driver.Order) bool {
	// The fields that the kind mentions are taken out.
	switch o.Kind {
	case driver.Strip, driver.Unroll:
		o.Path, o.K = nil, 0
	case driver.Peel:
		o.Path = nil
	case driver.Copy:
		o.Path, o.Array, o.Low, o.Nums = nil, 0, nil, nil
	case driver.Expand:
		o.K, o.Low, o.Size = 0, nil, nil
	case driver.Fold:
		o.Array, o.Nums = 0, nil
	case driver.Drop:
		o.Array = 0
	}
	numbers := []int{o.Mode, o.K, o.Array, o.Move.Kind, o.Move.A, o.Move.B, o.Move.K}
	lists := len(o.Move.List) + len(o.Path) + len(o.Nums) + len(o.Low) + len(o.Size)
	return lists == 0 && !slices.ContainsFunc(numbers, func(n int) bool { return n != 0 })
}

// rewritten returns the program that the layer of an order makes of the one before. The audit calls the layers itself, and does not rely on how the driver does.
func (s step) rewritten() (api.Program, api.Errno) {
	p, o := s.before, s.Order
	switch o.Kind {
	case driver.Tidy:
		return tidy.Tidy(p)
	case driver.Strip:
		return unroll.Strip(p, o.Path, o.K)
	case driver.Unroll:
		return unroll.Unroll(p, o.Path, o.K)
	case driver.Peel:
		return unroll.Peel(p, o.Path)
	case driver.Copy:
		return scratch.Copy(p, o.Path, o.Array, o.Low, o.Nums)
	case driver.Expand:
		return expand.Expand(p, o.K, o.Low, o.Size)
	case driver.Fold:
		return fold.Fold(p, o.Array, o.Nums)
	default:
		return expand.Drop(p, o.Array)
	}
}

// marked reports whether a loop has a mark other than Plain.
func marked(l []api.Stmt) bool {
	return slices.ContainsFunc(l, func(s api.Stmt) bool {
		return s.Mark != api.Plain || marked(s.Body) || marked(s.Else)
	})
}
