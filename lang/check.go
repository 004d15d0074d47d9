package lang

import (
	"headland/api"
	"headland/lin"
	"headland/set"
	"headland/settext"
	"slices"
)

// fault ends a check: the program is not valid.
type fault struct{}

// require ends a check unless something holds.
func require(holds bool) {
	if !holds {
		panic(fault{})
	}
}

// checker is the state of a check.
type checker struct {
	program api.Program
	stmts   int
}

// rule is what a kind of statement requires: of the fields that are its own, and of those that are not.
type rule interface {
	check(c *checker, names []string, loops int)
}

type (
	loop   api.Stmt
	test   api.Stmt
	assign api.Stmt
)

// ruleOf returns the rule of a statement.
func ruleOf(s api.Stmt) rule {
	switch s.Kind {
	case api.For:
		return loop(s)
	case api.If:
		return test(s)
	}
	require(s.Kind == api.Assign)
	return assign(s)
}

// Check returns ErrArg unless p is valid.
func Check(p api.Program) (e api.Errno) {
	defer func() {
		switch r := recover().(type) {
		case nil:
		case fault:
			e = api.ErrArg
		default:
			panic(r)
		}
	}()
	c := &checker{program: p}
	c.heads()
	c.list(p.Body, p.Params, 0)
	return api.OK
}

// heads checks the parameters and the arrays.
func (c *checker) heads() {
	p := c.program
	require(len(p.Params) <= api.MaxParams && len(p.Arrays) <= api.MaxArrays)
	names := slices.Clone(p.Params)
	for _, a := range p.Arrays {
		require(len(a.Sizes) <= api.MaxDims)
		for _, l := range a.Sizes {
			over(l, p.Params)
		}
		names = append(names, a.Name)
	}
	for i, name := range names {
		require(settext.Name(name) && !slices.Contains(names[:i], name))
	}
}

// over requires an expression over a space.
func over(l api.Lin, names []string) {
	require(lin.Valid(l) && len(l.C) == len(names))
}

func (c *checker) list(l []api.Stmt, names []string, loops int) {
	for _, s := range l {
		c.stmts++
		require(c.stmts <= api.MaxStmts && loops <= api.MaxDepth)
		ruleOf(s).check(c, names, loops)
	}
}

func (s loop) check(c *checker, names []string, loops int) {
	require(settext.Name(s.Name) && !slices.Contains(names, s.Name))
	require(!slices.ContainsFunc(c.program.Arrays, func(a api.Array) bool { return a.Name == s.Name }))
	bound(s.Low, names)
	bound(s.High, names)
	require(1 <= s.Step && s.Step <= api.MaxDiv && api.Plain <= s.Mark && s.Mark <= api.Vector)
	require(s.Step == 1 || len(s.Low.Parts) == 1 && len(s.Low.Parts[0]) == 1 && s.Low.Parts[0][0].Div == 1)
	require(noSet(s.Test) && noRef(s.Target) && noExpr(s.Value) && len(s.Else) == 0)
	c.list(s.Body, append(slices.Clone(names), s.Name), loops+1)
}

func bound(b api.Bound, names []string) {
	require(1 <= len(b.Parts) && len(b.Parts) <= api.MaxPieces)
	for _, rows := range b.Parts {
		require(1 <= len(rows) && len(rows) <= api.MaxConds)
		for _, r := range rows {
			over(r.L, names)
			require(1 <= r.Div && r.Div <= api.MaxMod)
		}
	}
}

func (s test) check(c *checker, names []string, loops int) {
	require(set.Valid(s.Test) && s.Test.Dim == len(names))
	require(noLoop(api.Stmt(s)) && noRef(s.Target) && noExpr(s.Value))
	c.list(s.Body, names, loops)
	c.list(s.Else, names, loops)
}

func (s assign) check(c *checker, names []string, loops int) {
	require(noLoop(api.Stmt(s)) && noSet(s.Test) && len(s.Body) == 0 && len(s.Else) == 0)
	c.cell(s.Target, names)
	nodes := 0
	c.node(s.Value, names, &nodes)
}

func (c *checker) cell(r api.Ref, names []string) {
	require(0 <= r.Array && r.Array < len(c.program.Arrays))
	require(len(r.Subs) == len(c.program.Arrays[r.Array].Sizes))
	for _, l := range r.Subs {
		over(l, names)
	}
}

func (c *checker) node(x api.Expr, names []string, nodes *int) {
	*nodes++
	require(*nodes <= api.MaxNodes)
	require(x.Op == api.Num || x.K == 0)
	require(x.Op == api.Aff || noLin(x.L))
	require(x.Op == api.Read || noRef(x.R))
	switch x.Op {
	case api.Num:
		require(-1<<31 <= x.K && x.K <= 1<<31-1 && len(x.Args) == 0)
	case api.Aff:
		over(x.L, names)
		require(len(x.Args) == 0)
	case api.Read:
		c.cell(x.R, names)
		require(len(x.Args) == 0)
	default:
		require(api.Add <= x.Op && x.Op <= api.Max && len(x.Args) == 2)
		c.node(x.Args[0], names, nodes)
		c.node(x.Args[1], names, nodes)
	}
}

// noLoop reports whether the fields that only a loop uses are zero or empty.
func noLoop(s api.Stmt) bool {
	return s.Name == "" && len(s.Low.Parts) == 0 && len(s.High.Parts) == 0 && s.Step == 0 && s.Mark == 0
}

func noSet(s api.Set) bool { return s.Dim == 0 && len(s.Pieces) == 0 }

func noLin(l api.Lin) bool { return l.K == 0 && len(l.C) == 0 }

func noRef(r api.Ref) bool { return r.Array == 0 && len(r.Subs) == 0 }

func noExpr(x api.Expr) bool {
	return x.Op == 0 && x.K == 0 && noLin(x.L) && noRef(x.R) && len(x.Args) == 0
}
