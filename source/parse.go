package source

import (
	"headland/api"
	"headland/lang"
	"headland/lin"
	"headland/set"
	"headland/text"
	"slices"
)

// parser reads a program. It goes on where only a limit is exceeded, because a wrong form further on counts more.
type parser struct {
	*text.Reader
	program api.Program
	stmts   int
	full    bool
}

// side is what a low or a high bound is written with: the words around its parts, around the rows of a part, and around a row.
type side struct{ outer, inner, row string }

// Parse reads a program.
func Parse(source string) (p api.Program, e api.Errno) {
	if len(source) > api.MaxText {
		return api.Program{}, api.ErrFull
	}
	defer func() {
		switch f := recover().(type) {
		case nil:
		case text.Failure:
			p, e = api.Program{}, f.Code
		default:
			panic(f)
		}
	}()
	x := &parser{Reader: text.NewReader(source)}
	x.heads()
	x.program.Body = x.list(x.program.Params, 0)
	x.End()
	if x.full {
		return api.Program{}, api.ErrFull
	}
	if e := lang.Check(x.program); e != api.OK {
		return api.Program{}, e
	}
	return x.program, api.OK
}

// limit notes whether a limit holds.
func (x *parser) limit(holds bool) {
	x.full = x.full || !holds
}

// heads reads the parameters and the arrays.
func (x *parser) heads() {
	p := &x.program
	for x.Accept("param") {
		p.Params = append(p.Params, x.Name())
		x.Expect(";")
	}
	for x.Accept("array") {
		a := api.Array{Name: x.Name()}
		a.Sizes = x.subscripts(p.Params)
		x.limit(len(a.Sizes) <= api.MaxDims)
		p.Arrays = append(p.Arrays, a)
		x.Expect(";")
	}
	x.limit(len(p.Params) <= api.MaxParams && len(p.Arrays) <= api.MaxArrays)
}

// subscripts reads expressions in brackets.
func (x *parser) subscripts(names []string) []api.Lin {
	var l []api.Lin
	for x.Accept("[") {
		l = append(l, x.expression(names))
		x.Expect("]")
	}
	return l
}

// expression reads a linear expression.
func (x *parser) expression(names []string) api.Lin {
	l := x.Lin(names)
	x.limit(lin.Valid(l))
	return l
}

// list reads statements inside a number of loops.
func (x *parser) list(names []string, loops int) []api.Stmt {
	var l []api.Stmt
	for {
		t := x.Peek(0)
		var s api.Stmt
		switch {
		case x.Accept("for"):
			s = x.loop(names, loops)
		case x.Accept("if"):
			s = x.test(names, loops)
		case t.Kind == text.Name:
			s = x.assign(names)
		default:
			return l
		}
		x.stmts++
		x.limit(x.stmts <= api.MaxStmts && loops <= api.MaxDepth)
		l = append(l, s)
	}
}

func (x *parser) block(names []string, loops int) []api.Stmt {
	x.Expect("{")
	l := x.list(names, loops)
	x.Expect("}")
	return l
}

func (x *parser) loop(names []string, loops int) api.Stmt {
	s := api.Stmt{Kind: api.For, Name: x.Name(), Step: 1}
	x.Expect("=")
	s.Low = x.bound(names, side{"min", "max", "ceil"})
	x.Expect("to")
	s.High = x.bound(names, side{"max", "min", "floor"})
	if x.Accept("step") {
		s.Step = x.Number()
		x.limit(1 <= s.Step && s.Step <= api.MaxDiv)
	}
	switch {
	case x.Accept("parallel"):
		s.Mark = api.Parallel
	case x.Accept("vector"):
		s.Mark = api.Vector
	}
	s.Body = x.block(append(slices.Clone(names), s.Name), loops+1)
	return s
}

func (x *parser) bound(names []string, w side) api.Bound {
	var b api.Bound
	x.some(w.outer, func() {
		var rows []api.Row
		x.some(w.inner, func() { rows = append(rows, x.row(names, w)) })
		x.limit(len(rows) <= api.MaxConds)
		b.Parts = append(b.Parts, rows)
	})
	x.limit(len(b.Parts) <= api.MaxPieces)
	return b
}

// some reads one thing, or a list of things in parentheses after a word.
func (x *parser) some(word string, one func()) {
	if !x.Accept(word) {
		one()
		return
	}
	x.Expect("(")
	one()
	for x.Accept(",") {
		one()
	}
	x.Expect(")")
}

func (x *parser) row(names []string, w side) api.Row {
	if !x.Accept(w.row) {
		return api.Row{L: x.expression(names), Div: 1}
	}
	x.Expect("(")
	r := api.Row{L: x.expression(names)}
	x.Expect(",")
	r.Div = x.Number()
	x.limit(1 <= r.Div && r.Div <= api.MaxMod)
	x.Expect(")")
	return r
}

func (x *parser) test(names []string, loops int) api.Stmt {
	x.Expect("{")
	if !slices.Equal(x.Names(), names) {
		x.Fail()
	}
	x.Expect(":")
	s := api.Stmt{Kind: api.If, Test: api.Set{Dim: len(names), Pieces: x.Pieces(names)}}
	x.limit(set.Valid(s.Test))
	x.Expect("}")
	s.Body = x.block(names, loops)
	if x.Accept("else") {
		s.Else = x.block(names, loops)
	}
	return s
}

func (x *parser) assign(names []string) api.Stmt {
	s := api.Stmt{Kind: api.Assign, Target: x.cell(names)}
	x.Expect("=")
	nodes := 0
	s.Value = x.sum(names, &nodes)
	x.limit(nodes <= api.MaxNodes)
	x.Expect(";")
	return s
}

func (x *parser) cell(names []string) api.Ref {
	name := x.Name()
	a := slices.IndexFunc(x.program.Arrays, func(a api.Array) bool { return a.Name == name })
	if a < 0 {
		x.Fail()
	}
	r := api.Ref{Array: a, Subs: x.subscripts(names)}
	if len(r.Subs) != len(x.program.Arrays[a].Sizes) {
		x.Fail()
	}
	return r
}

// sum reads an expression, and counts its nodes.
func (x *parser) sum(names []string, nodes *int) api.Expr {
	a := x.product(names, nodes)
	for {
		op := api.Add
		switch {
		case x.Accept("+"):
		case x.Accept("-"):
			op = api.Sub
		default:
			return a
		}
		b := x.product(names, nodes)
		a = operation(op, a, b, nodes)
	}
}

func (x *parser) product(names []string, nodes *int) api.Expr {
	a := x.factor(names, nodes)
	for x.Accept("*") {
		b := x.factor(names, nodes)
		a = operation(api.Mul, a, b, nodes)
	}
	return a
}

func operation(op int, a, b api.Expr, nodes *int) api.Expr {
	*nodes++
	return api.Expr{Op: op, Args: []api.Expr{a, b}}
}

func (x *parser) factor(names []string, nodes *int) api.Expr {
	switch {
	case x.Accept("("):
		a := x.sum(names, nodes)
		x.Expect(")")
		return a
	case x.Accept("min"):
		return x.pair(api.Min, names, nodes)
	case x.Accept("max"):
		return x.pair(api.Max, names, nodes)
	}
	*nodes++
	switch {
	case x.Accept("-"):
		return api.Expr{Op: api.Num, K: -x.Number()}
	case x.Accept("<"):
		l := x.expression(names)
		x.Expect(">")
		return api.Expr{Op: api.Aff, L: l}
	case x.Peek(0).Kind == text.Number:
		n := x.Number()
		x.limit(n <= 1<<31-1)
		return api.Expr{Op: api.Num, K: n}
	}
	return api.Expr{Op: api.Read, R: x.cell(names)}
}

// pair reads the arguments of min or max.
func (x *parser) pair(op int, names []string, nodes *int) api.Expr {
	x.Expect("(")
	a := x.sum(names, nodes)
	x.Expect(",")
	b := x.sum(names, nodes)
	x.Expect(")")
	return operation(op, a, b, nodes)
}
