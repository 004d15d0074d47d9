package lang_test

import (
	"headland/api"
	"headland/lang"
	"math"
	"slices"
	"strings"
	"testing"
)

const most = api.MaxCoef

func l(k int, c ...int) api.Lin { return api.Lin{C: c, K: k} }

func row(x api.Lin) api.Bound { return api.Bound{Parts: [][]api.Row{{{L: x, Div: 1}}}} }

func num(k int) api.Expr { return api.Expr{Op: api.Num, K: k} }

func aff(x api.Lin) api.Expr { return api.Expr{Op: api.Aff, L: x} }

func cell(a int, subs ...api.Lin) api.Ref { return api.Ref{Array: a, Subs: subs} }

func read(a int, subs ...api.Lin) api.Expr { return api.Expr{Op: api.Read, R: cell(a, subs...)} }

func op(o int, a, b api.Expr) api.Expr { return api.Expr{Op: o, Args: []api.Expr{a, b}} }

func loop(name string, low, high api.Lin, body ...api.Stmt) api.Stmt {
	return api.Stmt{Kind: api.For, Name: name, Low: row(low), High: row(high), Step: 1, Body: body}
}

func test(dim int, pieces [][]api.Cond, body, other []api.Stmt) api.Stmt {
	return api.Stmt{Kind: api.If, Test: api.Set{Dim: dim, Pieces: pieces}, Body: body, Else: other}
}

func set(target api.Ref, value api.Expr) api.Stmt {
	return api.Stmt{Kind: api.Assign, Target: target, Value: value}
}

// sample is a program with all kinds of statements and nodes:
//
//	param n; array A[n + 1]; array S; array B[n][2 n];
//	S = 1;
//	for i = 0 to n { A[i] = A[n - i] + <i>; if { n, i : i >= 0 } { for j = 0 to i { B[i][j] = min(A[j], S) * 2; } } else { S = A[0] - max(S, A[i]); S = 3; } }
//	for i = 0 to n { }
//	if { n : true } { } else { for k = 1 to n { S = 4; } }
func sample() api.Program {
	return api.Program{
		Params: []string{"n"},
		Arrays: []api.Array{{Name: "A", Sizes: []api.Lin{l(1, 1)}}, {Name: "S"}, {Name: "B", Sizes: []api.Lin{l(0, 1), l(0, 2)}}},
		Body: []api.Stmt{
			set(cell(1), num(1)),
			loop("i", l(0, 0), l(0, 1),
				set(cell(0, l(0, 0, 1)), op(api.Add, read(0, l(0, 1, -1)), aff(l(0, 0, 1)))),
				test(2, [][]api.Cond{{{Kind: api.Ge, L: l(0, 0, 1)}}},
					[]api.Stmt{loop("j", l(0, 0, 0), l(0, 0, 1), set(cell(2, l(0, 0, 1, 0), l(0, 0, 0, 1)), op(api.Mul, op(api.Min, read(0, l(0, 0, 0, 1)), read(1)), num(2))))},
					[]api.Stmt{set(cell(1), op(api.Sub, read(0, l(0, 0, 0)), op(api.Max, read(1), read(0, l(0, 0, 1))))), set(cell(1), num(3))})),
			loop("i", l(0, 0), l(0, 1)),
			test(1, [][]api.Cond{nil}, nil, []api.Stmt{loop("k", l(1, 0), l(0, 1), set(cell(1), num(4)))}),
		},
	}
}

// P10.1.
func TestCheckValid(t *testing.T) {
	if e := lang.Check(api.Program{}); e != api.OK {
		t.Errorf("the empty program: %d", e)
	}
	if e := lang.Check(sample()); e != api.OK {
		t.Errorf("the sample: %d", e)
	}
	for what, change := range map[string]func(p *api.Program){
		"two parameters": func(p *api.Program) {
			*p = api.Program{Params: []string{"n", "m"}, Arrays: []api.Array{{Name: "A", Sizes: []api.Lin{l(1, 2, 3)}}}}
		},
		"eight arrays": func(p *api.Program) { p.Arrays = append(p.Arrays, arrays(5)...) },
		"three subscripts": func(p *api.Program) {
			p.Arrays = append(p.Arrays, api.Array{Name: "C", Sizes: []api.Lin{l(1, 0), l(1, 0), l(1, 0)}})
		},
		"empty lists": func(p *api.Program) {
			p.Body[0].Target.Subs, p.Body[0].Body, p.Body[0].Value.Args = []api.Lin{}, []api.Stmt{}, []api.Expr{}
		},
		"empty lists again": func(p *api.Program) {
			p.Body[0].Low.Parts, p.Body[0].Value.L.C, p.Body[0].Test.Pieces = [][]api.Row{}, []int{}, [][]api.Cond{}
		},
		"a step":             func(p *api.Program) { p.Body[1].Step = 64 },
		"a mark":             func(p *api.Program) { p.Body[1].Mark = 2 },
		"rows":               func(p *api.Program) { p.Body[1].Low.Parts[0] = rows(96) },
		"parts":              func(p *api.Program) { p.Body[1].High.Parts = slices.Repeat([][]api.Row{rows(1)}, 400) },
		"a divisor":          func(p *api.Program) { p.Body[1].Low.Parts[0][0].Div = 512 },
		"256 statements":     func(p *api.Program) { p.Body = slices.Repeat(sample().Body[:1], 256) },
		"256 nested tests":   func(p *api.Program) { p.Body = nested(256) },
		"ten loops":          func(p *api.Program) { p.Body = loops(10, set(cell(1), num(0))) },
		"eleven empty loops": func(p *api.Program) { p.Body = loops(11) },
		"64 nodes":           func(p *api.Program) { p.Body[0].Value = sum(31) },
		"the least number":   func(p *api.Program) { p.Body[0].Value.K = -1 << 31 },
		"the greatest one":   func(p *api.Program) { p.Body[0].Value.K = 1<<31 - 1 },
		"loops side by side": func(p *api.Program) { p.Body = []api.Stmt{loop("i", l(0, 0), l(0, 1)), loop("i", l(0, 0), l(0, 1))} },
		"an array of no use": func(p *api.Program) { p.Arrays = append(p.Arrays, api.Array{Name: "abcdefghijkl"}) },
		"a negative size":    func(p *api.Program) { p.Arrays[0].Sizes[0].K = -most },
		"a loop to nowhere":  func(p *api.Program) { p.Body[1].High = row(l(-most, -most)) },
		"a number for Aff":   func(p *api.Program) { p.Body[0].Value = aff(l(most, 5)) },
	} {
		p := sample()
		change(&p)
		if e := lang.Check(p); e != api.OK {
			t.Errorf("%s: %d", what, e)
		}
	}
}

func arrays(n int) (r []api.Array) {
	for i := range n {
		r = append(r, api.Array{Name: "Z" + string(rune('a'+i))})
	}
	return r
}

func rows(n int) []api.Row { return slices.Repeat([]api.Row{{L: l(0, 0), Div: 1}}, n) }

// nested returns n tests inside each other.
func nested(n int) (r []api.Stmt) {
	for range n {
		r = []api.Stmt{test(1, nil, nil, r)}
	}
	return r
}

// loops returns n loops around some statements, whose expressions are made longer.
func loops(n int, inner ...api.Stmt) []api.Stmt {
	for i := n; i > 0; i-- {
		zero := l(0, make([]int, i)...)
		inner = []api.Stmt{loop("x"+string(rune('a'+i)), zero, zero, inner...)}
	}
	return inner
}

// sum returns an expression with n operators and n + 1 numbers, one of which is an operator of two more.
func sum(n int) api.Expr {
	x := num(1)
	for range n {
		x = op(api.Add, x, num(1))
	}
	return x
}

// P10.1: what breaks each rule.
func TestCheckInvalid(t *testing.T) {
	assign := func(p *api.Program) *api.Stmt { return &p.Body[1].Body[0] }
	other := func(p *api.Program) *api.Stmt { return &p.Body[1].Body[1] }
	inner := func(p *api.Program) *api.Stmt { return &p.Body[1].Body[1].Body[0].Body[0] }
	for what, change := range map[string]func(p *api.Program){
		"three parameters":          func(p *api.Program) { *p = api.Program{Params: []string{"n", "m", "k"}} },
		"nine arrays":               func(p *api.Program) { p.Arrays = append(p.Arrays, arrays(6)...) },
		"a word":                    func(p *api.Program) { p.Params[0] = "to" },
		"no name":                   func(p *api.Program) { p.Params[0] = "" },
		"an array without a name":   func(p *api.Program) { p.Arrays[0].Name = "" },
		"a long name":               func(p *api.Program) { p.Arrays[0].Name = strings.Repeat("A", 13) },
		"equal arrays":              func(p *api.Program) { p.Arrays[2].Name = "A" },
		"an array like a parameter": func(p *api.Program) { p.Arrays[2].Name = "n" },
		"equal parameters":          func(p *api.Program) { *p = api.Program{Params: []string{"n", "n"}} },
		"four subscripts": func(p *api.Program) {
			p.Arrays = append(p.Arrays, api.Array{Name: "C", Sizes: slices.Repeat([]api.Lin{l(1, 0)}, 4)})
		},
		"a great size":              func(p *api.Program) { p.Arrays[0].Sizes[0].K = most + 1 },
		"a size without parameters": func(p *api.Program) { p.Arrays[0].Sizes[0].C = nil },
		"a size over loops":         func(p *api.Program) { p.Arrays[0].Sizes[0].C = []int{1, 0} },
		"257 statements":            func(p *api.Program) { p.Body = slices.Repeat(sample().Body[:1], 257) },
		"257 nested tests":          func(p *api.Program) { p.Body = nested(257) },
		"very many statements":      func(p *api.Program) { p.Body = slices.Repeat(sample().Body[:1], 1<<16) },
		"many nested tests":         func(p *api.Program) { p.Body = nested(1 << 16) },
		"eleven loops":              func(p *api.Program) { p.Body = loops(11, set(cell(1), num(0))) },
		"no kind":                   func(p *api.Program) { p.Body[0].Kind = 0 },
		"an unknown kind":           func(p *api.Program) { p.Body[0].Kind = 4 },
		"a negative kind":           func(p *api.Program) { p.Body[0] = api.Stmt{Kind: -1} },
		"a loop like a parameter":   func(p *api.Program) { p.Body[1].Name = "n" },
		"a loop like an array":      func(p *api.Program) { p.Body[1].Name = "B" },
		"a loop like an outer one":  func(p *api.Program) { other(p).Body[0].Name = "i" },
		"a loop without a name":     func(p *api.Program) { p.Body[1].Name = "" },
		"a loop with a word":        func(p *api.Program) { p.Body[1].Name = "floor" },
		"no low bound":              func(p *api.Program) { p.Body[1].Low = api.Bound{} },
		"no high bound":             func(p *api.Program) { p.Body[1].High = api.Bound{} },
		"a part without rows":       func(p *api.Program) { p.Body[1].High.Parts = append(p.Body[1].High.Parts, nil) },
		"401 parts":                 func(p *api.Program) { p.Body[1].High.Parts = slices.Repeat([][]api.Row{rows(1)}, 401) },
		"97 rows":                   func(p *api.Program) { p.Body[1].Low.Parts[0] = rows(97) },
		"a divisor of 0":            func(p *api.Program) { p.Body[1].Low.Parts[0][0].Div = 0 },
		"a divisor of 513":          func(p *api.Program) { p.Body[1].High.Parts[0][0].Div = 513 },
		"a great number in a bound": func(p *api.Program) { p.Body[1].High.Parts[0][0].L.K = most + 1 },
		"the loop in its bound":     func(p *api.Program) { p.Body[1].High.Parts[0][0].L.C = []int{0, 1} },
		"a step of 0":               func(p *api.Program) { p.Body[1].Step = 0 },
		"a step of 65":              func(p *api.Program) { p.Body[1].Step = 65 },
		"a negative step":           func(p *api.Program) { p.Body[1].Step = -1 },
		"a step and two rows":       func(p *api.Program) { p.Body[1].Step, p.Body[1].Low.Parts[0] = 2, rows(2) },
		"a step and two parts":      func(p *api.Program) { p.Body[1].Step, p.Body[1].Low.Parts = 2, [][]api.Row{rows(1), rows(1)} },
		"a step and a divisor":      func(p *api.Program) { p.Body[1].Step, p.Body[1].Low.Parts[0][0].Div = 2, 2 },
		"a mark of 3":               func(p *api.Program) { p.Body[1].Mark = 3 },
		"a negative mark":           func(p *api.Program) { p.Body[1].Mark = -1 },
		"a loop with a test":        func(p *api.Program) { p.Body[1].Test.Dim = 1 },
		"a loop with pieces":        func(p *api.Program) { p.Body[1].Test.Pieces = [][]api.Cond{nil} },
		"a loop with a target":      func(p *api.Program) { p.Body[1].Target.Array = 1 },
		"a loop with subscripts":    func(p *api.Program) { p.Body[1].Target.Subs = []api.Lin{l(0, 0)} },
		"a loop with a value":       func(p *api.Program) { p.Body[1].Value.K = 1 },
		"a loop with an Aff":        func(p *api.Program) { p.Body[1].Value.L.K = 1 },
		"a loop with arguments":     func(p *api.Program) { p.Body[1].Value.Args = []api.Expr{num(0)} },
		"a loop with an operator":   func(p *api.Program) { p.Body[1].Value.Op = 3 },
		"a loop with a read":        func(p *api.Program) { p.Body[1].Value.R.Array = 1 },
		"a loop with an Else":       func(p *api.Program) { p.Body[1].Else = sample().Body[:1] },
		"a test of the wrong space": func(p *api.Program) { other(p).Test = api.Set{Dim: 1} },
		"a test that is not valid":  func(p *api.Program) { other(p).Test.Pieces[0][0].Kind = 5 },
		"a test with a name":        func(p *api.Program) { other(p).Name = "x" },
		"a test with a low bound":   func(p *api.Program) { other(p).Low = row(l(0, 0, 0)) },
		"a test with a high bound":  func(p *api.Program) { other(p).High = row(l(0, 0, 0)) },
		"a test with a step":        func(p *api.Program) { other(p).Step = 1 },
		"a test with a mark":        func(p *api.Program) { other(p).Mark = 1 },
		"a test with a target":      func(p *api.Program) { other(p).Target.Array = 1 },
		"a test with a value":       func(p *api.Program) { other(p).Value = num(7) },
		"an assignment with a name": func(p *api.Program) { p.Body[0].Name = "x" },
		"an assignment with a low":  func(p *api.Program) { p.Body[0].Low = row(l(0, 0)) },
		"an assignment with a test": func(p *api.Program) { p.Body[0].Test.Dim = 1 },
		"an assignment with a body": func(p *api.Program) { p.Body[0].Body = sample().Body[:1] },
		"an assignment with Else":   func(p *api.Program) { p.Body[0].Else = sample().Body[:1] },
		"an assignment with a step": func(p *api.Program) { p.Body[0].Step = 1 },
		"an assignment with a mark": func(p *api.Program) { p.Body[0].Mark = 1 },
		"no such array":             func(p *api.Program) { p.Body[0].Target.Array = 3 },
		"a negative array":          func(p *api.Program) { p.Body[0].Target.Array = -1 },
		"too many subscripts":       func(p *api.Program) { p.Body[0].Target.Subs = []api.Lin{l(0, 0)} },
		"too few subscripts":        func(p *api.Program) { assign(p).Target.Subs = nil },
		"a subscript over too few":  func(p *api.Program) { assign(p).Target.Subs[0].C = []int{0} },
		"a subscript over too many": func(p *api.Program) { assign(p).Target.Subs[0].C = []int{0, 1, 0} },
		"a great subscript":         func(p *api.Program) { assign(p).Target.Subs[0].K = -most - 1 },
		"a read of no array":        func(p *api.Program) { assign(p).Value.Args[0].R.Array = 3 },
		"a read with too few":       func(p *api.Program) { assign(p).Value.Args[0].R.Subs = nil },
		"a read over too few":       func(p *api.Program) { assign(p).Value.Args[0].R.Subs[0].C = []int{1} },
		"an Aff over too few":       func(p *api.Program) { assign(p).Value.Args[1].L.C = []int{1} },
		"a great Aff":               func(p *api.Program) { assign(p).Value.Args[1].L.K = most + 1 },
		"an operator of 8":          func(p *api.Program) { assign(p).Value.Op = 8 },
		"a negative operator":       func(p *api.Program) { assign(p).Value.Op = -1 },
		"one argument":              func(p *api.Program) { assign(p).Value.Args = assign(p).Value.Args[:1] },
		"three arguments":           func(p *api.Program) { assign(p).Value.Args = append(assign(p).Value.Args, num(1)) },
		"no arguments":              func(p *api.Program) { assign(p).Value.Args = nil },
		"a number beyond":           func(p *api.Program) { p.Body[0].Value.K = 1 << 31 },
		"a number below":            func(p *api.Program) { p.Body[0].Value.K = -1<<31 - 1 },
		"a number with an L":        func(p *api.Program) { p.Body[0].Value.L = l(0, 0) },
		"a number with a constant":  func(p *api.Program) { p.Body[0].Value.L.K = 1 },
		"a number with an R":        func(p *api.Program) { p.Body[0].Value.R.Array = 1 },
		"a number with subscripts":  func(p *api.Program) { p.Body[0].Value.R.Subs = []api.Lin{l(0, 0)} },
		"a number with arguments":   func(p *api.Program) { p.Body[0].Value.Args = []api.Expr{num(1), num(2)} },
		"an Aff with a K":           func(p *api.Program) { assign(p).Value.Args[1].K = 1 },
		"an Aff with an R":          func(p *api.Program) { assign(p).Value.Args[1].R.Array = 1 },
		"an Aff with arguments":     func(p *api.Program) { assign(p).Value.Args[1].Args = []api.Expr{num(1), num(2)} },
		"a read with a K":           func(p *api.Program) { assign(p).Value.Args[0].K = 1 },
		"a read with an L":          func(p *api.Program) { assign(p).Value.Args[0].L = l(0, 0, 0) },
		"a read with arguments":     func(p *api.Program) { assign(p).Value.Args[0].Args = []api.Expr{num(1), num(2)} },
		"an operator with a K":      func(p *api.Program) { assign(p).Value.K = 1 },
		"an operator with an L":     func(p *api.Program) { assign(p).Value.L = l(0, 0, 0) },
		"an operator with an R":     func(p *api.Program) { assign(p).Value.R.Array = 1 },
		"65 nodes":                  func(p *api.Program) { p.Body[0].Value = sum(32) },
		"very many nodes":           func(p *api.Program) { p.Body[0].Value = sum(1 << 15) },
		"a fault far inside":        func(p *api.Program) { inner(p).Value.Args[0].Args[1].R.Array = 9 },
		"a fault in an Else":        func(p *api.Program) { other(p).Else[1].Value.Op = 9 },
	} {
		p := sample()
		change(&p)
		_, e1 := lang.Assigns(p)
		_, e2 := lang.Space(p, []int{99})
		_, e3 := lang.At(p, []int{99})
		_, e4 := lang.Put(p, []int{99}, nil)
		_, e5 := lang.Fresh(p, "to")
		_, e6 := lang.Uses(p)
		if got := []api.Errno{lang.Check(p), e1, e2, e3, e4, e5, e6}; !slices.Equal(got, slices.Repeat([]api.Errno{api.ErrArg}, 7)) {
			t.Errorf("%s: %v", what, got)
		}
	}
}

// P10.2, P10.8.
func TestAssigns(t *testing.T) {
	p := sample()
	infos, e := lang.Assigns(p)
	if e != api.OK || len(infos) != 6 {
		t.Fatalf("%d assignments, %d", len(infos), e)
	}
	paths := [][]int{{0}, {1, 0, 0}, {1, 0, 1, 0, 0, 0, 0}, {1, 0, 1, 1, 0}, {1, 0, 1, 1, 1}, {3, 1, 0, 0, 0}}
	names := []string{"n", "n i", "n i j", "n i", "n i", "n k"}
	reads := [][]api.Ref{nil, {cell(0, l(0, 1, -1))}, {cell(0, l(0, 0, 0, 1)), cell(1)}, {cell(0, l(0, 0, 0)), cell(1), cell(0, l(0, 0, 1))}, nil, nil}
	for i, x := range infos {
		if !slices.Equal(x.Path, paths[i]) || strings.Join(x.Names, " ") != names[i] || !slices.EqualFunc(x.Reads, reads[i], sameRef) {
			t.Errorf("assignment %d: %v", i, x)
		}
		s, e := lang.At(p, x.Path)
		if e != api.OK || !sameStmt(s, x.Stmt) || x.Stmt.Kind != api.Assign {
			t.Errorf("At(%v) = %v, %d", x.Path, s, e)
		}
		if i > 0 && slices.Compare(infos[i-1].Path, x.Path) >= 0 {
			t.Errorf("path %d is not greater", i)
		}
	}
	if infos[3].Stmt.Value.Op != api.Sub || infos[2].Stmt.Target.Array != 2 {
		t.Errorf("%v", infos)
	}
	if infos, e := lang.Assigns(api.Program{}); e != api.OK || len(infos) != 0 {
		t.Errorf("of nothing: %v, %d", infos, e)
	}
	spoil(infos)
	if !lang.Same(p, sample()) {
		t.Error("shared memory")
	}
}

// spoil changes whatever a result contains.
func spoil(infos []lang.Info) {
	for i := range infos {
		x := &infos[i]
		x.Path[0], x.Names[0] = 77, "spoilt"
		for j := range x.Reads {
			for k := range x.Reads[j].Subs {
				x.Reads[j].Subs[k].C[0] = 78
			}
		}
		for k := range x.Stmt.Target.Subs {
			x.Stmt.Target.Subs[k].C[0] = 79
		}
		for k := range x.Stmt.Value.Args {
			x.Stmt.Value.Args[k].K = 80
		}
	}
}

func sameRef(a, b api.Ref) bool { return sameStmt(set(a, num(0)), set(b, num(0))) }

func sameStmt(a, b api.Stmt) bool {
	return lang.Same(api.Program{Body: []api.Stmt{a}}, api.Program{Body: []api.Stmt{b}})
}

// P10.3.
func TestSpaceAt(t *testing.T) {
	p := sample()
	for _, x := range []struct {
		path  []int
		names string
		kind  int
	}{
		{[]int{0}, "n", api.Assign}, {[]int{1}, "n", api.For}, {[]int{3}, "n", api.If}, {[]int{1, 0, 1}, "n i", api.If}, {[]int{1, 0, 1, 0, 0}, "n i", api.For}, {[]int{1, 0, 1, 0, 0, 0, 0}, "n i j", api.Assign}, {[]int{1, 0, 1, 1, 1}, "n i", api.Assign}, {[]int{3, 1, 0}, "n", api.For}, {[]int{2}, "n", api.For},
	} {
		names, e := lang.Space(p, x.path)
		if e != api.OK || strings.Join(names, " ") != x.names {
			t.Errorf("Space(%v) = %v, %d", x.path, names, e)
		}
		s, e := lang.At(p, x.path)
		if e != api.OK || s.Kind != x.kind {
			t.Errorf("At(%v) = %v, %d", x.path, s, e)
		}
	}
	for _, path := range [][]int{nil, {}, {4}, {-1}, {1, 0}, {0, 0, 0}, {1, 1, 0}, {1, 0, 2}, {1, 2, 0}, {1, -1, 0}, {1, 0, 1, 2, 0}, {1, 0, 1, 1, 2}, {3, 0, 0}, {2, 0, 0}, {math.MaxInt}, {math.MinInt, 0, 0}, {1, 0, 1, 0, 0, 0, 0, 0, 0}, make([]int, 99999)} {
		names, e := lang.Space(p, path)
		s, f := lang.At(p, path)
		q, g := lang.Put(p, path, nil)
		if len(names) != 0 || !sameStmt(s, api.Stmt{}) || !lang.Same(q, api.Program{}) || e != api.ErrNone || f != api.ErrNone || g != api.ErrNone {
			t.Errorf("%v: %v, %d, %v, %d, %d", path, names, e, s, f, g)
		}
	}
	names, _ := lang.Space(p, []int{1, 0, 0})
	names[0], names[1] = "x", "y"
	s, _ := lang.At(p, []int{1})
	s.Body[0].Target.Subs[0].C[1] = 99
	s.Low.Parts[0][0].L.C[0] = 99
	if !lang.Same(p, sample()) {
		t.Error("shared memory")
	}
}

// P10.4, P10.9.
func TestPut(t *testing.T) {
	p := sample()
	for _, path := range [][]int{{0}, {1}, {1, 0, 0}, {1, 0, 1}, {1, 0, 1, 0, 0}, {1, 0, 1, 0, 0, 0, 0}, {1, 0, 1, 1, 1}, {3, 1, 0, 0, 0}} {
		s, _ := lang.At(p, path)
		if q, e := lang.Put(p, path, []api.Stmt{s}); e != api.OK || !lang.Same(p, q) {
			t.Errorf("Put(%v) of itself: %v, %d", path, q, e)
		}
	}
	q, e := lang.Put(p, []int{1, 0, 1, 1, 0}, []api.Stmt{set(cell(1), num(8)), set(cell(1), num(9))})
	want := sample()
	other := &want.Body[1].Body[1]
	other.Else = []api.Stmt{set(cell(1), num(8)), set(cell(1), num(9)), other.Else[1]}
	if e != api.OK || !lang.Same(q, want) {
		t.Errorf("Put of two: %v, %d", q, e)
	}
	q, e = lang.Put(p, []int{1}, nil)
	want = sample()
	want.Body = slices.Delete(want.Body, 1, 2)
	if e != api.OK || !lang.Same(q, want) {
		t.Errorf("Put of none: %v, %d", q, e)
	}
	if q, e := lang.Put(p, []int{0}, []api.Stmt{set(cell(1, l(0, 0)), num(8))}); e != api.ErrArg || !lang.Same(q, api.Program{}) {
		t.Errorf("Put of a fault: %v, %d", q, e)
	}
	if q, e := lang.Put(p, []int{0}, slices.Repeat([]api.Stmt{set(cell(1), num(8))}, 300)); e != api.ErrArg || !lang.Same(q, api.Program{}) {
		t.Errorf("Put of too many: %d", e)
	}
	if !lang.Same(p, sample()) {
		t.Error("the argument was changed")
	}
	given := []api.Stmt{set(cell(0, l(0, 0)), num(1))}
	q, _ = lang.Put(p, []int{0}, given)
	q.Body[0].Target.Subs[0].K = 5
	q.Body[1].Body[0].Target.Subs[0].C[1] = 6
	q.Params[0] = "z"
	q.Arrays[0].Sizes[0].K = 7
	if given[0].Target.Subs[0].K != 0 || !lang.Same(p, sample()) {
		t.Error("shared memory")
	}
}

// P10.5.
func TestFresh(t *testing.T) {
	p := sample()
	p.Params[0], p.Arrays[1].Name, p.Body[1].Name, p.Body[1].Body[1].Body[0].Name, p.Body[3].Else[0].Name = "a1", "a2", "a4", "b1", "a3"
	for _, x := range []struct {
		stem, name string
		e          api.Errno
	}{
		{"a", "a5", api.OK}, {"b", "b2", api.OK}, {"A", "A1", api.OK}, {"abcdefgh", "abcdefgh1", api.OK}, {"a1", "a11", api.OK}, {"fo", "fo1", api.OK}, {"abcdefghi", "", api.ErrForm}, {"", "", api.ErrForm}, {"for", "", api.ErrForm}, {"1", "", api.ErrForm}, {"a b", "", api.ErrForm},
	} {
		if name, e := lang.Fresh(p, x.stem); name != x.name || e != x.e {
			t.Errorf("Fresh(%q) = %q, %d", x.stem, name, e)
		}
	}
	if name, e := lang.Fresh(api.Program{}, "t"); name != "t1" || e != api.OK {
		t.Errorf("Fresh: %q, %d", name, e)
	}
}

// P10.6.
func TestUses(t *testing.T) {
	p := sample()
	uses, e := lang.Uses(p)
	want := []api.Access{
		{Stmt: 0, Pos: 0, Write: true, R: cell(1)}, {Stmt: 1, Pos: 0, Write: true, R: cell(0, l(0, 0, 1))}, {Stmt: 1, Pos: 1, R: cell(0, l(0, 1, -1))},
		{Stmt: 2, Pos: 0, Write: true, R: cell(2, l(0, 0, 1, 0), l(0, 0, 0, 1))}, {Stmt: 2, Pos: 1, R: cell(0, l(0, 0, 0, 1))}, {Stmt: 2, Pos: 2, R: cell(1)},
		{Stmt: 3, Pos: 0, Write: true, R: cell(1)}, {Stmt: 3, Pos: 1, R: cell(0, l(0, 0, 0))}, {Stmt: 3, Pos: 2, R: cell(1)}, {Stmt: 3, Pos: 3, R: cell(0, l(0, 0, 1))}, {Stmt: 4, Pos: 0, Write: true, R: cell(1)}, {Stmt: 5, Pos: 0, Write: true, R: cell(1)},
	}
	if e != api.OK || !slices.EqualFunc(uses, want, func(a, b api.Access) bool {
		return a.Stmt == b.Stmt && a.Pos == b.Pos && a.Write == b.Write && sameRef(a.R, b.R)
	}) {
		t.Errorf("%v, %d", uses, e)
	}
	uses[1].R.Subs[0].C[1] = 55
	uses[2].R.Subs[0].C[1] = 55
	if !lang.Same(p, sample()) {
		t.Error("shared memory")
	}
}

// P10.7.
func TestSame(t *testing.T) {
	if !lang.Same(sample(), sample()) || !lang.Same(api.Program{}, api.Program{Params: []string{}, Arrays: []api.Array{}, Body: []api.Stmt{}}) {
		t.Error("equal programs differ")
	}
	for what, change := range map[string]func(p *api.Program){
		"a parameter":        func(p *api.Program) { p.Params[0] = "m" },
		"no parameter":       func(p *api.Program) { p.Params = nil },
		"an array's name":    func(p *api.Program) { p.Arrays[0].Name = "C" },
		"an array's size":    func(p *api.Program) { p.Arrays[0].Sizes[0].K = 2 },
		"an array's form":    func(p *api.Program) { p.Arrays[0].Sizes[0].C[0] = 2 },
		"an array more":      func(p *api.Program) { p.Arrays = append(p.Arrays, api.Array{}) },
		"a statement less":   func(p *api.Program) { p.Body = p.Body[:3] },
		"a kind":             func(p *api.Program) { p.Body[0].Kind = 2 },
		"a name":             func(p *api.Program) { p.Body[1].Name = "x" },
		"a low bound":        func(p *api.Program) { p.Body[1].Low.Parts[0][0].L.K = 1 },
		"a low divisor":      func(p *api.Program) { p.Body[1].Low.Parts[0][0].Div = 2 },
		"a low row":          func(p *api.Program) { p.Body[1].Low.Parts[0] = rows(2) },
		"a high bound":       func(p *api.Program) { p.Body[1].High.Parts[0][0].L.C[0] = 0 },
		"a high part":        func(p *api.Program) { p.Body[1].High.Parts = append(p.Body[1].High.Parts, rows(1)) },
		"a step":             func(p *api.Program) { p.Body[1].Step = 2 },
		"a mark":             func(p *api.Program) { p.Body[1].Mark = 1 },
		"a test's dimension": func(p *api.Program) { p.Body[3].Test.Dim = 2 },
		"a test's piece":     func(p *api.Program) { p.Body[3].Test.Pieces = nil },
		"a condition's kind": func(p *api.Program) { p.Body[1].Body[1].Test.Pieces[0][0].Kind = api.Eq },
		"a condition's M":    func(p *api.Program) { p.Body[1].Body[1].Test.Pieces[0][0].M = 1 },
		"a condition's L":    func(p *api.Program) { p.Body[1].Body[1].Test.Pieces[0][0].L.K = 1 },
		"a target":           func(p *api.Program) { p.Body[0].Target.Array = 0 },
		"a subscript":        func(p *api.Program) { p.Body[1].Body[0].Target.Subs[0].K = 1 },
		"a number":           func(p *api.Program) { p.Body[0].Value.K = 2 },
		"an operator":        func(p *api.Program) { p.Body[1].Body[0].Value.Op = api.Sub },
		"an Aff":             func(p *api.Program) { p.Body[1].Body[0].Value.Args[1].L.K = 1 },
		"a read":             func(p *api.Program) { p.Body[1].Body[0].Value.Args[0].R.Subs[0].K = 1 },
		"an argument":        func(p *api.Program) { p.Body[1].Body[0].Value.Args = p.Body[1].Body[0].Value.Args[:1] },
		"a body":             func(p *api.Program) { p.Body[1].Body = p.Body[1].Body[:1] },
		"an Else":            func(p *api.Program) { p.Body[3].Else[0].Body = nil },
	} {
		p := sample()
		change(&p)
		if lang.Same(p, sample()) || lang.Same(sample(), p) {
			t.Errorf("%s does not count", what)
		}
	}
}

// Example 1.
func TestExample(t *testing.T) {
	p := api.Program{Params: []string{"n"}, Arrays: []api.Array{{Name: "A", Sizes: []api.Lin{l(1, 1)}}}, Body: []api.Stmt{loop("i", l(0, 0), l(-1, 1), set(cell(0, l(0, 0, 1)), op(api.Add, read(0, l(1, 0, 1)), num(1))))}}
	infos, e := lang.Assigns(p)
	if e != api.OK || len(infos) != 1 || !slices.Equal(infos[0].Path, []int{0, 0, 0}) || !slices.Equal(infos[0].Names, []string{"n", "i"}) || len(infos[0].Reads) != 1 {
		t.Errorf("%v, %d", infos, e)
	}
}
