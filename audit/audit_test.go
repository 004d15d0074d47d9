package audit_test

import (
	"headland/api"
	"headland/audit"
	"headland/driver"
	"headland/lang"
	"headland/moves"
	"headland/run"
	"headland/scan"
	"headland/source"
	"math"
	"math/rand"
	"slices"
	"testing"
)

const (
	pascal = "param n; array A[n + 1][n + 1]; for i = 1 to n { for j = 1 to n { A[i][j] = A[i - 1][j] + A[i][j - 1]; } }"
	fills  = "param n; array A[n + 1][n + 1]; array B[n + 1]; for i = 0 to n { for j = 0 to n { A[i][j] = B[i] + <j>; } }"
	scalar = "param n; array T[1]; array A[n]; array B[n]; for i = 0 to n - 1 { T[0] = A[i]; B[i] = T[0]; }"
	passed = "param n; array T[n]; array A[n]; array B[n]; for i = 0 to n - 1 { T[i] = A[i]; B[i] = T[i] * 2; }"
	window = "param n; array S[n]; array A[n]; for i = 0 to n - 3 { for j = 0 to 2 { S[i] = S[i] + A[i + j]; } }"
	gap    = "param n; array A[7 n + 1]; array B[n + 1]; for i = 0 to n { A[4 i] = 1; if { n, i : i >= 1 } { B[i] = A[7 i]; } }"
)

func parse(t *testing.T, text string) api.Program {
	t.Helper()
	p, e := source.Parse(text)
	if e != api.OK {
		t.Fatalf("Parse(%q): %d", text, e)
	}
	return p
}

func compiled(t *testing.T, text string, orders ...driver.Order) driver.Report {
	t.Helper()
	r, i, e := driver.Compile(parse(t, text), orders)
	if e != api.OK {
		t.Fatalf("order %d of %q: %d", i, text, e)
	}
	return r
}

func l(k int, c ...int) api.Lin { return api.Lin{C: c, K: k} }

func list(x ...api.Lin) []api.Lin { return x }

func wave(t *testing.T) driver.Report {
	t.Helper()
	return compiled(t, pascal, driver.Order{Kind: driver.Search, Mode: 1}, driver.Order{Kind: driver.Choose}, driver.Order{Kind: driver.Build}, driver.Order{Kind: driver.Tidy})
}

func early(t *testing.T) driver.Report {
	t.Helper()
	return compiled(t, gap, driver.Order{Kind: driver.Change, Move: moves.Move{Kind: moves.Shift, A: 0, B: 0, K: -2}}, driver.Order{Kind: driver.Build})
}

// changed holds one report for each kind of step from Strip on, and some with several steps.
func changed(t *testing.T) []driver.Report {
	t.Helper()
	grown := driver.Order{Kind: driver.Expand, K: 0, Low: list(l(0, 0)), Size: list(l(0, 1))}
	return []driver.Report{
		compiled(t, window, driver.Order{Kind: driver.Strip, Path: []int{0, 0, 0}, K: 2}),
		compiled(t, window, driver.Order{Kind: driver.Unroll, Path: []int{0}, K: 3}),
		compiled(t, window, driver.Order{Kind: driver.Peel, Path: []int{0}}),
		compiled(t, window, driver.Order{Kind: driver.Copy, Path: []int{0, 0, 0}, Array: 1, Low: list(l(0, 0, 1)), Nums: []int{3}}),
		compiled(t, scalar, grown),
		compiled(t, passed, driver.Order{Kind: driver.Fold, Array: 0, Nums: []int{1}}),
		compiled(t, passed, driver.Order{Kind: driver.Drop, Array: 2}),
		compiled(t, window, driver.Order{Kind: driver.Tidy}),
		compiled(t, scalar, grown, driver.Order{Kind: driver.Tidy}, driver.Order{Kind: driver.Drop, Array: 0}, driver.Order{Kind: driver.Choose}, driver.Order{Kind: driver.Build}, driver.Order{Kind: driver.Tidy}),
		compiled(t, fills, driver.Order{Kind: driver.Tiles, K: 2}, driver.Order{Kind: driver.Choose}, driver.Order{Kind: driver.Build}, driver.Order{Kind: driver.Tidy}, driver.Order{Kind: driver.Build}),
	}
}

func accepted(t *testing.T) []driver.Report {
	t.Helper()
	return append(changed(t), wave(t), early(t), driver.Report{}, driver.Report{Source: parse(t, pascal)}, compiled(t, "", driver.Order{Kind: driver.Build}), compiled(t, "array A;", driver.Order{Kind: driver.Tidy}))
}

// P32.1, P32.5.
func TestAccepted(t *testing.T) {
	for i, r := range accepted(t) {
		if n, e := audit.Check(r); n != len(r.Steps) || e != api.OK {
			t.Errorf("%d: Check returns %d, %d; want %d", i, n, e, len(r.Steps))
		}
	}
	if r := wave(t); len(r.Steps) != 2 {
		t.Errorf("%d steps", len(r.Steps))
	}
}

// P32.1: an invalid source.
func TestSource(t *testing.T) {
	r := wave(t)
	r.Source.Params[0] = "to"
	p, kept, f := audit.Result(r)
	ok, g := audit.Play(r, []int{1}, 1)
	if n, e := audit.Check(r); n != -1 || e != api.ErrArg || f != api.ErrArg || g != api.ErrArg || ok || len(kept)+len(p.Params)+len(p.Body) != 0 {
		t.Errorf("an invalid source: %d, %d, %d, %d", n, e, f, g)
	}
	r.Steps[0].Order.Kind = 99
	if n, e := audit.Check(r); n != -1 || e != api.ErrArg {
		t.Errorf("an invalid source and step: %d, %d", n, e)
	}
}

// refused checks that a report is refused at a step, by all functions.
func refused(t *testing.T, what string, r driver.Report, step int) {
	t.Helper()
	p, kept, f := audit.Result(r)
	ok, g := audit.Play(r, []int{-1}, 1)
	if n, e := audit.Check(r); n != step || e != api.ErrProof || f != api.ErrProof || g != api.ErrProof || ok || len(kept)+len(p.Params)+len(p.Body) != 0 {
		t.Errorf("%s: Check returns %d, %d; want %d; %d, %d", what, n, e, step, f, g)
	}
}

// P32.1: the kinds of steps, and the fields of orders.
func TestOrders(t *testing.T) {
	for _, kind := range []int{-1, 0, 1, 2, 3, 4, 14, math.MinInt, math.MaxInt} {
		for at := range 2 {
			r := wave(t)
			r.Steps[at].Order.Kind = kind
			refused(t, "the kind", r, at)
		}
	}
	for _, kind := range []int{1, 2, 3, 4, 14, 99, -7} {
		r := compiled(t, "array A; array B; A = B; for i = 0 to 1 { B = 1; }", driver.Order{Kind: driver.Drop, Array: 0})
		r.Steps[0].Order.Kind = kind
		refused(t, "the kind of a Drop", r, 0)
	}
	fields := map[string]func(o *driver.Order){
		"Mode": func(o *driver.Order) { o.Mode++ }, "K": func(o *driver.Order) { o.K++ }, "Array": func(o *driver.Order) { o.Array++ }, "Move.Kind": func(o *driver.Order) { o.Move.Kind++ }, "Move.A": func(o *driver.Order) { o.Move.A-- }, "Move.B": func(o *driver.Order) { o.Move.B++ }, "Move.K": func(o *driver.Order) { o.Move.K++ }, "Move.List": func(o *driver.Order) { o.Move.List = []int{0} }, "Path": func(o *driver.Order) { o.Path = []int{0} }, "Nums": func(o *driver.Order) { o.Nums = []int{0} }, "Low": func(o *driver.Order) { o.Low = list(l(0)) }, "Size": func(o *driver.Order) { o.Size = list(l(0)) },
	}
	mentioned := map[int][]string{driver.Strip: {"K", "Path"}, driver.Unroll: {"K", "Path"}, driver.Peel: {"Path"}, driver.Copy: {"Path", "Array", "Low", "Nums"}, driver.Expand: {"K", "Low", "Size"}, driver.Fold: {"Array", "Nums"}, driver.Drop: {"Array"}}
	for _, fresh := range []func(*testing.T) []driver.Report{changed, func(t *testing.T) []driver.Report { return []driver.Report{wave(t)} }} {
		for i, r := range fresh(t) {
			for name, change := range fields {
				if kind := r.Steps[0].Order.Kind; slices.Contains(mentioned[kind], name) {
					continue
				}
				s := fresh(t)[i]
				change(&s.Steps[0].Order)
				refused(t, name, s, 0)
			}
		}
	}
	// Lists that are empty, but not nil.
	for i, r := range accepted(t) {
		for k := range r.Steps {
			o := &r.Steps[k].Order
			for _, l := range []*[]int{&o.Path, &o.Nums, &o.Move.List, &r.Steps[k].Marks} {
				if *l == nil {
					*l = []int{}
				}
			}
			if o.Low == nil {
				o.Low, o.Size = list(), list()
			}
			if r.Steps[k].Proofs == nil {
				r.Steps[k].Proofs = []driver.Proof{}
			}
			if r.Steps[k].Sched.Rows == nil {
				r.Steps[k].Sched.Rows = [][]api.Row{}
			}
		}
		if n, e := audit.Check(r); n != len(r.Steps) || e != api.OK {
			t.Errorf("%d with empty lists: %d, %d", i, n, e)
		}
	}
}

// P32.1: a wrong Build.
func TestBuild(t *testing.T) {
	for what, change := range map[string]func(s *driver.Step){
		"no list of rows":          func(s *driver.Step) { s.Sched.Rows = nil },
		"too many lists of rows":   func(s *driver.Step) { s.Sched.Rows = append(s.Sched.Rows, s.Sched.Rows[0]) },
		"a divisor":                func(s *driver.Step) { s.Sched.Rows[0][0].Div = 0 },
		"too many rows":            func(s *driver.Step) { s.Sched.Rows[0] = slices.Repeat(s.Sched.Rows[0], 5) },
		"another schedule":         func(s *driver.Step) { s.Sched.Rows[0][0].L = l(0, 0, -1, -1) },
		"a shifted schedule":       func(s *driver.Step) { s.Sched.Rows[0][0].L.K++ },
		"no mark":                  func(s *driver.Step) { s.Marks = s.Marks[:1] },
		"one mark more":            func(s *driver.Step) { s.Marks = append(s.Marks, 0) },
		"a mark that is too small": func(s *driver.Step) { s.Marks[1] = -1 },
		"a mark that is too great": func(s *driver.Step) { s.Marks[1] = 3 },
		"a mark that is not sound": func(s *driver.Step) { s.Marks[0] = api.Parallel },
		"another mark":             func(s *driver.Step) { s.Marks[1] = api.Vector },
		"no proof":                 func(s *driver.Step) { s.Proofs = s.Proofs[:1] },
		"one proof more":           func(s *driver.Step) { s.Proofs = append(s.Proofs, s.Proofs[1]) },
		"a proof of nothing":       func(s *driver.Step) { s.Proofs = append(s.Proofs, driver.Proof{Dep: 2}) },
		"proofs in another order":  func(s *driver.Step) { slices.Reverse(s.Proofs) },
		"a dependence":             func(s *driver.Step) { s.Proofs[1].Dep = 0 },
		"a row":                    func(s *driver.Step) { s.Proofs[0].Row = 1 },
		"a piece":                  func(s *driver.Step) { s.Proofs[0].Piece = -1 },
		"a weight":                 func(s *driver.Step) { s.Proofs[0].Weights[0]++ },
		"too few weights":          func(s *driver.Step) { s.Proofs[0].Weights = s.Proofs[0].Weights[:1] },
		"too many weights":         func(s *driver.Step) { s.Proofs[0].Weights = append(s.Proofs[0].Weights, 0) },
		"no program":               func(s *driver.Step) { s.After = api.Program{} },
		"another bound":            func(s *driver.Step) { s.After.Body[0].High.Parts[0][0].L.K++ },
		"another mark of a loop":   func(s *driver.Step) { s.After.Body[0].Mark = api.Parallel },
		"another name":             func(s *driver.Step) { s.After.Arrays[0].Name = "Z" },
	} {
		r := wave(t)
		change(&r.Steps[0])
		refused(t, what, r, 0)
		// The first step that is not correct counts.
		r.Steps[1].After = api.Program{}
		refused(t, what, r, 0)
	}
	// Other weights that are a refutation, or none at all, with which the claim is examined.
	r := wave(t)
	for i := range r.Steps[0].Proofs[0].Weights {
		r.Steps[0].Proofs[0].Weights[i] *= 3
	}
	r.Steps[0].Proofs[1].Weights = nil
	if n, e := audit.Check(r); n != 2 || e != api.OK {
		t.Errorf("other weights: %d, %d", n, e)
	}
	// Weights for a claim that has no refutation.
	r = early(t)
	if len(r.Steps[0].Proofs) != 1 || len(r.Steps[0].Proofs[0].Weights) != 0 {
		t.Fatal("a proof has weights")
	}
	r.Steps[0].Proofs[0].Weights = make([]int, 9)
	refused(t, "weights", r, 0)
}

// An illegal schedule with everything that belongs to it, except for proofs that there cannot be.
func TestIllegal(t *testing.T) {
	p := parse(t, "param n; array A[n + 2]; for i = 0 to n { A[i] = A[i + 1] + 1; }")
	s := api.Sched{Rows: [][]api.Row{{{L: l(0, 0, -1), Div: 1}}}}
	q, e := scan.Scan(p, s, []int{0})
	if e != api.OK {
		t.Fatal(e)
	}
	for _, proofs := range [][]driver.Proof{nil, {{}}, {{Weights: []int{1, 1, 1, 1, 1, 1}}}} {
		r := driver.Report{Source: p, Steps: []driver.Step{{Order: driver.Order{Kind: driver.Build}, Sched: s, Marks: []int{0}, Proofs: proofs, After: q}}}
		refused(t, "an illegal schedule", r, 0)
	}
}

// The dependences of a program that has too many variables, which has a schedule.
func TestTooDeep(t *testing.T) {
	p := parse(t, "array Z; for a = 0 to 1 { for b = 0 to 1 { for c = 0 to 1 { for d = 0 to 1 { for e = 0 to 1 { for f = 0 to 1 { for g = 0 to 1 { Z = 1; } } } } } } }")
	s := api.Sched{Rows: [][]api.Row{{}}}
	q, e := scan.Scan(p, s, nil)
	if e != api.OK {
		t.Fatal(e)
	}
	refused(t, "too deep", driver.Report{Source: p, Steps: []driver.Step{{Order: driver.Order{Kind: driver.Build}, Sched: s, After: q}}}, 0)
	short := parse(t, "array Z; for a = 0 to 1 { Z = 1; }")
	q, _ = scan.Scan(short, s, nil)
	if n, e := audit.Check(driver.Report{Source: short, Steps: []driver.Step{{Order: driver.Order{Kind: driver.Build}, Sched: s, After: q}}}); n != 1 || e != api.OK {
		t.Errorf("no rows: %d, %d", n, e)
	}
}

// P32.1: the other steps.
func TestSteps(t *testing.T) {
	for i := range changed(t) {
		for what, change := range map[string]func(s *driver.Step){
			"no program":     func(s *driver.Step) { s.After = api.Program{} },
			"another array":  func(s *driver.Step) { s.After.Arrays[0].Name = "zz" },
			"the same as ..": func(s *driver.Step) { s.After.Body = append(s.After.Body, s.After.Body...) },
			"a mark":         func(s *driver.Step) { s.Marks = append(s.Marks, 0) },
			"a proof":        func(s *driver.Step) { s.Proofs = append(s.Proofs, driver.Proof{Dep: 99}) },
			"a list of rows": func(s *driver.Step) { s.Sched.Rows = append(s.Sched.Rows, nil) },
			"all of them": func(s *driver.Step) {
				s.Marks, s.Proofs, s.Sched.Rows = make([]int, 2), make([]driver.Proof, 1), make([][]api.Row, 1)
			},
			"a refused order": func(s *driver.Step) { s.Order.K, s.Order.Array, s.Order.Path = 99, 99, []int{99} },
		} {
			r := changed(t)[i]
			if what == "a refused order" && r.Steps[0].Order.Kind == driver.Tidy {
				continue
			}
			change(&r.Steps[0])
			refused(t, what, r, 0)
		}
	}
	// Each step starts from the program after the previous one.
	r := changed(t)[8]
	for at := range r.Steps {
		s := changed(t)[8]
		s.Steps = slices.Delete(s.Steps, at, at+1)
		if n, e := audit.Check(s); e == api.OK && at < len(r.Steps)-1 && !lang.Same(r.Steps[at].After, parse(t, scalar)) && n != len(s.Steps) {
			t.Errorf("without step %d: %d, %d", at, n, e)
		}
	}
	s := changed(t)[8]
	s.Steps = s.Steps[1:]
	refused(t, "without the first step", s, 0)
	s = changed(t)[8]
	s.Steps = append(s.Steps[:1], s.Steps[0])
	refused(t, "the first step twice", s, 1)
}

// P32.1: no loop is marked before a step of the kinds from 7 on.
func TestMarked(t *testing.T) {
	mark := func(l []api.Stmt) { l[0].Mark = api.Parallel }
	for i := range changed(t) {
		r := changed(t)[i]
		s := &r.Steps[0]
		if s.Order.Kind < driver.Strip {
			continue
		}
		// Everything is as it would be, but for the marks.
		mark(r.Source.Body)
		refused(t, "a marked loop", r, 0)
		for k := range s.After.Body {
			if s.After.Body[k].Kind == api.For {
				s.After.Body[k].Mark = api.Parallel
			}
		}
		refused(t, "a marked loop", r, 0)
	}
	inner := parse(t, "array S; if { : true } { } else { for i = 0 to 1 { for j = 0 to 1 vector { } } }")
	refused(t, "an inner loop", driver.Report{Source: inner, Steps: []driver.Step{{Order: driver.Order{Kind: driver.Drop}, After: inner}}}, 0)
	r := driver.Report{Source: inner, Steps: []driver.Step{{Order: driver.Order{Kind: driver.Tidy}, After: api.Program{Arrays: inner.Arrays}}}}
	if n, e := audit.Check(r); n != 1 || e != api.OK {
		t.Errorf("Tidy of marked loops: %d, %d", n, e)
	}
}

// P32.2.
func TestResult(t *testing.T) {
	for i, r := range accepted(t) {
		want := r.Source
		kept := map[int]bool{}
		for a := range r.Source.Arrays {
			kept[a] = true
		}
		for _, s := range r.Steps {
			want = s.After
			if k := s.Order.Kind; k == driver.Fold || k == driver.Drop {
				delete(kept, s.Order.Array)
			}
		}
		p, l, e := audit.Result(r)
		if e != api.OK || !lang.Same(p, want) || len(l) != len(kept) || !slices.IsSorted(l) || slices.ContainsFunc(l, func(a int) bool { return !kept[a] }) {
			t.Errorf("%d: Result returns %v, %v, %d", i, p, l, e)
		}
		if len(p.Arrays) > 0 {
			p.Arrays[0].Name = "spoilt"
			if lang.Same(p, want) {
				t.Errorf("%d: Result shares memory", i)
			}
		}
	}
}

// P32.3, P32.6.
func TestPlay(t *testing.T) {
	for i, r := range accepted(t) {
		for n := range 7 {
			params := []int{n}[:len(r.Source.Params)]
			first, e := run.Fresh(r.Source, params, n)
			want := e
			if e == api.OK {
				_, _, want = run.Run(r.Source, params, first)
			}
			if ok, e := audit.Play(r, params, n); ok != (e == api.OK) || e != want {
				t.Errorf("%d: Play for %d returns %v, %d; want %d", i, n, ok, e, want)
			}
		}
	}
	for _, seed := range []int{math.MinInt, math.MaxInt, -1, 1000002, 1000003} {
		if ok, e := audit.Play(wave(t), []int{3}, seed); !ok || e != api.OK {
			t.Errorf("seed %d: %v, %d", seed, ok, e)
		}
	}
	copied := changed(t)[3]
	for _, x := range []struct {
		r      driver.Report
		params []int
		want   api.Errno
	}{
		{wave(t), nil, api.ErrDim}, {wave(t), []int{1, 1}, api.ErrDim}, {wave(t), []int{-1}, api.ErrRange}, {wave(t), []int{1001}, api.ErrRange}, {wave(t), []int{63}, api.OK}, {wave(t), []int{64}, api.ErrFull},
		// The source fails with ErrRange, or has too many steps.
		{compiled(t, "array A[3]; A[3] = 1;"), nil, api.ErrRange}, {compiled(t, "param n; array A; for i = 1 to n { for j = 1 to 70 { A = 1; } }", driver.Order{Kind: driver.Tidy}), []int{1000}, api.ErrFull},
		// The source fails, but the result does not, or with another error.
		{compiled(t, "array A[3]; array B; A[3] = 1;", driver.Order{Kind: driver.Drop, Array: 0}), nil, api.ErrRange}, {compiled(t, "param n; array A[4 n + 90]; array B; B = A[0]; A[0] = A[n - 1001];", driver.Order{Kind: driver.Copy, Path: []int{0}, Array: 0, Low: list(l(0, 0)), Nums: []int{64}}), []int{1000}, api.ErrRange},
		// The result has more cells than are possible, or more steps.
		{copied, []int{2046}[:1], api.ErrRange}, {compiled(t, "param n; array A[4 n]; array B; B = A[0];", driver.Order{Kind: driver.Copy, Path: []int{0}, Array: 0, Low: list(l(0, 0)), Nums: []int{64}}), []int{1000}, api.OK}, {compiled(t, "param n; array A[4 n + 90]; array B; B = A[0];", driver.Order{Kind: driver.Copy, Path: []int{0}, Array: 0, Low: list(l(0, 0)), Nums: []int{64}}), []int{1000}, api.ErrFull}, {compiled(t, "param n; array A; for i = 1 to n { for j = 1 to 64 { A = 1; } }", driver.Order{Kind: driver.Build}), []int{250}, api.OK}, {compiled(t, "param n; array A; for i = 1 to n { for j = 1 to 64 { A = 1; } }", driver.Order{Kind: driver.Build}), []int{500}, api.ErrFull},
	} {
		if ok, e := audit.Play(x.r, x.params, 1); ok != (x.want == api.OK) || e != x.want {
			text, _ := source.Print(x.r.Source)
			t.Errorf("Play of %s for %v: %v, %d; want %d", text, x.params, ok, e, x.want)
		}
	}
}

// P32.4.
func TestCount(t *testing.T) {
	for _, x := range []struct {
		r                    driver.Report
		builds, proofs, bare int
	}{
		{wave(t), 1, 2, 0}, {early(t), 1, 1, 1}, {driver.Report{}, 0, 0, 0}, {changed(t)[9], 2, -1, 0}, {driver.Report{Source: api.Program{Params: []string{"to"}}, Steps: []driver.Step{{Proofs: make([]driver.Proof, 3)}, {Order: driver.Order{Kind: driver.Build}, Proofs: []driver.Proof{{Dep: -1, Weights: []int{0}}, {Weights: []int{}}}}, {Order: driver.Order{Kind: 99}}}}, 1, 5, 4},
	} {
		if x.proofs < 0 {
			x.proofs = len(x.r.Steps[0].Proofs) + len(x.r.Steps[2].Proofs)
		}
		if b, p, n := audit.Count(x.r); b != x.builds || p != x.proofs || n != x.bare {
			t.Errorf("Count: %d, %d, %d; want %d, %d, %d", b, p, n, x.builds, x.proofs, x.bare)
		}
	}
}

// numbers returns the places of all numbers of a step.
func numbers(s *driver.Step) (l []*int) {
	lin := func(x api.Lin, k *int) {
		l = append(l, k)
		for i := range x.C {
			l = append(l, &x.C[i])
		}
	}
	for i := range s.Marks {
		l = append(l, &s.Marks[i])
	}
	for _, rows := range s.Sched.Rows {
		for i := range rows {
			lin(rows[i].L, &rows[i].L.K)
			l = append(l, &rows[i].Div)
		}
	}
	for i := range s.Proofs {
		for k := range s.Proofs[i].Weights {
			l = append(l, &s.Proofs[i].Weights[k])
		}
		l = append(l, &s.Proofs[i].Dep, &s.Proofs[i].Row, &s.Proofs[i].Piece)
	}
	for i := range s.Order.Low {
		lin(s.Order.Low[i], &s.Order.Low[i].K)
	}
	for i := range s.Order.Size {
		lin(s.Order.Size[i], &s.Order.Size[i].K)
	}
	for i := range s.Order.Nums {
		l = append(l, &s.Order.Nums[i])
	}
	for i := range s.Order.Path {
		l = append(l, &s.Order.Path[i])
	}
	l = append(l, &s.Order.K, &s.Order.Array)
	var walk func(body []api.Stmt)
	walk = func(body []api.Stmt) {
		for i := range body {
			for _, b := range []api.Bound{body[i].Low, body[i].High} {
				for _, part := range b.Parts {
					for k := range part {
						lin(part[k].L, &part[k].L.K)
					}
				}
			}
			for k := range body[i].Target.Subs {
				lin(body[i].Target.Subs[k], &body[i].Target.Subs[k].K)
			}
			l = append(l, &body[i].Mark, &body[i].Step)
			walk(body[i].Body)
			walk(body[i].Else)
		}
	}
	walk(s.After.Body)
	return l
}

// cloned returns a copy of a report as far as numbers finds its places.
func cloned(r driver.Report) driver.Report {
	r.Steps = slices.Clone(r.Steps)
	lins := func(l []api.Lin) []api.Lin {
		l = slices.Clone(l)
		for i := range l {
			l[i].C = slices.Clone(l[i].C)
		}
		return l
	}
	rows := func(l [][]api.Row) [][]api.Row {
		l = slices.Clone(l)
		for i := range l {
			l[i] = slices.Clone(l[i])
			for k := range l[i] {
				l[i][k].L.C = slices.Clone(l[i][k].L.C)
			}
		}
		return l
	}
	var stmts func(l []api.Stmt) []api.Stmt
	stmts = func(l []api.Stmt) []api.Stmt {
		l = slices.Clone(l)
		for i := range l {
			l[i].Low.Parts, l[i].High.Parts = rows(l[i].Low.Parts), rows(l[i].High.Parts)
			l[i].Target.Subs = lins(l[i].Target.Subs)
			l[i].Body, l[i].Else = stmts(l[i].Body), stmts(l[i].Else)
		}
		return l
	}
	for i := range r.Steps {
		s := &r.Steps[i]
		s.Marks, s.Proofs, s.Sched.Rows = slices.Clone(s.Marks), slices.Clone(s.Proofs), rows(s.Sched.Rows)
		for k := range s.Proofs {
			s.Proofs[k].Weights = slices.Clone(s.Proofs[k].Weights)
		}
		s.Order.Low, s.Order.Size, s.Order.Nums, s.Order.Path = lins(s.Order.Low), lins(s.Order.Size), slices.Clone(s.Order.Nums), slices.Clone(s.Order.Path)
		s.After.Body = stmts(s.After.Body)
	}
	return r
}

// P32.6, P32.7.
func TestModified(t *testing.T) {
	r := rand.New(rand.NewSource(32))
	all := append(changed(t), wave(t), early(t))
	kept, lost := 0, 0
	for i := range 300 {
		report := cloned(all[r.Intn(len(all))])
		step := &report.Steps[r.Intn(len(report.Steps))]
		if len(step.Proofs) > 0 && i%2 == 0 {
			p := &step.Proofs[r.Intn(len(step.Proofs))]
			if i%4 == 0 {
				p.Weights = nil
			}
			for k := range p.Weights {
				p.Weights[k] *= 1 + r.Intn(3)
			}
		} else {
			places := numbers(step)
			*places[r.Intn(len(places))] += []int{-1, 1, 2}[r.Intn(3)]
		}
		if _, e := audit.Check(report); e != api.OK {
			lost++
			continue
		}
		kept++
		for n := range 5 {
			if ok, e := audit.Play(report, []int{n}, n); e == api.OK && !ok {
				t.Errorf("an accepted report is wrong for %d: %v", n, report)
			}
		}
	}
	if kept < 8 || lost < 100 {
		t.Errorf("%d accepted, %d refused", kept, lost)
	}
	for i, report := range all {
		if n, e := audit.Check(report); n != len(report.Steps) || e != api.OK {
			t.Errorf("%d has been changed: %d, %d", i, n, e)
		}
	}
}
