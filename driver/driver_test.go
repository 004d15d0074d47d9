package driver_test

import (
	"headland/api"
	"headland/cores"
	"headland/dep"
	"headland/driver"
	"headland/elim"
	"headland/expand"
	"headland/farkas"
	"headland/fold"
	"headland/lanes"
	"headland/lang"
	"headland/legal"
	"headland/moves"
	"headland/par"
	"headland/run"
	"headland/scan"
	"headland/sched"
	"headland/scratch"
	"headland/search"
	"headland/source"
	"headland/tidy"
	"headland/unroll"
	"math"
	"math/rand"
	"slices"
	"testing"
)

const (
	pascal = "param n; array A[n + 1][n + 1]; for i = 1 to n { for j = 1 to n { A[i][j] = A[i - 1][j] + A[i][j - 1]; } }"
	fills  = "param n; array A[n + 1][n + 1]; array B[n + 1]; for i = 0 to n { for j = 0 to n { A[i][j] = B[i] + <j>; } }"
	scalar = "param n; array T[1]; array A[n]; array B[n]; for i = 0 to n - 1 { T[0] = A[i]; B[i] = T[0]; }"
	passed = "param n; array T[n]; array A[n]; array B[n]; for i = 0 to n - 1 { T[i] = A[i]; B[i] = T[i] * 2; }"
	window = "param n; array S[n]; array A[n]; for i = 0 to n - 3 { for j = 0 to 2 { S[i] = S[i] + A[i + j]; } }"
	// Its dependence needs a proof without weights if the first assignment comes two iterations earlier: 4 i = 7 j has no solutions with i - j = 1.
	gap = "param n; array A[7 n + 1]; array B[n + 1]; for i = 0 to n { A[4 i] = 1; if { n, i : i >= 1 } { B[i] = A[7 i]; } }"
	// Nine rows, so it has no schedule.
	nine = "array Z; array A[2]; array B[2]; array C[2]; array D[2]; for a = 0 to 1 { Z = 1; for b = 0 to 1 { A[b] = 1; for c = 0 to 1 { B[c] = 1; for d = 0 to 1 { C[d] = 1; } } } } D[0] = 1;"
	// Fourteen variables, so its dependences cannot be computed; and with nine loops there is no schedule either.
	seven = "array Z; for a = 0 to 1 { for b = 0 to 1 { for c = 0 to 1 { for d = 0 to 1 { for e = 0 to 1 { for f = 0 to 1 { for g = 0 to 1 { Z = 1; } } } } } } }"
	loops = "array Z; for a = 0 to 1 { for b = 0 to 1 { for c = 0 to 1 { for d = 0 to 1 { for e = 0 to 1 { for f = 0 to 1 { for g = 0 to 1 { for h = 0 to 1 { for i = 0 to 1 { Z = 1; } } } } } } } } }"
)

func parse(t *testing.T, text string) api.Program {
	t.Helper()
	p, e := source.Parse(text)
	if e != api.OK {
		t.Fatalf("Parse(%q): %d", text, e)
	}
	return p
}

func start(t *testing.T, text string, orders ...driver.Order) *driver.Job {
	t.Helper()
	j, e := driver.Start(parse(t, text))
	if e != api.OK {
		t.Fatalf("Start of %q: %d", text, e)
	}
	for _, o := range orders {
		if e := j.Do(o); e != api.OK {
			t.Fatalf("%v of %q: %d", o, text, e)
		}
	}
	return j
}

func l(k int, c ...int) api.Lin { return api.Lin{C: c, K: k} }

func list(x ...api.Lin) []api.Lin { return x }

func sameLin(a, b api.Lin) bool { return a.K == b.K && slices.Equal(a.C, b.C) }

func sameSched(a, b api.Sched) bool {
	return slices.EqualFunc(a.Rows, b.Rows, func(a, b []api.Row) bool {
		return slices.EqualFunc(a, b, func(a, b api.Row) bool { return a.Div == b.Div && sameLin(a.L, b.L) })
	})
}

func sameOrder(a, b driver.Order) bool {
	numbers := func(o driver.Order) []int {
		return []int{o.Kind, o.Mode, o.K, o.Array, o.Move.Kind, o.Move.A, o.Move.B, o.Move.K}
	}
	return slices.Equal(numbers(a), numbers(b)) && slices.Equal(a.Move.List, b.Move.List) && slices.Equal(a.Path, b.Path) && slices.Equal(a.Nums, b.Nums) && slices.EqualFunc(a.Low, b.Low, sameLin) && slices.EqualFunc(a.Size, b.Size, sameLin)
}

func sameProof(a, b driver.Proof) bool {
	return a.Dep == b.Dep && a.Row == b.Row && a.Piece == b.Piece && slices.Equal(a.Weights, b.Weights)
}

func sameStep(a, b driver.Step) bool {
	return sameOrder(a.Order, b.Order) && sameSched(a.Sched, b.Sched) && slices.Equal(a.Marks, b.Marks) && slices.EqualFunc(a.Proofs, b.Proofs, sameProof) && lang.Same(a.After, b.After)
}

func sameReport(a, b driver.Report) bool {
	return lang.Same(a.Source, b.Source) && slices.EqualFunc(a.Steps, b.Steps, sameStep)
}

// seen is all that a job shows.
type seen struct {
	report    driver.Report
	program   api.Program
	sched     api.Sched
	scheduled bool
	marks     []int
	kept      []int
}

func look(j *driver.Job) (s seen) {
	s.report, s.program, s.marks, s.kept = j.Report(), j.Program(), j.Marks(), j.Kept()
	s.sched, s.scheduled = j.Sched()
	return s
}

func (s seen) same(r seen) bool {
	return sameReport(s.report, r.report) && lang.Same(s.program, r.program) && sameSched(s.sched, r.sched) && s.scheduled == r.scheduled && slices.Equal(s.marks, r.marks) && slices.Equal(s.kept, r.kept)
}

// settled checks that a job has the schedule of its program's source, and Plain marks.
func settled(t *testing.T, j *driver.Job) {
	t.Helper()
	s := look(j)
	want, e := sched.Source(s.program)
	if s.scheduled != (e == api.OK) || !sameSched(s.sched, want) {
		t.Errorf("the schedule %v, %v; want %v, %d", s.sched, s.scheduled, want, e)
	}
	plain(t, s)
}

func plain(t *testing.T, s seen) {
	t.Helper()
	rows := 0
	if len(s.sched.Rows) > 0 {
		rows = len(s.sched.Rows[0])
	}
	if !slices.Equal(s.marks, make([]int, rows)) {
		t.Errorf("the marks %v of %d rows", s.marks, rows)
	}
}

// P31.1, P31.3, P31.4, P31.5.
func TestStart(t *testing.T) {
	for _, text := range []string{pascal, window, nine, seven, loops, "", "array A; array B;", "param n; for i = 0 to n { }"} {
		j := start(t, text)
		s := look(j)
		if !lang.Same(s.program, parse(t, text)) || !lang.Same(s.report.Source, s.program) || len(s.report.Steps) != 0 {
			t.Errorf("Start of %q: %v", text, s)
		}
		settled(t, j)
		for i, a := range s.kept {
			if a != i {
				t.Errorf("kept %v", s.kept)
			}
		}
		if len(s.kept) != len(s.program.Arrays) {
			t.Errorf("kept %v", s.kept)
		}
	}
	if _, scheduled := start(t, nine).Sched(); scheduled {
		t.Error("nine rows are a schedule")
	}
	for _, bad := range []api.Program{{Params: []string{"to"}}, {Body: []api.Stmt{{}}}} {
		if j, e := driver.Start(bad); j != nil || e != api.ErrArg {
			t.Errorf("Start: %v, %d", j, e)
		}
	}
}

func TestNil(t *testing.T) {
	var j *driver.Job
	s := look(j)
	if e := j.Do(driver.Order{}); e != api.ErrArg || len(s.report.Source.Arrays)+len(s.report.Steps)+len(s.program.Body)+len(s.sched.Rows)+len(s.marks)+len(s.kept) != 0 || s.scheduled {
		t.Errorf("a nil job: %v, %d", s, e)
	}
}

func found(t *testing.T, p api.Program) []api.Dep {
	t.Helper()
	deps, e := dep.All(p)
	if e != api.OK {
		t.Fatal(e)
	}
	return deps
}

// P31.2: the orders that change the schedule or the marks.
func TestSchedules(t *testing.T) {
	searched := func(mode int) func(api.Program, []api.Dep, api.Sched) (api.Sched, api.Errno) {
		return func(p api.Program, deps []api.Dep, _ api.Sched) (api.Sched, api.Errno) {
			return search.Search(p, deps, mode)
		}
	}
	tried := func(m moves.Move) func(api.Program, []api.Dep, api.Sched) (api.Sched, api.Errno) {
		return func(p api.Program, deps []api.Dep, s api.Sched) (api.Sched, api.Errno) {
			s, _, e := moves.Try(p, deps, s, m)
			return s, e
		}
	}
	tiled := func(k int) func(api.Program, []api.Dep, api.Sched) (api.Sched, api.Errno) {
		return func(p api.Program, deps []api.Dep, s api.Sched) (api.Sched, api.Errno) {
			return moves.TileAll(p, deps, s, k)
		}
	}
	swap, flip, cut := moves.Move{Kind: moves.Swap, A: 0, B: 1}, moves.Move{Kind: moves.Flip}, moves.Move{Kind: moves.Cut, A: 0, List: []int{7}}
	for _, x := range []struct {
		o    driver.Order
		want func(api.Program, []api.Dep, api.Sched) (api.Sched, api.Errno)
		e    api.Errno
	}{
		{driver.Order{Kind: driver.Search}, searched(0), api.OK}, {driver.Order{Kind: driver.Search, Mode: 1}, searched(1), api.OK}, {driver.Order{Kind: driver.Search, Mode: 1, K: -1, Array: 9, Path: []int{5}}, searched(1), api.OK}, {driver.Order{Kind: driver.Search, Mode: 2}, searched(2), api.ErrRange},
		{driver.Order{Kind: driver.Change, Move: swap}, tried(swap), api.OK}, {driver.Order{Kind: driver.Change, Move: cut}, tried(cut), api.OK}, {driver.Order{Kind: driver.Change, Move: flip}, tried(flip), api.ErrOrder}, {driver.Order{Kind: driver.Change}, tried(moves.Move{}), api.ErrNone}, {driver.Order{Kind: driver.Change, Mode: 1, K: 3, Move: moves.Move{Kind: moves.Swap, B: 2}}, tried(moves.Move{Kind: moves.Swap, B: 2}), api.ErrRange},
		{driver.Order{Kind: driver.Tiles, K: 2}, tiled(2), api.OK}, {driver.Order{Kind: driver.Tiles, K: 64}, tiled(64), api.OK}, {driver.Order{Kind: driver.Tiles, K: 1}, tiled(1), api.ErrRange}, {driver.Order{Kind: driver.Tiles, Mode: 5}, tiled(0), api.ErrRange},
	} {
		for _, first := range [][]driver.Order{nil, {{Kind: driver.Search, Mode: 1}, {Kind: driver.Choose}}} {
			j := start(t, pascal, first...)
			before := look(j)
			e := j.Do(x.o)
			after := look(j)
			if e != x.e {
				t.Errorf("%v: %d, want %d", x.o, e, x.e)
				continue
			}
			want, f := x.want(before.program, found(t, before.program), before.sched)
			if f != e {
				t.Errorf("%v: %d, but the layer says %d", x.o, e, f)
			}
			if e != api.OK {
				if !after.same(before) {
					t.Errorf("%v changed something", x.o)
				}
				continue
			}
			if !sameSched(after.sched, want) || !after.scheduled || !sameReport(after.report, before.report) || !lang.Same(after.program, before.program) {
				t.Errorf("%v: %v, want %v", x.o, after.sched, want)
			}
			plain(t, after)
		}
	}
}

// P31.2: the marks.
func TestChoose(t *testing.T) {
	for _, x := range []struct {
		text   string
		orders []driver.Order
		want   []int
	}{
		{pascal, nil, []int{0, 0}}, {pascal, []driver.Order{{Kind: driver.Search, Mode: 1}}, []int{0, 1}}, {fills, nil, []int{1, 2}}, {fills, []driver.Order{{Kind: driver.Choose}, {Kind: driver.Tiles, K: 2}}, []int{1, 0, 0, 2}}, {"", nil, nil}, {scalar, nil, []int{0, 0}},
	} {
		j := start(t, x.text, x.orders...)
		s := look(j)
		e := j.Do(driver.Order{Kind: driver.Choose, Mode: 9, K: 9})
		marks, f := par.Choose(s.program, found(t, s.program), s.sched, nil)
		after := look(j)
		if e+f != api.OK || !slices.Equal(after.marks, marks) || !slices.Equal(marks, x.want) || !sameSched(s.sched, after.sched) || len(after.report.Steps) != 0 {
			t.Errorf("Choose for %q: %v, %d, %d", x.text, after.marks, e, f)
		}
	}
}

// P31.2: the order of errors.
func TestErrors(t *testing.T) {
	bad := []int{9, 9}
	marked := []driver.Order{{Kind: driver.Choose}, {Kind: driver.Build}}
	for _, x := range []struct {
		text  string
		first []driver.Order
		o     driver.Order
		want  api.Errno
	}{
		{pascal, nil, driver.Order{}, api.ErrNone}, {pascal, nil, driver.Order{Kind: 14}, api.ErrNone}, {pascal, nil, driver.Order{Kind: -1}, api.ErrNone}, {loops, nil, driver.Order{Kind: math.MinInt}, api.ErrNone}, {loops, nil, driver.Order{Kind: math.MaxInt}, api.ErrNone},
		// The errors of All come before ErrState, and before those of the functions.
		{loops, nil, driver.Order{Kind: driver.Search, Mode: 5}, api.ErrFull}, {loops, nil, driver.Order{Kind: driver.Change}, api.ErrFull}, {loops, nil, driver.Order{Kind: driver.Tiles}, api.ErrFull}, {loops, nil, driver.Order{Kind: driver.Choose}, api.ErrFull}, {loops, nil, driver.Order{Kind: driver.Build}, api.ErrFull}, {seven, nil, driver.Order{Kind: driver.Search, Mode: 5}, api.ErrFull}, {seven, nil, driver.Order{Kind: driver.Change}, api.ErrFull}, {seven, nil, driver.Order{Kind: driver.Tiles}, api.ErrFull}, {seven, nil, driver.Order{Kind: driver.Choose}, api.ErrFull},
		{nine, nil, driver.Order{Kind: driver.Search, Mode: 5}, api.ErrRange}, {nine, nil, driver.Order{Kind: driver.Search}, api.OK}, {nine, nil, driver.Order{Kind: driver.Change}, api.ErrState}, {nine, nil, driver.Order{Kind: driver.Tiles}, api.ErrState}, {nine, nil, driver.Order{Kind: driver.Choose}, api.ErrState}, {nine, nil, driver.Order{Kind: driver.Build}, api.ErrState},
		// A program that is too deep for Scan.
		{"array Z; for a = 0 to 1 { for b = 0 to 1 { for c = 0 to 1 { for d = 0 to 1 { for e = 0 to 1 { for f = 0 to 1 { Z = 1; } } } } } }", nil, driver.Order{Kind: driver.Build}, api.ErrFull},
		// Marked loops come before the own errors of the kinds from 7 on, and do not concern Tidy.
		{fills, marked, driver.Order{Kind: driver.Strip, Path: bad, K: 0}, api.ErrState}, {fills, marked, driver.Order{Kind: driver.Unroll, Path: bad}, api.ErrState}, {fills, marked, driver.Order{Kind: driver.Peel, Path: bad}, api.ErrState}, {fills, marked, driver.Order{Kind: driver.Copy, Path: bad}, api.ErrState}, {fills, marked, driver.Order{Kind: driver.Expand, K: 9}, api.ErrState}, {fills, marked, driver.Order{Kind: driver.Fold, Array: 9}, api.ErrState}, {fills, marked, driver.Order{Kind: driver.Drop, Array: 9}, api.ErrState}, {fills, marked, driver.Order{Kind: driver.Tidy}, api.OK}, {fills, marked, driver.Order{Kind: driver.Build}, api.OK},
		{"array S; for i = 0 to 1 vector { S = 1; }", nil, driver.Order{Kind: driver.Drop}, api.ErrState}, {"array S; if { : true } { } else { for i = 0 to 1 { for j = 0 to 1 parallel { } } }", nil, driver.Order{Kind: driver.Drop}, api.ErrState}, {"array S; for i = 0 to 1 { S = 1; }", nil, driver.Order{Kind: driver.Drop}, api.OK},
		{pascal, nil, driver.Order{Kind: driver.Strip, Path: bad, K: 2}, api.ErrNone}, {pascal, nil, driver.Order{Kind: driver.Strip, Path: []int{0}, K: 1}, api.ErrRange}, {pascal, nil, driver.Order{Kind: driver.Unroll, Path: []int{0}, K: 65}, api.ErrRange}, {pascal, nil, driver.Order{Kind: driver.Peel, Path: []int{0, 0, 0, 0, 0}}, api.ErrNone}, {pascal, nil, driver.Order{Kind: driver.Copy, Path: []int{0}, Array: 0}, api.ErrDim}, {pascal, nil, driver.Order{Kind: driver.Expand, K: 1}, api.ErrNone}, {pascal, nil, driver.Order{Kind: driver.Fold, Array: 0, Nums: []int{1, 1}}, api.ErrState}, {pascal, nil, driver.Order{Kind: driver.Drop, Array: 0}, api.ErrState}, {pascal, nil, driver.Order{Kind: driver.Drop, Array: 1}, api.ErrRange},
	} {
		j := start(t, x.text, x.first...)
		before := look(j)
		e := j.Do(x.o)
		if e != x.want {
			t.Errorf("%v of %q: %d, want %d", x.o, x.text, e, x.want)
		}
		// P31.10.
		if e != api.OK && !look(j).same(before) {
			t.Errorf("%v of %q changed something", x.o, x.text)
		}
	}
}

// proofs returns the proofs of a schedule, from the layers' functions.
func proofs(t *testing.T, p api.Program, s api.Sched) (l []driver.Proof, bare int) {
	t.Helper()
	rows := 0
	if len(s.Rows) > 0 {
		rows = len(s.Rows[0])
	}
	for i, d := range found(t, p) {
		for k := 0; k <= rows; k++ {
			claims, e := legal.Claims(p, d, s, k)
			if e != api.OK {
				t.Fatal(e)
			}
			for q, piece := range claims {
				w, e := farkas.Prove(piece, d.Pairs.Dim)
				if e != api.OK {
					bare++
					if none, f := elim.Empty(api.Set{Dim: d.Pairs.Dim, Pieces: [][]api.Cond{piece}}); !none || f != api.OK || len(w) != 0 {
						t.Errorf("a claim has points: %v, %d", piece, f)
					}
				}
				l = append(l, driver.Proof{Dep: i, Row: k, Piece: q, Weights: w})
			}
		}
	}
	return l, bare
}

// P31.2, P31.4, P31.9.
func TestBuild(t *testing.T) {
	early := driver.Order{Kind: driver.Change, Move: moves.Move{Kind: moves.Shift, A: 0, B: 0, K: -2}}
	for _, x := range []struct {
		text         string
		orders       []driver.Order
		proofs, bare int
	}{
		{pascal, []driver.Order{{Kind: driver.Search, Mode: 1}, {Kind: driver.Choose}}, 2, 0}, {pascal, nil, 0, 0}, {pascal, []driver.Order{{Kind: driver.Tiles, K: 3}, {Kind: driver.Choose}}, -1, 0}, {gap, []driver.Order{early}, 1, 1}, {fills, []driver.Order{{Kind: driver.Choose}}, 0, 0}, {scalar, nil, -1, 0}, {window, []driver.Order{{Kind: driver.Search}, {Kind: driver.Choose}}, -1, 0}, {nine, []driver.Order{{Kind: driver.Search}}, -1, 0}, {"array A;", nil, 0, 0},
	} {
		j := start(t, x.text, x.orders...)
		before := look(j)
		if e := j.Do(driver.Order{Kind: driver.Build, Mode: 1, K: 2, Array: 3, Move: moves.Move{Kind: 1, A: 1, B: 1, K: 1, List: []int{1}}, Path: []int{1}, Nums: []int{1}, Low: list(l(1)), Size: list(l(1))}); e != api.OK {
			t.Errorf("Build of %q: %d", x.text, e)
			continue
		}
		after := look(j)
		want, e := scan.Scan(before.program, before.sched, before.marks)
		list, bare := proofs(t, before.program, before.sched)
		step := driver.Step{Order: driver.Order{Kind: driver.Build}, Sched: before.sched, Marks: before.marks, Proofs: list, After: want}
		if e != api.OK || len(after.report.Steps) != 1 || !sameStep(after.report.Steps[0], step) || !lang.Same(after.program, want) || !lang.Same(after.report.Source, before.program) {
			t.Errorf("Build of %q: %v, want %v", x.text, after.report, step)
		}
		if x.proofs >= 0 && len(list) != x.proofs || bare != x.bare {
			t.Errorf("Build of %q: %d proofs, %d bare", x.text, len(list), bare)
		}
		settled(t, j)
	}
}

// P31.2: the orders that rewrite the program, whose other fields are not reported.
func TestRewritten(t *testing.T) {
	for _, x := range []struct {
		text string
		o    driver.Order
		want func(p api.Program) (api.Program, api.Errno)
	}{
		{"param n; array A[n + 1]; for i = 0 to n { if { n, i : n >= 0 } { A[i] = 1; } }", driver.Order{Kind: driver.Tidy}, tidy.Tidy},
		{window, driver.Order{Kind: driver.Strip, Path: []int{0, 0, 0}, K: 2}, func(p api.Program) (api.Program, api.Errno) { return unroll.Strip(p, []int{0, 0, 0}, 2) }},
		{window, driver.Order{Kind: driver.Unroll, Path: []int{0}, K: 3}, func(p api.Program) (api.Program, api.Errno) { return unroll.Unroll(p, []int{0}, 3) }},
		{window, driver.Order{Kind: driver.Peel, Path: []int{0}}, func(p api.Program) (api.Program, api.Errno) { return unroll.Peel(p, []int{0}) }},
		{window, driver.Order{Kind: driver.Copy, Path: []int{0, 0, 0}, Array: 1, Low: list(l(0, 0, 1)), Nums: []int{3}}, func(p api.Program) (api.Program, api.Errno) {
			return scratch.Copy(p, []int{0, 0, 0}, 1, list(l(0, 0, 1)), []int{3})
		}},
		{scalar, driver.Order{Kind: driver.Expand, K: 0, Low: list(l(0, 0)), Size: list(l(0, 1))}, func(p api.Program) (api.Program, api.Errno) {
			return expand.Expand(p, 0, list(l(0, 0)), list(l(0, 1)))
		}},
		{gap, driver.Order{Kind: driver.Expand, K: 1, Low: list(l(0, 0)), Size: list(l(1, 1))}, func(p api.Program) (api.Program, api.Errno) {
			return expand.Expand(p, 1, list(l(0, 0)), list(l(1, 1)))
		}},
		{"param n; array A[n]; array T[n]; array B[n]; for i = 0 to n - 1 { T[i] = A[i]; B[i] = T[i] * 2; }", driver.Order{Kind: driver.Fold, Array: 1, Nums: []int{1}}, func(p api.Program) (api.Program, api.Errno) { return fold.Fold(p, 1, []int{1}) }},
		{passed, driver.Order{Kind: driver.Drop, Array: 2}, func(p api.Program) (api.Program, api.Errno) { return expand.Drop(p, 2) }},
	} {
		want, e := x.want(parse(t, x.text))
		if e != api.OK || lang.Same(want, parse(t, x.text)) {
			t.Fatalf("%v of %q: %d", x.o, x.text, e)
		}
		j := start(t, x.text, driver.Order{Kind: driver.Choose})
		e = j.Do(littered(x.o))
		r := j.Report()
		if e != api.OK || !lang.Same(j.Program(), want) || len(r.Steps) != 1 || !sameStep(r.Steps[0], driver.Step{Order: x.o, After: want}) {
			t.Errorf("%v of %q: %v, %d", x.o, x.text, r, e)
		}
		settled(t, j)
	}
}

// littered returns an order in which the fields that its kind does not mention are not zero.
func littered(o driver.Order) driver.Order {
	o.Mode, o.Move = 7, moves.Move{Kind: 1, A: 2, B: 3, K: 4, List: []int{5}}
	has := func(kinds ...int) bool { return slices.Contains(kinds, o.Kind) }
	if !has(driver.Strip, driver.Unroll, driver.Expand) {
		o.K = 9
	}
	if !has(driver.Copy, driver.Fold, driver.Drop) {
		o.Array = 9
	}
	if !has(driver.Strip, driver.Unroll, driver.Peel, driver.Copy) {
		o.Path = []int{9}
	}
	if !has(driver.Copy, driver.Fold) {
		o.Nums = []int{9}
	}
	if !has(driver.Copy, driver.Expand) {
		o.Low = list(l(9, 9))
	}
	if !has(driver.Expand) {
		o.Size = list(l(9, 9))
	}
	return o
}

// P31.5.
func TestKept(t *testing.T) {
	folded := driver.Order{Kind: driver.Fold, Array: 0, Nums: []int{1}}
	for _, x := range []struct {
		text   string
		orders []driver.Order
		want   []int
	}{
		{passed, nil, []int{0, 1, 2}}, {passed, []driver.Order{folded}, []int{1, 2}}, {passed, []driver.Order{{Kind: driver.Drop, Array: 2}, {Kind: driver.Drop, Array: 0}}, []int{1}}, {passed, []driver.Order{folded, {Kind: driver.Drop, Array: 2}, {Kind: driver.Drop, Array: 2}}, []int{1}}, {passed, []driver.Order{{Kind: driver.Fold, Array: 0, Nums: []int{0}}}, []int{1, 2}},
		// An array that another order names, and a new array that is folded.
		{window, []driver.Order{{Kind: driver.Copy, Path: []int{0, 0, 0}, Array: 1, Low: list(l(0, 0, 1)), Nums: []int{3}}}, []int{0, 1}}, {scalar, []driver.Order{{Kind: driver.Expand, K: 0, Low: list(l(0, 0)), Size: list(l(0, 1))}, {Kind: driver.Tidy}, {Kind: driver.Fold, Array: 3, Nums: []int{1}}}, []int{0, 1, 2}}, {scalar, []driver.Order{{Kind: driver.Expand, K: 0, Low: list(l(0, 0)), Size: list(l(0, 1))}, {Kind: driver.Tidy}, {Kind: driver.Drop, Array: 0}}, []int{1, 2}},
	} {
		j := start(t, x.text, x.orders...)
		if got := j.Kept(); !slices.Equal(got, x.want) {
			t.Errorf("%v of %q keeps %v, want %v", x.orders, x.text, got, x.want)
		}
		for _, a := range j.Kept() {
			if old := parse(t, x.text).Arrays[a]; j.Program().Arrays[a].Name != old.Name {
				t.Errorf("array %d is not %s", a, old.Name)
			}
		}
	}
}

// P31.6.
func TestCompile(t *testing.T) {
	good := []driver.Order{{Kind: driver.Search, Mode: 1}, {Kind: driver.Choose}, {Kind: driver.Build}, {Kind: driver.Tidy}}
	p := parse(t, pascal)
	r, i, e := driver.Compile(p, good)
	if want := start(t, pascal, good...).Report(); i != 4 || e != api.OK || !sameReport(r, want) || len(r.Steps) != 2 || len(r.Steps[0].Proofs) != 2 {
		t.Errorf("Compile: %v, %d, %d", r, i, e)
	}
	want := parse(t, "param n; array A[n + 1][n + 1]; for t1 = 2 to 2 n { for t2 = min(max(1, t1 - n)) to max(min(n, t1 - 1)) parallel { A[t2][t1 - t2] = A[t2 - 1][t1 - t2] + A[t2][t1 - t2 - 1]; } }")
	checkLoops(t, r.Steps[1].After, want)
	r, i, e = driver.Compile(p, nil)
	if i != 0 || e != api.OK || !sameReport(r, driver.Report{Source: p}) {
		t.Errorf("Compile without orders: %v, %d, %d", r, i, e)
	}
	for at, o := range []driver.Order{{Kind: driver.Tiles}, {Kind: 99}, {Kind: driver.Change, Move: moves.Move{Kind: 9}}, {Kind: driver.Peel, Path: []int{0}}, {Kind: driver.Drop}} {
		at = min(at, len(good))
		r, i, e := driver.Compile(p, slices.Concat(good[:at], []driver.Order{o}, good[at:]))
		j := start(t, pascal, good[:at]...)
		if f := j.Do(o); i != at || e != f || e == api.OK || !sameReport(r, j.Report()) {
			t.Errorf("Compile with %v at %d: %v, %d, %d", o, at, r, i, e)
		}
	}
	for _, orders := range [][]driver.Order{good, nil} {
		if r, i, e := driver.Compile(api.Program{Params: []string{"to"}}, orders); i != 0 || e != api.ErrArg || !sameReport(r, driver.Report{}) {
			t.Errorf("Compile of an invalid program: %v, %d, %d", r, i, e)
		}
	}
}

// checkLoops compares programs except for the order of the rows of bounds.
func checkLoops(t *testing.T, got, want api.Program) {
	t.Helper()
	var sorted func(l []api.Stmt)
	sorted = func(l []api.Stmt) {
		for i := range l {
			for _, parts := range [][][]api.Row{l[i].Low.Parts, l[i].High.Parts} {
				for _, rows := range parts {
					slices.SortFunc(rows, func(a, b api.Row) int {
						return slices.Compare(append(slices.Clone(a.L.C), a.L.K, a.Div), append(slices.Clone(b.L.C), b.L.K, b.Div))
					})
				}
			}
			sorted(l[i].Body)
		}
	}
	sorted(got.Body)
	sorted(want.Body)
	if !lang.Same(got, want) {
		text, _ := source.Print(got)
		t.Errorf("the program %s", text)
	}
}

// litter changes all numbers of a report.
func litter(r driver.Report) {
	spoil(r.Source)
	for _, s := range r.Steps {
		spoil(s.After)
		for _, l := range [][]int{s.Marks, s.Order.Path, s.Order.Nums, s.Order.Move.List} {
			for i := range l {
				l[i] = 77
			}
		}
		for _, l := range append(append([]api.Lin{}, s.Order.Low...), s.Order.Size...) {
			for i := range l.C {
				l.C[i] = 77
			}
		}
		spoilSched(s.Sched)
		for i := range s.Proofs {
			for k := range s.Proofs[i].Weights {
				s.Proofs[i].Weights[k] = 77
			}
			s.Proofs[i].Dep = 77
		}
	}
	for i := range r.Steps {
		r.Steps[i] = driver.Step{}
	}
}

func spoilSched(s api.Sched) {
	for _, rows := range s.Rows {
		for i := range rows {
			for k := range rows[i].L.C {
				rows[i].L.C[k] = 77
			}
			rows[i].Div = 77
		}
	}
}

func spoil(p api.Program) {
	for i := range p.Params {
		p.Params[i] = "spoilt"
	}
	for _, a := range p.Arrays {
		for _, s := range a.Sizes {
			clear(s.C)
		}
	}
	var walk func(l []api.Stmt)
	walk = func(l []api.Stmt) {
		for i := range l {
			walk(l[i].Body)
			for _, s := range l[i].Target.Subs {
				clear(s.C)
			}
			l[i].Name = "spoilt"
		}
	}
	walk(p.Body)
}

func TestMemory(t *testing.T) {
	p := parse(t, window)
	path, nums, low := []int{0, 0, 0}, []int{3}, list(l(0, 0, 1))
	j, _ := driver.Start(p)
	spoil(p)
	if e := j.Do(driver.Order{Kind: driver.Copy, Path: path, Array: 1, Low: low, Nums: nums}); e != api.OK {
		t.Fatal(e)
	}
	path[0], nums[0], low[0].C[0] = 77, 77, 77
	cut := []int{5, 5, 5}
	for _, o := range []driver.Order{{Kind: driver.Change, Move: moves.Move{Kind: moves.Cut, A: 0, List: cut}}, {Kind: driver.Choose}} {
		if e := j.Do(o); e != api.OK {
			t.Fatal(o, e)
		}
		cut[0] = 77
	}
	if e := j.Do(driver.Order{Kind: driver.Build}); e != api.OK {
		t.Fatal(e)
	}
	separate(t, j)
	separate(t, start(t, pascal, driver.Order{Kind: driver.Search, Mode: 1}, driver.Order{Kind: driver.Choose}, driver.Order{Kind: driver.Build}))
	separate(t, start(t, scalar, driver.Order{Kind: driver.Expand, Low: list(l(0, 0)), Size: list(l(0, 1))}))
}

// separate checks that the results of a job share no memory with it.
func separate(t *testing.T, j *driver.Job) {
	t.Helper()
	want := look(j)
	s := look(j)
	litter(s.report)
	spoil(s.program)
	spoilSched(s.sched)
	for i := range s.marks {
		s.marks[i] = 77
	}
	for i := range s.kept {
		s.kept[i] = 77
	}
	if !look(j).same(want) {
		t.Error("a result shares memory with the job")
	}
}

// random returns an order that may be possible for a program.
func random(r *rand.Rand, p api.Program) driver.Order {
	paths, _ := unroll.Loops(p)
	o := driver.Order{Kind: r.Intn(13) + 1, Mode: r.Intn(2), K: r.Intn(3) + 1, Array: r.Intn(len(p.Arrays))}
	if len(paths) > 0 {
		o.Path = paths[r.Intn(len(paths))]
	}
	subs := len(p.Arrays[o.Array].Sizes)
	space, _ := lang.Space(p, o.Path)
	n := len(p.Params)
	switch o.Kind {
	case driver.Change:
		o.Move = moves.Move{Kind: r.Intn(7) + 1, A: r.Intn(3), B: r.Intn(3), K: r.Intn(5) - 2}
	case driver.Copy:
		for range subs {
			o.Low = append(o.Low, api.Lin{C: make([]int, len(space)), K: -r.Intn(2)})
			if v := len(space) - 1; v >= n && r.Intn(3) > 0 {
				o.Low[len(o.Low)-1].C[v] = 1
			}
			o.Nums = append(o.Nums, r.Intn(5)+1)
		}
	case driver.Expand:
		infos, _ := lang.Assigns(p)
		if len(infos) == 0 {
			break
		}
		o.K = r.Intn(len(infos))
		for range len(infos[o.K].Names) - n {
			o.Low, o.Size = append(o.Low, l(0, make([]int, n)...)), append(o.Size, l(1, slices.Repeat([]int{2}, n)...))
		}
	case driver.Fold:
		for range subs {
			o.Nums = append(o.Nums, r.Intn(3))
		}
	}
	return o
}

// P31.7, P31.8, P31.9, P31.10.
func TestOrders(t *testing.T) {
	r := rand.New(rand.NewSource(31))
	done := map[int]int{}
	for i := range 80 {
		text := []string{pascal, fills, scalar, passed, window, "param n; array A[n + 2]; array B[n + 2]; for i = 0 to n { A[i] = B[i + 1]; } for i = 0 to n { B[i] = A[i] + A[n - i]; }"}[i%6]
		j := start(t, text)
		steps := 0
		for range 12 {
			p := j.Program()
			before := look(j)
			o := random(r, p)
			if e := j.Do(o); e != api.OK {
				if !look(j).same(before) {
					t.Fatalf("%v changed something", o)
				}
				continue
			}
			done[o.Kind]++
			if after := j.Report().Steps; len(after) > steps {
				steps = len(after)
				checkStep(t, p, after[steps-1])
				checkResult(t, r, j)
			}
			if n, _, _, _ := tidy.Size(j.Program()); n > 14 || steps == 4 {
				break
			}
		}
	}
	for kind := driver.Search; kind <= driver.Drop; kind++ {
		if done[kind] < 3 {
			t.Errorf("kind %d was done only %d times", kind, done[kind])
		}
	}
}

// checkStep checks the proofs of a step.
func checkStep(t *testing.T, before api.Program, s driver.Step) {
	t.Helper()
	if s.Order.Kind != driver.Build {
		if len(s.Sched.Rows)+len(s.Marks)+len(s.Proofs) != 0 {
			t.Errorf("a step of kind %d: %v", s.Order.Kind, s)
		}
		return
	}
	if want, _ := proofs(t, before, s.Sched); !slices.EqualFunc(s.Proofs, want, sameProof) {
		t.Errorf("proofs %v, want %v", s.Proofs, want)
	}
}

// checkResult executes the source and the program, also on machines.
func checkResult(t *testing.T, r *rand.Rand, j *driver.Job) {
	t.Helper()
	p, q := j.Report().Source, j.Program()
	for n := range 6 {
		first, e := run.Fresh(p, []int{n}, n)
		second, f := run.Fresh(q, []int{n}, 50-n)
		if e+f != api.OK {
			continue
		}
		for _, a := range j.Kept() {
			second[a] = first[a]
		}
		want, _, e := run.Run(p, []int{n}, first)
		if e != api.OK {
			continue
		}
		plain, _, e1 := run.Run(q, []int{n}, second)
		shared, e2 := cores.Run(q, []int{n}, second, r.Intn(4)+1, []int{r.Intn(9), r.Intn(9), r.Intn(9)})
		wide, e3 := lanes.Run(q, []int{n}, second, r.Intn(16)+1)
		for i, e := range []api.Errno{e1, e2, e3} {
			for _, a := range j.Kept() {
				if got := [][][]int{plain, shared, wide}[i]; e == api.OK && !slices.Equal(got[a], want[a]) {
					text, _ := source.Print(q)
					t.Fatalf("n = %d, machine %d, array %d: %v, want %v, of %s", n, i, a, got[a], want[a], text)
				}
			}
		}
	}
}
