package par_test

import (
	"headland/api"
	"headland/dep"
	"headland/lang"
	"headland/legal"
	"headland/par"
	"headland/reduce"
	"headland/run"
	"headland/sched"
	"headland/set"
	"headland/settext"
	"headland/source"
	"math"
	"math/rand"
	"slices"
	"testing"
)

func parse(t *testing.T, text string) api.Program {
	t.Helper()
	p, e := source.Parse(text)
	if e != api.OK {
		t.Fatalf("Parse(%q): %d", text, e)
	}
	return p
}

func deps(t *testing.T, p api.Program) []api.Dep {
	t.Helper()
	l, e := dep.All(p)
	if e != api.OK {
		t.Fatal(e)
	}
	return l
}

func schedule(t *testing.T, p api.Program, text string) api.Sched {
	t.Helper()
	s, e := sched.Parse(p, text)
	if e != api.OK {
		t.Fatalf("Parse(%q): %d", text, e)
	}
	return s
}

func sameWitness(a, b legal.Witness) bool {
	return a.Dep == b.Dep && a.Row == b.Row && slices.Equal(a.Params, b.Params) && slices.Equal(a.From, b.From) && slices.Equal(a.To, b.To)
}

const (
	grid   = "param n; array A[n + 1][n + 1]; for i = 1 to n { for j = 1 to n { A[i][j] = A[i - 1][j] + A[i][j - 1]; } }"
	sums   = "param n; array C[n]; array A[n][n]; for i = 0 to n - 1 { for j = 0 to n - 1 { C[i] = C[i] + A[i][j]; } }"
	clear  = "param n; array A[n][n]; for i = 0 to n - 1 { for j = 0 to n - 1 { A[i][j] = 0; } }"
	stages = "param n; array A[n]; array B[n]; for i = 0 to n - 1 { A[i] = 1; } for i = 0 to n - 1 { B[i] = A[n - 1 - i]; }"
)

const (
	plain, parallel, vector = api.Plain, api.Parallel, api.Vector
)

// P21.1, P21.2, P21.4, P21.6.
func TestRows(t *testing.T) {
	for _, x := range []struct {
		text, s       string
		but           []int
		carried       [][]int
		marks         []int
		ahead, behind int
	}{
		{grid, "S0: (0 1 0 0) (0 0 1 0)\n", nil, [][]int{{0}, {1}}, []int{plain, plain}, 0, 0},
		{grid, "S0: (0 1 1 0) (0 1 0 0)\n", nil, [][]int{{0, 1}, nil}, []int{plain, parallel}, 0, 1},
		{grid, "S0: (0 1 0 0) (0 0 1 0)\n", []int{0}, [][]int{nil, {1}}, []int{parallel, plain}, 1, 0},
		{grid, "S0: (0 1 0 0) (0 0 1 0)\n", []int{1, 1, 1}, [][]int{{0}, nil}, []int{plain, parallel}, 0, 1},
		{grid, "S0: (0 1 0 0) (0 0 1 0)\n", []int{1, 0}, [][]int{nil, nil}, []int{parallel, vector}, 2, 2},
		{grid, "S0: (0 0 0 0) (0 1 1 0) (0 0 0 3) (0 1 0 0) (0 0 0 0)\n", nil, [][]int{nil, {0, 1}, nil, nil, nil}, []int{plain, plain, plain, parallel, plain}, 1, 3},
		{grid, "S0: (0 -1 0 0) (0 0 1 0)\n", nil, [][]int{{0}, {1}}, []int{plain, plain}, 0, 0},
		{sums, "S0: (0 1 0 0) (0 0 1 0)\n", nil, [][]int{nil, {0, 1, 2}}, []int{parallel, plain}, 1, 0},
		{sums, "S0: (0 1 0 0) (0 0 1 0)\n", []int{0, 1, 2}, [][]int{nil, nil}, []int{parallel, vector}, 2, 2},
		{sums, "S0: (0 0 1 0) (0 1 0 0)\n", nil, [][]int{{0, 1, 2}, nil}, []int{plain, parallel}, 0, 1},
		{clear, "S0: (0 1 0 0) (0 0 1 0)\n", nil, [][]int{nil, nil}, []int{parallel, vector}, 2, 2},
		{clear, "S0: (0 1 0 0)/4 (0 0 1 0)/4 (0 1 0 0) (0 0 1 0)\n", nil, [][]int{nil, nil, nil, nil}, []int{parallel, plain, plain, vector}, 4, 4},
		{clear, "S0: (0 1 0 0) (0 0 0 5)\n", nil, [][]int{nil, nil}, []int{parallel, plain}, 2, 2},
		{clear, "S0: (0 0 0 5) (0 1 0 0) (0 0 0 0) (0 0 1 0) (0 0 0 7)\n", nil, [][]int{nil, nil, nil, nil, nil}, []int{plain, parallel, plain, vector, plain}, 5, 5},
		{clear, "S0: (0 0 0 5)/2 (0 0 0 7)/9\n", nil, [][]int{nil, nil}, []int{parallel, vector}, 2, 2},
		{clear, "S0: (0 0 0 5)\n", nil, [][]int{nil}, []int{plain}, 1, 1}, {clear, "S0:\n", nil, nil, nil, 0, 0},
		// The last free row is no Vector, because a row after it is not constant.
		{"param n; array A[n][n][n + 1]; for i = 0 to n - 1 { for j = 0 to n - 1 { for k = 1 to n - 1 { A[i][j][k] = A[i][j][k - 1]; } } }", "S0: (0 1 0 0 0) (0 0 1 0 0) (0 0 0 1 0)\n", nil, [][]int{nil, nil, {0}}, []int{parallel, plain, plain}, 2, 0},
		{"param n; array A[n][n][n + 1]; for i = 0 to n - 1 { for j = 0 to n - 1 { for k = 1 to n - 1 { A[i][j][k] = A[i][j][k - 1]; } } }", "S0: (0 0 0 1 0) (0 0 1 0 0) (0 1 0 0 0)\n", nil, [][]int{{0}, nil, nil}, []int{plain, parallel, vector}, 0, 2},
		{"param n; array A[n][n][n + 1]; for i = 0 to n - 1 { for j = 0 to n - 1 { for k = 1 to n - 1 { A[i][j][k] = A[i][j][k - 1]; } } }", "S0: (0 0 1 0 0) (0 0 0 1 0) (0 1 0 0 0)\n", nil, [][]int{nil, {0}, nil}, []int{parallel, plain, vector}, 1, 1},
		{stages, "S0: (0 0 0) (0 1 0)\nS1: (0 0 1) (0 1 0)\n", nil, [][]int{{0}, nil}, []int{plain, parallel}, 0, 1},
		{stages, "S0: (0 1 0)\nS1: (0 1 0)\n", nil, [][]int{{0}}, []int{plain}, 0, 0},
	} {
		p := parse(t, x.text)
		l := deps(t, p)
		s := schedule(t, p, x.s)
		free, e := par.Free(p, l, s, x.but)
		if e != api.OK || len(free) != len(x.carried) {
			t.Errorf("Free of %q: %v, %d", x.s, free, e)
			continue
		}
		for k, want := range x.carried {
			c, e := par.Carried(p, l, s, x.but, k)
			if e != api.OK || !slices.Equal(c, want) || free[k] != (len(want) == 0) {
				t.Errorf("Carried of %q, row %d: %v, %d, %v", x.s, k, c, e, free[k])
			}
			w, e := par.Race(p, l, s, x.but, k)
			if len(want) == 0 && (e != api.ErrNone || !sameWitness(w, legal.Witness{})) || len(want) > 0 && (e != api.OK || w.Dep != want[0] || w.Row != k) {
				t.Errorf("Race of %q, row %d: %v, %d", x.s, k, w, e)
			}
		}
		marks, e := par.Choose(p, l, s, x.but)
		if e != api.OK || !slices.Equal(marks, x.marks) {
			t.Errorf("Choose of %q: %v, %d; want %v", x.s, marks, e, x.marks)
		}
		if ok, k, e := par.Sound(p, l, s, x.but, marks); !ok || k != 0 || e != api.OK {
			t.Errorf("Sound of %q: %v, %d, %d", x.s, ok, k, e)
		}
		ahead, behind, e := par.Width(p, l, s, x.but)
		if e != api.OK || ahead != x.ahead || behind != x.behind {
			t.Errorf("Width of %q: %d, %d, %d", x.s, ahead, behind, e)
		}
	}
}

// Example 2, with the relaxed dependences of chapter 16.
func TestReduction(t *testing.T) {
	p := parse(t, sums)
	l := deps(t, p)
	relaxed, e := reduce.Relax(p, l)
	if e != api.OK {
		t.Fatal(e)
	}
	var but []int
	for i, r := range relaxed {
		if r {
			but = append(but, i)
		}
	}
	s, _ := sched.Source(p)
	if marks, e := par.Choose(p, l, s, but); e != api.OK || !slices.Equal(marks, []int{parallel, vector}) {
		t.Errorf("Choose: %v, %d", marks, e)
	}
}

// P21.3.
func TestRace(t *testing.T) {
	p := parse(t, grid)
	l := deps(t, p)
	for _, x := range []struct {
		s string
		k int
		w legal.Witness
	}{
		{"S0: (0 1 0 0) (0 0 1 0)\n", 0, legal.Witness{Dep: 0, Row: 0, Params: []int{2}, From: []int{1, 1}, To: []int{2, 1}}}, {"S0: (0 1 0 0) (0 0 1 0)\n", 1, legal.Witness{Dep: 1, Row: 1, Params: []int{2}, From: []int{1, 1}, To: []int{1, 2}}}, {"S0: (0 0 -1 0) (0 0 1 0)\n", 0, legal.Witness{Dep: 1, Row: 0, Params: []int{2}, From: []int{1, 1}, To: []int{1, 2}}},
		{"S0: (0 1 0 0)/3 (0 0 1 0)\n", 0, legal.Witness{Dep: 0, Row: 0, Params: []int{3}, From: []int{2, 1}, To: []int{3, 1}}},
	} {
		if w, e := par.Race(p, l, schedule(t, p, x.s), nil, x.k); e != api.OK || !sameWitness(w, x.w) {
			t.Errorf("Race of %q, %d: %v, %d", x.s, x.k, w, e)
		}
	}
	// Pairs that are turned come before pairs that are right.
	q := parse(t, "param n; array A[n]; for i = 0 to n - 1 { A[i] = 1; }")
	_, pairs, _ := settext.Parse("{ n, i, j : n = 9 and j = 1 and i = 0 or n = 9 and i = 5 and j = 3 }")
	d := []api.Dep{{Pairs: pairs}}
	if w, e := par.Race(q, d, schedule(t, q, "S0: (0 1 0)\n"), nil, 0); e != api.OK || !sameWitness(w, legal.Witness{Params: []int{9}, From: []int{5}, To: []int{3}}) {
		t.Errorf("Race: %v, %d", w, e)
	}
	_, open, _ := settext.Parse("{ n, i, j : i > j }")
	if w, e := par.Race(q, []api.Dep{{Pairs: open}}, schedule(t, q, "S0: (0 1 0)\n"), nil, 0); e != api.ErrRange || !sameWitness(w, legal.Witness{}) {
		t.Errorf("Race: %v, %d", w, e)
	}
}

// P21.5.
func TestSound(t *testing.T) {
	p := parse(t, grid)
	l := deps(t, p)
	s := schedule(t, p, "S0: (0 1 1 0) (0 1 0 0) (0 0 1 0)\n")
	for _, x := range []struct {
		marks []int
		ok    bool
		k     int
		e     api.Errno
	}{
		{[]int{0, 0, 0}, true, 0, api.OK}, {[]int{0, 1, 0}, true, 0, api.OK}, {[]int{0, 2, 1}, true, 0, api.OK}, {[]int{1, 0, 0}, false, 0, api.OK}, {[]int{2, 1, 0}, false, 0, api.OK}, {nil, false, 0, api.ErrDim}, {[]int{0, 9}, false, 0, api.ErrDim}, {[]int{0, 0, 0, 0}, false, 0, api.ErrDim}, {[]int{0, 3, 0}, false, 0, api.ErrRange}, {[]int{1, -1, 0}, false, 0, api.ErrRange}, {[]int{0, 0, math.MinInt}, false, 0, api.ErrRange},
	} {
		if ok, k, e := par.Sound(p, l, s, nil, x.marks); ok != x.ok || k != x.k || e != x.e {
			t.Errorf("Sound of %v: %v, %d, %d", x.marks, ok, k, e)
		}
	}
	q := schedule(t, p, "S0: (0 1 0 0) (0 0 1 0)\n")
	if ok, k, e := par.Sound(p, l, q, []int{0}, []int{1, 1}); ok || k != 1 || e != api.OK {
		t.Errorf("Sound: %v, %d, %d", ok, k, e)
	}
	if ok, k, e := par.Sound(p, l, q, []int{0, 1}, []int{1, 1}); !ok || k != 0 || e != api.OK {
		t.Errorf("Sound: %v, %d, %d", ok, k, e)
	}
}

// What is refused matters only where it is examined.
func TestFull(t *testing.T) {
	p := parse(t, grid)
	good := deps(t, p)[0]
	_, pairs, _ := settext.Parse("{ n, i, j, k, l : 600 i = 601 j }")
	refused := api.Dep{Pairs: pairs}
	s := schedule(t, p, "S0: (0 1 0 0) (0 0 1 0)\n")
	l := []api.Dep{good, refused}
	_, e1 := par.Carried(p, l, s, nil, 0)
	_, e2 := par.Free(p, l, s, nil)
	_, e3 := par.Race(p, l, s, nil, 0)
	_, e4 := par.Choose(p, l, s, nil)
	_, k, e5 := par.Sound(p, l, s, nil, []int{1, 1})
	_, e6 := par.Race(p, l, s, nil, 1)
	_, _, e7 := par.Width(p, l, s, nil)
	_, _, e8 := par.Sound(p, l, s, nil, []int{0, 1})
	_, e9 := par.Free(p, l, s, []int{1})
	if got := []api.Errno{e1, e2, e3, e4, e5, e6, e7, e8, e9}; !slices.Equal(got, []api.Errno{3, 3, 0, 3, 0, 3, 3, 3, 0}) || k != 0 {
		t.Errorf("%v, %d", got, k)
	}
}

func TestErrors(t *testing.T) {
	p := parse(t, grid)
	l := deps(t, p)
	s := schedule(t, p, "S0: (0 1 0 0) (0 0 1 0)\n")
	all := func(p api.Program, l []api.Dep, s api.Sched, but []int) []api.Errno {
		c, e1 := par.Carried(p, l, s, but, 9)
		f, e2 := par.Free(p, l, s, but)
		_, e3 := par.Race(p, l, s, but, 9)
		m, e4 := par.Choose(p, l, s, but)
		ok, k, e5 := par.Sound(p, l, s, but, []int{9})
		a, b, e6 := par.Width(p, l, s, but)
		if e2 != api.OK && (len(c)+len(f)+len(m)+k+a+b != 0 || ok) {
			t.Error("a result with an error")
		}
		return []api.Errno{e1, e2, e3, e4, e5, e6}
	}
	change := func(f func(d *api.Dep)) []api.Dep {
		d := l[0]
		f(&d)
		return []api.Dep{l[0], d}
	}
	for i, x := range []struct{ got, want []api.Errno }{
		{all(api.Program{Params: []string{"to"}}, nil, s, []int{9}), []api.Errno{1, 1, 1, 1, 1, 1}}, {all(p, change(func(d *api.Dep) { d.From = 9 }), api.Sched{}, []int{9}), []api.Errno{2, 2, 2, 2, 2, 2}}, {all(p, change(func(d *api.Dep) { d.To = -1 }), s, []int{9}), []api.Errno{5, 5, 5, 5, 5, 5}}, {all(p, change(func(d *api.Dep) { d.Pairs.Dim = 99 }), s, []int{9}), []api.Errno{1, 1, 1, 1, 1, 1}}, {all(p, change(func(d *api.Dep) { d.Pairs = api.Set{} }), s, []int{9}), []api.Errno{2, 2, 2, 2, 2, 2}},
		{all(p, l, s, []int{0, 2}), []api.Errno{6, 6, 6, 6, 6, 6}}, {all(p, l, s, []int{-1}), []api.Errno{6, 6, 6, 6, 6, 6}}, {all(p, l, s, []int{math.MaxInt}), []api.Errno{6, 6, 6, 6, 6, 6}}, {all(p, nil, s, []int{0}), []api.Errno{6, 6, 6, 6, 6, 6}}, {all(p, l, s, []int{1, 0, 1}), []api.Errno{6, 0, 6, 0, 2, 0}},
	} {
		if !slices.Equal(x.got, x.want) {
			t.Errorf("%d: %v, want %v", i, x.got, x.want)
		}
	}
	for _, k := range []int{-1, 2, math.MinInt, math.MaxInt} {
		c, e := par.Carried(p, l, s, nil, k)
		w, f := par.Race(p, l, s, nil, k)
		if e != api.ErrRange || f != api.ErrRange || len(c) != 0 || !sameWitness(w, legal.Witness{}) {
			t.Errorf("row %d: %d, %d", k, e, f)
		}
	}
	if f, e := par.Free(api.Program{}, nil, api.Sched{}, nil); e != api.OK || len(f) != 0 {
		t.Errorf("Free of nothing: %v, %d", f, e)
	}
}

// P21.7, P21.8, P21.9, P21.10.
func TestRandom(t *testing.T) {
	r := rand.New(rand.NewSource(24))
	free, bound := 0, 0
	for range 60 {
		p := parse(t, []string{grid, sums, clear, stages}[r.Intn(4)])
		l := deps(t, p)
		infos, _ := lang.Assigns(p)
		s := api.Sched{}
		n := r.Intn(3) + 1
		for _, x := range infos {
			var rows []api.Row
			for range n {
				w := api.Row{L: api.Lin{C: make([]int, len(x.Names)), K: r.Intn(3) - 1}, Div: []int{1, 1, 2, 3}[r.Intn(4)]}
				for i := len(p.Params); i < len(w.L.C); i++ {
					w.L.C[i] = r.Intn(3) - 1
				}
				rows = append(rows, w)
			}
			s.Rows = append(s.Rows, rows)
		}
		some := r.Perm(len(l))[:r.Intn(len(l)+1)]
		all, e1 := par.Free(p, l, s, nil)
		less, e2 := par.Free(p, l, s, some)
		marks, e3 := par.Choose(p, l, s, some)
		ok, _, e4 := par.Sound(p, l, s, some, marks)
		if e1+e2+e3+e4 != 0 || !ok {
			t.Fatalf("%d, %d, %d, %d, %v", e1, e2, e3, e4, ok)
		}
		for k := range all {
			if all[k] && !less[k] {
				t.Fatalf("row %d is free no more", k)
			}
			differ := carriedPair(t, p, l, s, k)
			if all[k] {
				free++
			} else {
				bound++
			}
			// Pairs of other parameters may differ, but not where the row is free.
			if differ && all[k] {
				t.Fatalf("row %d of %v is not free", k, s)
			}
			checkRace(t, p, l, s, k, all[k])
		}
	}
	if free < 10 || bound < 10 {
		t.Errorf("%d free, %d bound", free, bound)
	}
}

// level returns the first row at which two instances differ.
func level(t *testing.T, p api.Program, s api.Sched, params []int, a, b api.Inst) int {
	t.Helper()
	u, e := sched.Time(p, s, params, a)
	v, f := sched.Time(p, s, params, b)
	if e != api.OK || f != api.OK {
		t.Fatal(e, f)
	}
	k := 0
	for k < len(u) && u[k] == v[k] {
		k++
	}
	return k
}

// carriedPair reports whether a pair of a dependence differs first at row k, for small parameters.
func carriedPair(t *testing.T, p api.Program, l []api.Dep, s api.Sched, k int) bool {
	t.Helper()
	for n := range 5 {
		insts, _ := run.Insts(p, []int{n})
		for _, a := range insts {
			for _, b := range insts {
				for _, d := range l {
					if d.From != a.Stmt || d.To != b.Stmt {
						continue
					}
					if in, _ := set.Has(d.Pairs, slices.Concat([]int{n}, a.At, b.At)); in && level(t, p, s, []int{n}, a, b) == k {
						return true
					}
				}
			}
		}
	}
	return false
}

func checkRace(t *testing.T, p api.Program, l []api.Dep, s api.Sched, k int, free bool) {
	t.Helper()
	w, e := par.Race(p, l, s, nil, k)
	if free {
		if e != api.ErrNone {
			t.Fatalf("Race of a free row: %v, %d", w, e)
		}
		return
	}
	d := l[w.Dep]
	a, b := api.Inst{Stmt: d.From, At: w.From}, api.Inst{Stmt: d.To, At: w.To}
	in, _ := set.Has(d.Pairs, slices.Concat(w.Params, w.From, w.To))
	if e != api.OK || !in || w.Row != k || level(t, p, s, w.Params, a, b) != k {
		t.Fatalf("Race of %v, row %d: %v, %d", s, k, w, e)
	}
}
