package legal_test

import (
	"headland/api"
	"headland/dep"
	"headland/elim"
	"headland/lang"
	"headland/legal"
	"headland/run"
	"headland/sched"
	"headland/set"
	"headland/settext"
	"headland/source"
	"math"
	"math/rand"
	"slices"
	"testing"
)

func parse(t *testing.T, text string) api.Program {
	t.Helper()
	p, e := source.Parse(text)
	if e != api.OK {
		t.Fatalf("Parse(%q): %d", text, e)
	}
	return p
}

func deps(t *testing.T, p api.Program) []api.Dep {
	t.Helper()
	l, e := dep.All(p)
	if e != api.OK {
		t.Fatal(e)
	}
	return l
}

func schedule(t *testing.T, p api.Program, text string) api.Sched {
	t.Helper()
	s, e := sched.Parse(p, text)
	if e != api.OK {
		t.Fatalf("Parse(%q): %d", text, e)
	}
	return s
}

func same(a, b api.Set) bool {
	return a.Dim == b.Dim && slices.EqualFunc(a.Pieces, b.Pieces, samePiece)
}

func samePiece(p, q []api.Cond) bool {
	return slices.EqualFunc(p, q, func(a, b api.Cond) bool {
		return a.Kind == b.Kind && a.M == b.M && a.L.K == b.L.K && slices.Equal(a.L.C, b.L.C)
	})
}

// of parses a set, and normalizes it.
func of(t *testing.T, text string) api.Set {
	t.Helper()
	_, s, e := settext.Parse(text)
	if e != api.OK {
		t.Fatalf("Parse(%q): %d", text, e)
	}
	if s, e = set.Normal(s); e != api.OK {
		t.Fatal(e)
	}
	return s
}

const (
	shift = "param n; array A[n + 1]; for i = 0 to n - 1 { A[i] = A[i + 1] + 1; }"
	grid  = "param n; array A[n + 1][n + 1]; for i = 1 to n { for j = 1 to n { A[i][j] = A[i - 1][j] + A[i][j - 1]; } }"
	two   = "param n; array A[n]; for i = 0 to n - 1 { A[i] = 1; A[i] = 2; }"
	mixed = "param n; array A[n + 1]; array B[n + 1]; for i = 0 to n { A[i] = B[n - i]; for j = 0 to i { B[j] = A[i] + B[i]; } }"
)

// P18.1, example 1.
func TestShift(t *testing.T) {
	p := parse(t, shift)
	d := deps(t, p)[0]
	pairs := "{ n, i, j : n >= 0 and n <= 1000 and i >= 0 and i <= n - 1 and j >= 0 and j <= n - 1 and j = i + 1 "
	forth, back := schedule(t, p, "S0: (0 1 0)\n"), schedule(t, p, "S0: (0 -1 0)\n")
	for _, x := range []struct {
		what string
		f    func(api.Program, api.Dep, api.Sched, int) (api.Set, api.Errno)
		s    api.Sched
		k    int
		want string
	}{
		{"T(0)", legal.Tied, forth, 0, pairs + "}"}, {"T(1)", legal.Tied, forth, 1, "{ n, i, j : false }"}, {"B(0)", legal.Turned, forth, 0, "{ n, i, j : false }"}, {"B(1)", legal.Turned, forth, 1, "{ n, i, j : false }"}, {"C(0)", legal.Right, forth, 0, pairs + "and j - i - 1 >= 0 }"}, {"C(1)", legal.Right, forth, 1, "{ n, i, j : false }"},
		{"T(0) back", legal.Tied, back, 0, pairs + "}"}, {"T(1) back", legal.Tied, back, 1, "{ n, i, j : false }"}, {"B(0) back", legal.Turned, back, 0, pairs + "and j - i - 1 >= 0 }"}, {"C(0) back", legal.Right, back, 0, "{ n, i, j : false }"},
	} {
		s, e := x.f(p, d, x.s, x.k)
		if want := of(t, x.want); e != api.OK || !same(s, want) {
			t.Errorf("%s: %v, %d; want %v", x.what, s, e, want)
		}
	}
	ok, w, e := legal.Legal(p, []api.Dep{d}, forth)
	if !ok || e != api.OK || !sameWitness(w, legal.Witness{}) {
		t.Errorf("Legal forth: %v, %v, %d", ok, w, e)
	}
	ok, w, e = legal.Legal(p, []api.Dep{d}, back)
	if ok || e != api.OK || !sameWitness(w, legal.Witness{Dep: 0, Row: 0, Params: []int{2}, From: []int{0}, To: []int{1}}) {
		t.Errorf("Legal back: %v, %v, %d", ok, w, e)
	}
	if k, e := legal.Until(p, d, forth); k != 1 || e != api.OK {
		t.Errorf("Until: %d, %d", k, e)
	}
}

func sameWitness(a, b legal.Witness) bool {
	return a.Dep == b.Dep && a.Row == b.Row && slices.Equal(a.Params, b.Params) && slices.Equal(a.From, b.From) && slices.Equal(a.To, b.To)
}

// Example 2.
func TestBlocks(t *testing.T) {
	p := parse(t, shift)
	d := deps(t, p)[0]
	blocks := schedule(t, p, "S0: (0 1 0)/4\n")
	s, e := legal.Tied(p, d, blocks, 1)
	want := api.Set{Dim: 3}
	for r := range 4 {
		c := api.Cond{Kind: api.Div, M: 4, L: api.Lin{C: []int{0, 0, 1}, K: -r}}
		low, high := api.Cond{Kind: api.Ge, L: api.Lin{C: []int{0, 4, -4}, K: 4 * r}}, api.Cond{Kind: api.Ge, L: api.Lin{C: []int{0, -4, 4}, K: 12 - 4*r}}
		q, void, f := set.Simple(slices.Concat(d.Pairs.Pieces[0], []api.Cond{c, low, high}), 3)
		if f != api.OK {
			t.Fatal(f)
		}
		if !void && r > 0 {
			want.Pieces = append(want.Pieces, q)
		}
	}
	if e != api.OK || !same(s, want) {
		t.Errorf("T(1): %v, %d; want %v", s, e, want)
	}
	if ok, w, e := legal.Legal(p, []api.Dep{d}, blocks); !ok || e != api.OK {
		t.Errorf("Legal: %v, %v, %d", ok, w, e)
	}
	if k, e := legal.Until(p, d, blocks); k != 2 || e != api.OK {
		t.Errorf("Until: %d, %d", k, e)
	}
	for n := range 12 {
		for i := range n {
			if in, _ := set.Has(s, []int{n, i, i + 1}); in != (i+1 < n && i/4 == (i+1)/4) {
				t.Errorf("T(1) at %d, %d: %v", n, i, in)
			}
		}
	}
}

// different rows for two assignments of the same loop.
func TestPieces(t *testing.T) {
	p := parse(t, two)
	d := deps(t, p)[0]
	if d.From != 0 || d.To != 1 {
		t.Fatalf("%v", d)
	}
	const head = "{ n, i, j : n <= 1000 and i >= 0 and n - 1 - i >= 0 and n >= 0 and j >= 0 and n - 1 - j >= 0 and i = j "
	s := schedule(t, p, "S0: (0 1 0)/2\nS1: (0 1 1)/3\n")
	// floor(i / 2) and floor((j + 1) / 3): f = 3, e = 2; the split of the pairs in order of r.
	splits := func(conds ...string) api.Set {
		r := api.Set{Dim: 3}
		for _, c := range conds {
			q := of(t, head+"and "+c+" }")
			none, e := elim.Empty(q)
			if e != api.OK {
				t.Fatal(e)
			}
			if !none {
				r.Pieces = append(r.Pieces, q.Pieces...)
			}
		}
		return r
	}
	for _, x := range []struct {
		what string
		f    func(api.Program, api.Dep, api.Sched, int) (api.Set, api.Errno)
		want api.Set
	}{
		{"T(1)", legal.Tied, splits("3 | j + 1 and 3 i - 2 j - 2 >= 0 and 2 j + 2 + 3 - 3 i >= 0", "3 | j and 3 i - 2 j >= 0 and 2 j + 3 - 3 i >= 0", "3 | j - 1 and 3 i - 2 j + 2 >= 0 and 2 j - 2 + 3 - 3 i >= 0")},
		{"B(0)", legal.Turned, splits("3 | j + 1 and 3 i - 2 j - 2 - 6 >= 0", "3 | j and 3 i - 2 j - 6 >= 0", "3 | j - 1 and 3 i - 2 j + 2 - 6 >= 0")},
		{"C(0)", legal.Right, splits("2 | i and 2 j + 2 - 3 i - 6 >= 0", "2 | i - 1 and 2 j + 2 - 3 i + 3 - 6 >= 0")},
	} {
		k := 0
		if x.what == "T(1)" {
			k = 1
		}
		got, e := x.f(p, d, s, k)
		if e != api.OK || !same(got, x.want) {
			t.Errorf("%s: %v, %d; want %v", x.what, got, e, x.want)
		}
	}
	claims, e := legal.Claims(p, d, s, 0)
	if e != api.OK || len(claims) != 3 {
		t.Errorf("Claims: %v, %d", claims, e)
	}
}

// The last level, for the three orders of the assignments.
func TestLast(t *testing.T) {
	p := parse(t, "param n; array S; for i = 0 to n { for j = 0 to n { S = 1; } S = 2; }")
	const box = "n >= 0 and n <= 1000 and i >= 0 and i <= n and "
	s := schedule(t, p, "S0:\nS1:\n")
	d := api.Dep{From: 1, To: 0, Pairs: of(t, "{ n, i, k, l : "+box+"k >= 0 }")}
	e := api.Dep{From: 0, To: 1, Pairs: of(t, "{ n, i, j, k : "+box+"k >= 0 }")}
	f := api.Dep{From: 0, To: 0, Pairs: of(t, "{ n, i, j, k, l : "+box+"k = 3 or n = 5 and i = 1 }")}
	none := func(dim int) api.Set { return api.Set{Dim: dim} }
	split := func(a, b string) api.Set {
		return of(t, "{ n, i, j, k, l : "+box+"k = 3 and "+a+" or n = 5 and i = 1 and "+a+" or "+box+"k = 3 and "+b+" or n = 5 and i = 1 and "+b+" }")
	}
	for i, x := range []struct {
		d           api.Dep
		turned, cor api.Set
		claims      int
	}{
		{d, d.Pairs, none(4), 1}, {e, none(4), e.Pairs, 0}, {f, split("i - k - 1 >= 0", "i = k and j - l - 1 >= 0"), split("k - i - 1 >= 0", "i = k and l - j - 1 >= 0"), 4},
	} {
		b, e1 := legal.Turned(p, x.d, s, 0)
		c, e2 := legal.Right(p, x.d, s, 0)
		if e1 != api.OK || e2 != api.OK || !same(b, x.turned) || !same(c, x.cor) {
			t.Errorf("%d: %v, %d; %v, %d; want %v, %v", i, b, e1, c, e2, x.turned, x.cor)
		}
		l, e3 := legal.Claims(p, x.d, s, 0)
		if e3 != api.OK || len(l) != x.claims || !slices.EqualFunc(l, x.turned.Pieces, samePiece) {
			t.Errorf("Claims %d: %v, %d", i, l, e3)
		}
		if k, e := legal.Until(p, x.d, s); k != 1 || e != api.OK {
			t.Errorf("Until %d: %d, %d", i, k, e)
		}
	}
}

// P18.10: claims are made normal, but pieces that are equal or have no points stay.
func TestClaims(t *testing.T) {
	p := parse(t, shift)
	s := schedule(t, p, "S0: (0 1 0)/2 (0 1 0)\n")
	gap := "{ n, i, j : 2 i - 2 j >= 5 and 3 j - 3 i >= 4 or i >= j and j >= i + 1 or i = 4 and j = 1 or 2 i - 8 = 0 and j = 1 }"
	_, raw, e := settext.Parse(gap)
	if e != api.OK {
		t.Fatal(e)
	}
	d := api.Dep{Pairs: raw}
	// T(0) has one piece: i = 4 and j = 1; then 2 | j and 2 | j - 1.
	l, e := legal.Claims(p, d, s, 0)
	if want := of(t, "{ n, i, j : i = 4 and j = 1 and 2 | j and i - j >= 2 or i = 4 and j = 1 and 2 | j - 1 and i - j >= 1 }"); e != api.OK || !slices.EqualFunc(l, want.Pieces, samePiece) {
		t.Errorf("Claims: %v, %d; want %v", l, e, want)
	}
	if b, e := legal.Turned(p, d, s, 0); e != api.OK || len(b.Pieces) != 1 {
		t.Errorf("B(0): %v, %d", b, e)
	}
	// Equal pieces: both remainders of a row that says nothing.
	zero := schedule(t, p, "S0: (0 0 0)/2\n")
	d.Pairs = of(t, "{ n, i, j : i = 4 }")
	if l, e := legal.Claims(p, d, zero, 0); e != api.OK || len(l) != 0 {
		t.Errorf("Claims: %v, %d", l, e)
	}
	none := schedule(t, p, "S0:\n")
	if l, e := legal.Claims(p, d, none, 0); e != api.OK || !slices.EqualFunc(l, of(t, "{ n, i, j : i = 4 and i > j }").Pieces, samePiece) {
		t.Errorf("Claims: %v, %d", l, e)
	}
	l[0][0].L.C[0] = 99
	if d.Pairs.Pieces[0][0].L.C[0] == 99 {
		t.Error("shared memory")
	}
}

// P18.2: the first dependence and, within it, the first row.
func TestLegal(t *testing.T) {
	p := parse(t, grid)
	l := deps(t, p)
	for _, x := range []struct {
		s    string
		deps []api.Dep
		w    legal.Witness
		ok   bool
	}{
		{"S0: (0 1 0 0) (0 0 1 0)\n", l, legal.Witness{}, true}, {"S0: (0 0 1 0) (0 1 0 0)\n", l, legal.Witness{}, true}, {"S0: (0 1 1 0)\n", l, legal.Witness{}, true}, {"S0:\n", l, legal.Witness{}, true}, {"S0: (0 1 0 0)/7 (0 0 1 0)/5\n", l, legal.Witness{}, true},
		{"S0: (0 -1 0 0) (0 0 1 0)\n", l, legal.Witness{Dep: 0, Row: 0, Params: []int{2}, From: []int{1, 1}, To: []int{2, 1}}, false}, {"S0: (0 0 0 0) (0 0 -1 0)\n", l, legal.Witness{Dep: 1, Row: 1, Params: []int{2}, From: []int{1, 1}, To: []int{1, 2}}, false}, {"S0: (0 0 -1 0) (0 -1 0 0)\n", l, legal.Witness{Dep: 0, Row: 1, Params: []int{2}, From: []int{1, 1}, To: []int{2, 1}}, false}, {"S0: (0 0 -1 0) (0 -1 0 0)\n", []api.Dep{l[1], l[0]}, legal.Witness{Dep: 0, Row: 0, Params: []int{2}, From: []int{1, 1}, To: []int{1, 2}}, false},
		{"S0: (0 1 -2 0)\n", l, legal.Witness{Dep: 1, Row: 0, Params: []int{2}, From: []int{1, 1}, To: []int{1, 2}}, false}, {"S0: (0 -1 0 0)/3\n", l, legal.Witness{Dep: 0, Row: 0, Params: []int{4}, From: []int{3, 1}, To: []int{4, 1}}, false}, {"S0: (0 -1 0 0)\n", nil, legal.Witness{}, true},
	} {
		ok, w, e := legal.Legal(p, x.deps, schedule(t, p, x.s))
		if ok != x.ok || !sameWitness(w, x.w) || e != api.OK {
			t.Errorf("Legal of %q: %v, %v, %d", x.s, ok, w, e)
		}
	}
	// Equal times are ordered by the assignments and then by the points.
	q := parse(t, "array S; S = 1; S = 2;")
	m := deps(t, q)
	if ok, _, e := legal.Legal(q, m, schedule(t, q, "S0:\nS1:\n")); !ok || e != api.OK {
		t.Errorf("%v, %d", ok, e)
	}
	turned := []api.Dep{{From: 1, To: 0, Pairs: api.Set{Pieces: [][]api.Cond{nil}}}}
	if ok, w, e := legal.Legal(q, turned, schedule(t, q, "S0: (0)\nS1: (0)\n")); ok || e != api.OK || !sameWitness(w, legal.Witness{Row: 1}) {
		t.Errorf("%v, %v, %d", ok, w, e)
	}
	if ok, w, e := legal.Legal(q, turned, schedule(t, q, "S0: (1)\nS1: (0)\n")); !ok || e != api.OK {
		t.Errorf("%v, %v, %d", ok, w, e)
	}
	// A witness without a least point.
	open := []api.Dep{{Pairs: of(t, "{ n, i, j : i > j }")}}
	r := parse(t, shift)
	if ok, w, e := legal.Legal(r, open, schedule(t, r, "S0: (0 1 0)\n")); ok || e != api.ErrRange || !sameWitness(w, legal.Witness{}) {
		t.Errorf("%v, %v, %d", ok, w, e)
	}
}

// P18.4.
func TestBand(t *testing.T) {
	p := parse(t, grid)
	l := deps(t, p)
	for _, x := range []struct {
		s        string
		from, to int
		ok       bool
		w        legal.Witness
		e        api.Errno
	}{
		{"S0: (0 1 0 0) (0 0 1 0)\n", 0, 2, true, legal.Witness{}, api.OK}, {"S0: (0 1 0 0) (0 0 -1 0)\n", 0, 2, false, legal.Witness{Dep: 1, Row: 1, Params: []int{2}, From: []int{1, 1}, To: []int{1, 2}}, api.OK}, {"S0: (0 1 0 0) (0 -1 1 0)\n", 0, 2, false, legal.Witness{Dep: 0, Row: 1, Params: []int{2}, From: []int{1, 1}, To: []int{2, 1}}, api.OK}, {"S0: (0 1 0 0) (0 -1 1 0)\n", 1, 2, true, legal.Witness{}, api.OK}, {"S0: (0 1 0 0) (0 -1 1 0)\n", 0, 1, true, legal.Witness{}, api.OK}, {"S0: (0 1 1 0) (0 -1 -1 0)\n", 1, 2, true, legal.Witness{}, api.OK},
		{"S0: (0 -1 0 0) (0 0 -1 0)\n", 0, 0, true, legal.Witness{}, api.OK}, {"S0: (0 -1 0 0) (0 0 -1 0)\n", 2, 2, true, legal.Witness{}, api.OK}, {"S0: (0 -1 0 0) (0 0 -1 0)\n", 0, 2, false, legal.Witness{Dep: 0, Row: 0, Params: []int{2}, From: []int{1, 1}, To: []int{2, 1}}, api.OK}, {"S0: (0 -1 0 0) (0 0 -1 0)\n", 1, 2, false, legal.Witness{Dep: 1, Row: 1, Params: []int{2}, From: []int{1, 1}, To: []int{1, 2}}, api.OK},
		{"S0: (0 1 0 0)\n", -1, 1, false, legal.Witness{}, api.ErrRange}, {"S0: (0 1 0 0)\n", 1, 0, false, legal.Witness{}, api.ErrRange}, {"S0: (0 1 0 0)\n", 0, 2, false, legal.Witness{}, api.ErrRange}, {"S0: (0 1 0 0)\n", math.MinInt, math.MaxInt, false, legal.Witness{}, api.ErrRange},
	} {
		ok, w, e := legal.Band(p, l, schedule(t, p, x.s), x.from, x.to)
		if ok != x.ok || !sameWitness(w, x.w) || e != x.e {
			t.Errorf("Band of %q, %d, %d: %v, %v, %d", x.s, x.from, x.to, ok, w, e)
		}
	}
	if ok, _, e := legal.Band(api.Program{}, nil, api.Sched{}, 0, 0); !ok || e != api.OK {
		t.Errorf("Band of nothing: %v, %d", ok, e)
	}
	if ok, _, e := legal.Band(api.Program{}, nil, api.Sched{}, 0, 1); ok || e != api.ErrRange {
		t.Errorf("Band of nothing: %v, %d", ok, e)
	}
}

// P18.5.
func TestOrder(t *testing.T) {
	p := parse(t, mixed)
	l := deps(t, p)
	s, _ := sched.Source(p)
	for n := range 4 {
		params := []int{n}
		insts, _ := run.Insts(p, params)
		for _, a := range insts {
			for _, b := range insts {
				var want []int
				for i, d := range l {
					if d.From == a.Stmt && d.To == b.Stmt {
						if in, _ := set.Has(d.Pairs, slices.Concat(params, a.At, b.At)); in {
							want = append(want, i)
						}
					}
				}
				if got, e := legal.Order(p, l, s, params, a, b); e != api.OK || !slices.Equal(got, want) {
					t.Errorf("Order of %v, %v: %v, %d; want %v", a, b, got, e, want)
				}
			}
		}
	}
	// Instances of other assignments with the same points.
	q := parse(t, two)
	both, _ := sched.Source(q)
	for k, want := range [][]int{nil, {0}, nil, nil} {
		a, b := api.Inst{Stmt: k / 2, At: []int{1}}, api.Inst{Stmt: k % 2, At: []int{1}}
		if got, e := legal.Order(q, deps(t, q), both, []int{5}, a, b); e != api.OK || !slices.Equal(got, want) {
			t.Errorf("Order of %v, %v: %v, %d", a, b, got, e)
		}
	}
	good := api.Inst{Stmt: 0, At: []int{1}}
	for _, x := range []struct {
		params []int
		a, b   api.Inst
		e      api.Errno
	}{{nil, good, good, api.ErrDim}, {[]int{1001}, good, good, api.ErrRange}, {[]int{1}, api.Inst{Stmt: 2}, good, api.ErrNone}, {[]int{1}, good, api.Inst{Stmt: -1}, api.ErrNone}, {[]int{1}, good, api.Inst{Stmt: 1, At: []int{1}}, api.ErrDim}, {[]int{1}, api.Inst{Stmt: 0, At: []int{math.MaxInt}}, good, api.ErrRange}, {[]int{1}, good, good, api.OK}} {
		if r, e := legal.Order(p, l, s, x.params, x.a, x.b); e != x.e || len(r) != 0 {
			t.Errorf("Order of %v, %v: %v, %d, want %d", x.a, x.b, r, e, x.e)
		}
	}
}

func TestErrors(t *testing.T) {
	p := parse(t, mixed)
	l := deps(t, p)
	s, _ := sched.Source(p)
	good := l[0]
	all := func(p api.Program, d api.Dep, s api.Sched, k int) []api.Errno {
		_, e1 := legal.Tied(p, d, s, k)
		_, e2 := legal.Turned(p, d, s, k)
		_, e3 := legal.Right(p, d, s, k)
		_, w4, e4 := legal.Legal(p, []api.Dep{good, d}, s)
		_, e5 := legal.Until(p, d, s)
		_, w6, e6 := legal.Band(p, []api.Dep{good, d}, s, k, k)
		_, e7 := legal.Order(p, []api.Dep{good, d}, s, nil, api.Inst{}, api.Inst{})
		_, e8 := legal.Claims(p, d, s, k)
		if !sameWitness(w4, legal.Witness{}) || !sameWitness(w6, legal.Witness{}) {
			t.Error("a witness with an error")
		}
		return []api.Errno{e1, e2, e3, e4, e5, e6, e7, e8}
	}
	is := func(what string, got []api.Errno, want api.Errno) {
		t.Helper()
		if !slices.Equal(got, slices.Repeat([]api.Errno{want}, 8)) {
			t.Errorf("%s: %v, want %d", what, got, want)
		}
	}
	change := func(f func(d *api.Dep)) api.Dep {
		d := good
		f(&d)
		return d
	}
	is("a program", all(api.Program{Params: []string{"to"}}, good, s, 99), api.ErrArg)
	is("a schedule", all(p, change(func(d *api.Dep) { d.From = 9 }), api.Sched{}, 99), api.ErrDim)
	is("a row", all(p, good, api.Sched{Rows: [][]api.Row{{{L: api.Lin{C: []int{0, 0}}}}, {{L: api.Lin{C: []int{0, 0, 0}}, Div: 1}}}}, 99), api.ErrRange)
	is("From", all(p, change(func(d *api.Dep) { d.From, d.Pairs.Dim = 2, -1 }), s, 99), api.ErrNone)
	is("To beyond", all(p, change(func(d *api.Dep) { d.To = 2 }), s, 99), api.ErrNone)
	is("a negative From", all(p, change(func(d *api.Dep) { d.From = -1 }), s, 99), api.ErrNone)
	is("To", all(p, change(func(d *api.Dep) { d.To = math.MaxInt }), s, 99), api.ErrNone)
	is("a negative To", all(p, change(func(d *api.Dep) { d.To = math.MinInt }), s, 99), api.ErrNone)
	is("Pairs", all(p, change(func(d *api.Dep) { d.Pairs.Dim = -1 }), s, 99), api.ErrArg)
	is("a space", all(p, change(func(d *api.Dep) { d.Pairs = api.Set{Dim: 7} }), s, 99), api.ErrDim)
	rows := len(s.Rows[0])
	for _, k := range []int{-1, rows + 1, math.MinInt, math.MaxInt} {
		got := all(p, good, s, k)
		if want := []api.Errno{api.ErrRange, api.ErrRange, api.ErrRange, api.OK, api.OK, api.ErrRange, api.ErrDim, api.ErrRange}; !slices.Equal(got, want) {
			t.Errorf("row %d: %v", k, got)
		}
	}
	if got := all(p, good, s, rows); !slices.Equal(got, []api.Errno{0, 0, 0, 0, 0, 0, api.ErrDim, 0}) {
		t.Errorf("the last row: %v", got)
	}
	// A dependence that is not checked as far as kind, array and access go.
	if ok, _, e := legal.Legal(p, []api.Dep{change(func(d *api.Dep) { d.Kind, d.Array, d.FromPos, d.ToPos = 77, -3, 99, -99 })}, s); !ok || e != api.OK {
		t.Errorf("%v, %d", ok, e)
	}
	if ok, _, e := legal.Legal(p, []api.Dep{change(func(d *api.Dep) { d.From, d.To = 9, 9 }), {Pairs: api.Set{Dim: -1}}}, s); ok || e != api.ErrNone {
		t.Errorf("the first error: %v, %d", ok, e)
	}
}

func TestFull(t *testing.T) {
	p := parse(t, "param n; array S; for i = 0 to n { for j = 0 to n { S = 1; } }")
	wide := api.Dep{Pairs: of(t, "{ n, i, j, k, l : i >= 0 and j >= 0 and k >= 0 and l >= 0 and i <= n and j <= n and k <= n and l <= n and n <= 1000 }")}
	s := schedule(t, p, "S0: (0 1 0 0)/64 (0 0 1 0)/64 (0 1 0 0)\n")
	// T(1) has 64 pieces, T(2) would have 4096.
	a, e1 := legal.Tied(p, wide, s, 1)
	_, e2 := legal.Tied(p, wide, s, 2)
	_, e3 := legal.Tied(p, wide, s, 3)
	_, e4 := legal.Turned(p, wide, s, 1)
	_, e5 := legal.Turned(p, wide, s, 2)
	_, e6 := legal.Right(p, wide, s, 0)
	l, e7 := legal.Claims(p, wide, s, 1)
	_, e8 := legal.Claims(p, wide, s, 2)
	k, e9 := legal.Until(p, wide, s)
	if got := []api.Errno{e1, e2, e3, e4, e5, e6, e7, e8, e9}; !slices.Equal(got, []api.Errno{0, 3, 3, 3, 3, 0, 0, 3, 3}) || len(a.Pieces) != 64 || len(l) != 4096 || k != 0 {
		t.Errorf("%v, %d, %d", got, len(a.Pieces), len(l))
	}
	// The first dependence that is broken or refused ends Legal.
	back := schedule(t, p, "S0: (0 -1 0 0) (0 1 0 0)/64 (0 0 1 0)/64\n")
	if ok, w, e := legal.Legal(p, []api.Dep{wide}, back); ok || e != api.OK || w.Row != 0 {
		t.Errorf("%v, %v, %d", ok, w, e)
	}
	open := api.Dep{Pairs: of(t, "{ n, i, j, k, l : 600 i = 601 j }")}
	if ok, _, e := legal.Legal(p, []api.Dep{open, wide}, back); ok || e != api.ErrFull {
		t.Errorf("%v, %d", ok, e)
	}
	if ok, _, e := legal.Legal(p, []api.Dep{wide, open}, back); ok || e != api.OK {
		t.Errorf("%v, %d", ok, e)
	}
	if ok, _, e := legal.Band(p, []api.Dep{open}, back, 0, 1); ok || e != api.ErrFull {
		t.Errorf("%v, %d", ok, e)
	}
	if _, e := legal.Tied(p, open, back, 0); e != api.ErrFull {
		t.Errorf("%d", e)
	}
	if ok, _, e := legal.Band(p, []api.Dep{wide}, s, 1, 2); ok || e != api.ErrFull {
		t.Errorf("%v, %d", ok, e)
	}
	for _, k := range []int{-1, 4} {
		if _, e := legal.Tied(p, wide, s, k); e != api.ErrRange {
			t.Errorf("row %d: %d", k, e)
		}
	}
	// Numbers beyond the limits: 63 1048575 and 64 1048573 have no common divisor.
	q := parse(t, two)
	steep := schedule(t, q, "S0: (0 1048575 0)/64\nS1: (0 1048573 0)/63\n")
	pairs := api.Dep{From: 0, To: 1, Pairs: of(t, "{ n, i, j : i >= 0 and j >= 0 }")}
	_, e1 = legal.Tied(q, pairs, steep, 1)
	_, e2 = legal.Turned(q, pairs, steep, 0)
	_, e3 = legal.Right(q, pairs, steep, 0)
	_, e4 = legal.Claims(q, pairs, steep, 0)
	if e1 != api.ErrFull || e2 != api.ErrFull || e3 != api.ErrFull || e4 != api.ErrFull {
		t.Errorf("beyond the limits: %d, %d, %d, %d", e1, e2, e3, e4)
	}
}

// random returns a random schedule of p with small numbers.
func random(t *testing.T, r *rand.Rand, p api.Program) api.Sched {
	t.Helper()
	infos, e := lang.Assigns(p)
	if e != api.OK {
		t.Fatal(e)
	}
	s := api.Sched{}
	n := r.Intn(3) + 1
	for _, x := range infos {
		var l []api.Row
		for range n {
			w := api.Row{L: api.Lin{C: make([]int, len(x.Names)), K: r.Intn(3) - 1}, Div: []int{1, 1, 1, 2, 3}[r.Intn(5)]}
			for i := len(p.Params); i < len(w.L.C); i++ {
				w.L.C[i] = r.Intn(3) - 1
			}
			l = append(l, w)
		}
		s.Rows = append(s.Rows, l)
	}
	return s
}

// P18.6, P18.7.
func TestRandom(t *testing.T) {
	r := rand.New(rand.NewSource(19))
	good, bad := 0, 0
	for range 60 {
		p := parse(t, []string{shift, grid, mixed, "param n; array S; array A[n + 1]; for i = 0 to n { S = S + A[i]; A[i] = S; }"}[r.Intn(4)])
		l := deps(t, p)
		s := random(t, r, p)
		ok, w, e := legal.Legal(p, l, s)
		if e != api.OK {
			t.Fatalf("Legal: %d", e)
		}
		if !ok {
			bad++
			d := l[w.Dep]
			a, b := api.Inst{Stmt: d.From, At: w.From}, api.Inst{Stmt: d.To, At: w.To}
			in, _ := set.Has(d.Pairs, slices.Concat(w.Params, w.From, w.To))
			if n, e := sched.Compare(p, s, w.Params, a, b); n != 1 || e != api.OK || !in {
				t.Fatalf("%v is no witness: %d, %d", w, n, e)
			}
		} else {
			good++
		}
		rows := len(s.Rows[0])
		d := l[r.Intn(len(l))]
		var turned, right []api.Set
		for k := range rows + 1 {
			b, e := legal.Turned(p, d, s, k)
			c, f := legal.Right(p, d, s, k)
			if e != api.OK || f != api.OK {
				t.Fatal(e, f)
			}
			turned, right = append(turned, b), append(right, c)
		}
		for n := range 4 {
			params := []int{n}
			insts, _ := run.Insts(p, params)
			for _, a := range insts {
				for _, b := range insts {
					for i, x := range l {
						if in, _ := set.Has(x.Pairs, slices.Concat(params, a.At, b.At)); in && x.From == a.Stmt && x.To == b.Stmt {
							c, e := sched.Compare(p, s, params, a, b)
							if ok && c != -1 || e != api.OK {
								t.Fatalf("%d: %v and %v are turned in a legal schedule", i, a, b)
							}
						}
					}
					checkPartition(t, p, s, d, turned, right, params, a, b)
				}
			}
		}
	}
	if good < 5 || bad < 5 {
		t.Errorf("%d legal, %d not", good, bad)
	}
}

// checkPartition checks that a pair is at one level, on the side that the times say.
func checkPartition(t *testing.T, p api.Program, s api.Sched, d api.Dep, turned, right []api.Set, params []int, a, b api.Inst) {
	t.Helper()
	x := slices.Concat(params, a.At, b.At)
	if in, _ := set.Has(d.Pairs, x); !in || d.From != a.Stmt || d.To != b.Stmt {
		return
	}
	u, _ := sched.Time(p, s, params, a)
	v, _ := sched.Time(p, s, params, b)
	level := 0
	for level < len(u) && u[level] == v[level] {
		level++
	}
	order, _ := sched.Compare(p, s, params, a, b)
	for k := range turned {
		back, _ := set.Has(turned[k], x)
		forth, _ := set.Has(right[k], x)
		if back != (k == level && order > 0) || forth != (k == level && order < 0) {
			t.Fatalf("%v and %v at row %d: %v, %v; level %d, order %d", a, b, k, back, forth, level, order)
		}
	}
}

// P18.8.
func TestSource(t *testing.T) {
	for _, text := range []string{
		shift, grid, mixed, "array S; S = 1; S = S + 1;", "param n; array A[2 n + 2]; for i = 0 to n { if { n, i : 2 | i } { A[i] = A[n - i]; for j = i to n step 2 { A[j] = A[i + j] + 1; } } else { A[2 i] = A[i]; } A[0] = 1; } for i = 0 to n { A[i] = A[i + 1]; }",
	} {
		p := parse(t, text)
		s, e := sched.Source(p)
		if e != api.OK {
			t.Fatal(e)
		}
		if ok, w, e := legal.Legal(p, deps(t, p), s); !ok || e != api.OK {
			t.Errorf("%q: %v, %v, %d", text, ok, w, e)
		}
	}
}

// P18.9.
func TestBands(t *testing.T) {
	r := rand.New(rand.NewSource(20))
	bands := 0
	for range 60 {
		p := parse(t, []string{shift, grid, mixed}[r.Intn(3)])
		l := deps(t, p)
		s := random(t, r, p)
		rows := len(s.Rows[0])
		from := r.Intn(rows)
		to := from + 1 + r.Intn(rows-from)
		clear := func(s api.Sched, k int) bool {
			for _, d := range l {
				for i := range k {
					b, e := legal.Turned(p, d, s, i)
					if e != api.OK {
						t.Fatal(e)
					}
					if len(b.Pieces) > 0 {
						return false
					}
				}
			}
			return true
		}
		ok, _, e := legal.Band(p, l, s, from, to)
		if e != api.OK {
			t.Fatal(e)
		}
		if !ok || !clear(s, from) {
			continue
		}
		bands++
		for range 3 {
			q := api.Sched{}
			perm := r.Perm(to - from)
			for k := range s.Rows {
				q.Rows = append(q.Rows, slices.Clone(s.Rows[k]))
				for i, j := range perm {
					q.Rows[k][from+i] = s.Rows[k][from+j]
				}
			}
			if !clear(q, to) {
				t.Fatalf("%v: the rows from %d to %d are no band", q, from, to)
			}
		}
	}
	if bands < 8 {
		t.Errorf("%d bands", bands)
	}
}
