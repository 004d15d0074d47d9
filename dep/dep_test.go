package dep_test

import (
	"headland/api"
	"headland/dep"
	"headland/elim"
	"headland/lang"
	"headland/run"
	"headland/set"
	"headland/settext"
	"headland/source"
	"math"
	"slices"
	"strconv"
	"strings"
	"testing"
)

func parse(t *testing.T, text string) api.Program {
	t.Helper()
	p, e := source.Parse(text)
	if e != api.OK {
		t.Fatalf("Parse(%q): %d", text, e)
	}
	return p
}

func same(a, b api.Set) bool {
	return a.Dim == b.Dim && slices.EqualFunc(a.Pieces, b.Pieces, func(p, q []api.Cond) bool {
		return slices.EqualFunc(p, q, func(a, b api.Cond) bool {
			return a.Kind == b.Kind && a.M == b.M && a.L.K == b.L.K && slices.Equal(a.L.C, b.L.C)
		})
	})
}

// of parses a set, and normalizes it.
func of(t *testing.T, text string) api.Set {
	t.Helper()
	_, s, e := settext.Parse(text)
	if e != api.OK {
		t.Fatalf("Parse(%q): %d", text, e)
	}
	s, e = set.Normal(s)
	if e != api.OK {
		t.Fatal(e)
	}
	return s
}

const shift = "param n; array A[n + 1]; for i = 0 to n - 1 { A[i] = A[i + 1] + 1; }"

// grid has three dependences; the sum has all kinds.
const grid = "param n; array A[n + 1][n + 1]; for i = 1 to n { for j = 1 to n { A[i][j] = A[i - 1][j] + A[i][j - 1]; } }"

const sum = "param n; array S; array A[n]; for i = 0 to n - 1 { S = S + A[i]; }"

func uses(t *testing.T, p api.Program) []api.Access {
	t.Helper()
	l, e := lang.Uses(p)
	if e != api.OK {
		t.Fatal(e)
	}
	return l
}

// P14.1.
func TestPairs(t *testing.T) {
	p := parse(t, shift)
	u := uses(t, p)
	s, e := dep.Pairs(p, u[1], u[0])
	if want := of(t, "{ n, i, j : n >= 0 and n <= 1000 and i >= 0 and i <= n - 1 and j >= 0 and j <= n - 1 and i + 1 - j = 0 and j > i }"); e != api.OK || !same(s, want) {
		t.Errorf("%v, %d; want %v", s, e, want)
	}
	// The pairs the other way round, and of the write with itself, are void.
	for _, x := range [][2]int{{0, 1}, {0, 0}} {
		if s, e := dep.Pairs(p, u[x[0]], u[x[1]]); e != api.OK || s.Dim != 3 || len(s.Pieces) != 0 {
			t.Errorf("%v: %v, %d", x, s, e)
		}
	}
	if s, e := dep.Pairs(p, u[1], u[1]); e != api.ErrArg || s.Dim != 0 {
		t.Errorf("two reads: %v, %d", s, e)
	}
	q := parse(t, sum)
	v := uses(t, q)
	for _, x := range []struct{ a, b int }{{0, 2}, {2, 0}, {1, 2}} {
		if s, e := dep.Pairs(q, v[x.a], v[x.b]); e != api.ErrArg || s.Dim != 0 {
			t.Errorf("accesses to other arrays: %v, %d", s, e)
		}
	}
	want := of(t, "{ n, i, j : n >= 0 and n <= 1000 and i >= 0 and i <= n - 1 and j >= 0 and j <= n - 1 and j > i }")
	for _, x := range []struct{ a, b int }{{0, 0}, {0, 1}, {1, 0}} {
		if s, e := dep.Pairs(q, v[x.a], v[x.b]); e != api.OK || !same(s, want) {
			t.Errorf("%v: %v, %d", x, s, e)
		}
	}
}

func TestPairsErrors(t *testing.T) {
	p := parse(t, shift)
	u := uses(t, p)
	change := func(f func(a *api.Access)) api.Access {
		a := api.Access{Stmt: 0, Pos: 1, R: api.Ref{Subs: []api.Lin{{C: []int{0, 1}, K: 1}}}}
		f(&a)
		return a
	}
	if s, e := dep.Pairs(p, change(func(*api.Access) {}), u[0]); e != api.OK || s.Dim != 3 {
		t.Errorf("%v, %d", s, e)
	}
	for i, a := range []api.Access{
		{}, change(func(a *api.Access) { a.Stmt = 1 }), change(func(a *api.Access) { a.Stmt = -1 }), change(func(a *api.Access) { a.Pos = 2 }), change(func(a *api.Access) { a.Pos = 0 }), change(func(a *api.Access) { a.Write = true }), change(func(a *api.Access) { a.R.Array = 1 }), change(func(a *api.Access) { a.R.Subs[0].K = 2 }), change(func(a *api.Access) { a.R.Subs[0].C[0] = 1 }), change(func(a *api.Access) { a.R.Subs = nil }), change(func(a *api.Access) { a.Stmt = math.MaxInt }),
	} {
		if s, e := dep.Pairs(p, a, u[0]); e != api.ErrNone || s.Dim != 0 {
			t.Errorf("%d: %v, %d", i, s, e)
		}
		if s, e := dep.Pairs(p, u[1], a); e != api.ErrNone || s.Dim != 0 {
			t.Errorf("%d: %v, %d", i, s, e)
		}
	}
	bad := api.Program{Params: []string{"to"}}
	_, e1 := dep.Pairs(bad, u[0], u[1])
	l, e2 := dep.All(bad)
	_, e3 := dep.Cells(bad, api.Dep{Pairs: api.Set{Dim: -1}})
	_, e4 := dep.Levels(bad, api.Dep{Pairs: api.Set{Dim: -1}})
	_, _, e5 := dep.Distance(bad, api.Dep{Pairs: api.Set{Dim: -1}}, 9)
	if got := []api.Errno{e1, e2, e3, e4, e5}; !slices.Equal(got, slices.Repeat([]api.Errno{api.ErrArg}, 5)) || len(l) != 0 {
		t.Errorf("an invalid program: %v", got)
	}
	// 1 parameter and 5 + 6 loops fit, 6 + 6 do not.
	deep := parse(t, "param n; array S; for a = 0 to 1 { for b = 0 to 1 { for c = 0 to 1 { for d = 0 to 1 { for e = 0 to 1 { S = 1; for f = 0 to 1 { S = 2; } } } } } }")
	d := uses(t, deep)
	if s, e := dep.Pairs(deep, d[0], d[1]); e != api.OK || s.Dim != 12 {
		t.Errorf("12 variables: %d, %d", s.Dim, e)
	}
	if s, e := dep.Pairs(deep, d[1], d[1]); e != api.ErrFull || s.Dim != 0 {
		t.Errorf("13 variables: %d, %d", s.Dim, e)
	}
	if l, e := dep.All(deep); e != api.ErrFull || len(l) != 0 {
		t.Errorf("13 variables: %v, %d", l, e)
	}
	// An assignment whose domain is refused matters only where it is used.
	refused := parse(t, "array S; array T; for i = 0 to 9 { if { i : 509 | i } { S = 1; } else { T = 1; } }")
	if l, e := dep.All(refused); e != api.ErrFull || len(l) != 0 {
		t.Errorf("a refused domain: %v, %d", l, e)
	}
	r := uses(t, refused)
	if _, e := dep.Pairs(refused, r[0], r[0]); e != api.OK {
		t.Errorf("a refused domain of another assignment: %d", e)
	}
	if _, e := dep.Pairs(refused, r[1], r[1]); e != api.ErrFull {
		t.Errorf("a refused domain: %d", e)
	}
}

func TestRefused(t *testing.T) {
	// The domains of 21 and of 20 pieces meet in 420 pieces.
	parts := func(n int) string {
		l := []string{}
		for i := range n {
			l = append(l, "0 - "+strconv.Itoa(i+1)+" i")
		}
		return strings.Join(l, ", ")
	}
	text := func(n int) string {
		return "array S; for i = 0 to 9 { for j = min(" + parts(n) + ") to 3 { S = 1; } for j = min(" + parts(20) + ") to 3 { S = 2; } }"
	}
	for n, want := range map[int]api.Errno{20: api.OK, 21: api.ErrFull} {
		p := parse(t, text(n))
		u := uses(t, p)
		// The order of the second assignment and the first one has one piece: a later i.
		s, e := dep.Pairs(p, u[1], u[0])
		if e != want || e == api.OK && len(s.Pieces) != 400 {
			t.Errorf("%d parts: %d pieces, %d", n, len(s.Pieces), e)
		}
	}
	// Whether there are such pairs cannot be decided.
	p := parse(t, "array S; for i = 0 to 9999 { for j = 0 to 9999 { if { i, j : 600 i = 601 j } { S = 1; } } }")
	u := uses(t, p)
	if _, e := dep.Pairs(p, u[0], u[0]); e != api.OK {
		t.Errorf("Pairs: %d", e)
	}
	if l, e := dep.All(p); e != api.ErrFull || len(l) != 0 {
		t.Errorf("All: %v, %d", l, e)
	}
}

type short struct{ kind, array, from, fromPos, to, toPos int }

func shorts(l []api.Dep) (r []short) {
	for _, d := range l {
		r = append(r, short{d.Kind, d.Array, d.From, d.FromPos, d.To, d.ToPos})
	}
	return r
}

// P14.2.
func TestAll(t *testing.T) {
	for _, x := range []struct {
		text string
		want []short
	}{
		{shift, []short{{api.Anti, 0, 0, 1, 0, 0}}},
		{grid, []short{{api.Flow, 0, 0, 0, 0, 1}, {api.Flow, 0, 0, 0, 0, 2}}},
		{sum, []short{{api.Out, 0, 0, 0, 0, 0}, {api.Flow, 0, 0, 0, 0, 1}, {api.Anti, 0, 0, 1, 0, 0}}},
		{"array S; array T; S = T; T = S; S = 1;", []short{{api.Flow, 0, 0, 0, 1, 1}, {api.Out, 0, 0, 0, 2, 0}, {api.Anti, 1, 0, 1, 1, 0}, {api.Anti, 0, 1, 1, 2, 0}}},
		{"array A[9]; A[1] = A[2]; A[2] = A[3];", []short{{api.Anti, 0, 0, 1, 1, 0}}},
		{"param n; array A[9]; for i = 0 to n { A[2 i] = A[2 i + 1]; }", nil}, {"", nil}, {"array S; if { : false } { S = 1; } S = 2;", nil},
	} {
		l, e := dep.All(parse(t, x.text))
		if e != api.OK || !slices.Equal(shorts(l), x.want) {
			t.Errorf("All of %q: %v, %d; want %v", x.text, shorts(l), e, x.want)
		}
		p := parse(t, x.text)
		u := uses(t, p)
		for _, d := range l {
			at := func(s, pos int) api.Access {
				return u[slices.IndexFunc(u, func(a api.Access) bool { return a.Stmt == s && a.Pos == pos })]
			}
			s, e := dep.Pairs(p, at(d.From, d.FromPos), at(d.To, d.ToPos))
			if e != api.OK || !same(s, d.Pairs) {
				t.Errorf("the pairs of %v: %v, %v", d, s, d.Pairs)
			}
		}
	}
}

// P14.3.
func TestCells(t *testing.T) {
	p := parse(t, shift)
	l, _ := dep.All(p)
	s, e := dep.Cells(p, l[0])
	if same, f := elim.Same(s, of(t, "{ n, x : n <= 1000 and x >= 1 and x <= n - 1 }")); e != api.OK || f != api.OK || !same {
		t.Errorf("Cells: %v, %d", s, e)
	}
	q := parse(t, grid)
	l, _ = dep.All(q)
	for i, d := range l {
		s, e := dep.Cells(q, d)
		want := []string{"{ n, x, y : n <= 1000 and x >= 1 and x <= n - 1 and y >= 1 and y <= n }", "{ n, x, y : n <= 1000 and x >= 1 and x <= n and y >= 1 and y <= n - 1 }"}[i]
		if same, f := elim.Same(s, of(t, want)); e != api.OK || f != api.OK || !same {
			t.Errorf("Cells(%d): %v, %d", i, s, e)
		}
	}
	// What is asked about need not be a dependence that All finds: the cells are those of From's access.
	d := api.Dep{Kind: 77, Array: 0, From: 0, FromPos: 1, To: 0, ToPos: 1, Pairs: of(t, "{ n, i, j : i = 3 and j = 8 and n = 2 }")}
	if s, e := dep.Cells(p, d); e != api.OK || !same(s, of(t, "{ n, x : n = 2 and x = 4 }")) {
		t.Errorf("Cells: %v, %d", s, e)
	}
	scalar := parse(t, sum)
	d = api.Dep{Array: 0, From: 0, To: 0, Pairs: of(t, "{ n, i, j : i > j }")}
	if s, e := dep.Cells(scalar, d); e != api.OK || !same(s, of(t, "{ n : true }")) {
		t.Errorf("Cells: %v, %d", s, e)
	}
}

func TestDepErrors(t *testing.T) {
	p := parse(t, sum)
	good := func() api.Dep {
		return api.Dep{Kind: api.Flow, Array: 0, From: 0, FromPos: 0, To: 0, ToPos: 1, Pairs: api.Set{Dim: 3}}
	}
	if _, e := dep.Cells(p, good()); e != api.OK {
		t.Errorf("%d", e)
	}
	for i, x := range []struct {
		change func(d *api.Dep)
		e      api.Errno
	}{
		{func(d *api.Dep) { d.Pairs.Dim = -1 }, api.ErrArg}, {func(d *api.Dep) { d.Pairs.Pieces = [][]api.Cond{{{}}} }, api.ErrArg}, {func(d *api.Dep) { d.Pairs.Dim, d.From = 13, 9 }, api.ErrArg},
		{func(d *api.Dep) { d.From = 1 }, api.ErrNone}, {func(d *api.Dep) { d.From = -1 }, api.ErrNone}, {func(d *api.Dep) { d.To = 1 }, api.ErrNone}, {func(d *api.Dep) { d.To = math.MinInt }, api.ErrNone}, {func(d *api.Dep) { d.FromPos = 3 }, api.ErrNone}, {func(d *api.Dep) { d.ToPos = 3 }, api.ErrNone}, {func(d *api.Dep) { d.ToPos = -1 }, api.ErrNone}, {func(d *api.Dep) { d.FromPos = math.MaxInt }, api.ErrNone},
		{func(d *api.Dep) { d.Pairs.Dim = 2 }, api.ErrNone}, {func(d *api.Dep) { d.Pairs.Dim = 4 }, api.ErrNone}, {func(d *api.Dep) { d.Array = 1 }, api.ErrNone}, {func(d *api.Dep) { d.Array = 5 }, api.ErrNone}, {func(d *api.Dep) { d.FromPos = 2 }, api.ErrNone}, {func(d *api.Dep) { d.ToPos = 2 }, api.ErrNone},
	} {
		d := good()
		x.change(&d)
		s, e1 := dep.Cells(p, d)
		l, e2 := dep.Levels(p, d)
		a, b, e3 := dep.Distance(p, d, 5)
		if e1 != x.e || e2 != x.e || e3 != x.e || s.Dim != 0 || len(l) != 0 || a != 0 || b != 0 {
			t.Errorf("%d: %d, %d, %d, want %d", i, e1, e2, e3, x.e)
		}
	}
	// The subscripts of the cells do not fit.
	deep := parse(t, "param n; array A[1][1][1]; for a = 0 to 1 { for b = 0 to 1 { for c = 0 to 1 { for d = 0 to 1 { for e = 0 to 1 { A[a][b][c] = 1; } } } } }")
	d := api.Dep{Array: 0, Pairs: api.Set{Dim: 11}}
	if s, e := dep.Cells(deep, d); e != api.ErrFull || s.Dim != 0 {
		t.Errorf("14 variables: %v, %d", s, e)
	}
	if l, e := dep.Levels(deep, d); e != api.OK || len(l) != 6 {
		t.Errorf("Levels: %v, %d", l, e)
	}
	refused := good()
	refused.Pairs.Pieces = [][]api.Cond{{{Kind: api.Eq, L: api.Lin{C: []int{0, 600, 601}}}}}
	if s, e := dep.Cells(p, refused); e != api.ErrFull || s.Dim != 0 {
		t.Errorf("Cells: %v, %d", s, e)
	}
}

// P14.4.
func TestLevels(t *testing.T) {
	p := parse(t, grid)
	l, _ := dep.All(p)
	levels, e := dep.Levels(p, l[0])
	if e != api.OK || len(levels) != 3 {
		t.Fatalf("%v, %d", levels, e)
	}
	for k, text := range []string{"{ n, i, j, x, y : x - i - 1 >= 0 }", "{ n, i, j, x, y : x = i and y - j - 1 >= 0 }", "{ n, i, j, x, y : x = i and y = j }"} {
		want, _ := set.Meet(l[0].Pairs, of(t, text))
		if !same(levels[k], want) {
			t.Errorf("level %d: %v, want %v", k, levels[k], want)
		}
	}
	// The pairs of other assignments, with one common loop of two.
	q := parse(t, "param n; array S; for i = 0 to n { for j = 0 to n { S = 1; } S = S + 2; }")
	d := api.Dep{Array: 0, From: 0, To: 1, ToPos: 1, Pairs: of(t, "{ n, i, j, x : i + j <= 5 }")}
	levels, e = dep.Levels(q, d)
	if e != api.OK || len(levels) != 2 || !same(levels[0], of(t, "{ n, i, j, x : i + j <= 5 and x > i }")) || !same(levels[1], of(t, "{ n, i, j, x : i + j <= 5 and x = i }")) {
		t.Errorf("%v, %d", levels, e)
	}
	many := api.Set{Dim: 4}
	for i := range 400 {
		many.Pieces = append(many.Pieces, []api.Cond{{Kind: api.Eq, L: api.Lin{C: []int{1, 0, 0, 0}, K: -i}}})
	}
	d.Pairs = many
	if levels, e = dep.Levels(q, d); e != api.OK || len(levels[1].Pieces) != 400 {
		t.Errorf("%d, %d", len(levels), e)
	}
	long := of(t, "{ n, i, j, x : true }")
	long.Pieces[0] = nil
	for k := range 96 {
		long.Pieces[0] = append(long.Pieces[0], api.Cond{Kind: api.Ge, L: api.Lin{C: []int{1, k + 1, 0, 0}}})
	}
	d.Pairs = long
	if levels, e = dep.Levels(q, d); e != api.ErrFull || len(levels) != 0 {
		t.Errorf("97 conditions: %d, %d", len(levels), e)
	}
}

// P14.5.
func TestDistance(t *testing.T) {
	q := parse(t, "param n; array S; array A[9]; for i = 0 to n { for j = 0 to n { S = A[0]; } S = S + 2; }")
	for _, x := range []struct {
		text      string
		k         int
		low, high int
		e         api.Errno
	}{
		{"{ n, i, j, x : i >= 0 and i <= 5 and x >= i + 1 and x <= i + 3 }", 0, 1, 3, api.OK}, {"{ n, i, j, x : x = i - 4 }", 0, -4, -4, api.OK}, {"{ n, i, j, x : x >= i }", 0, 0, 0, api.ErrRange}, {"{ n, i, j, x : x <= i }", 0, 0, 0, api.ErrRange}, {"{ n, i, j, x : false }", 0, 0, 0, api.ErrNone}, {"{ n, i, j, x : true }", 1, 0, 0, api.ErrRange}, {"{ n, i, j, x : n = 1 and i = 2 and j = 3 and x = i }", -1, 0, 0, api.ErrRange}, {"{ n, i, j, x : n = 1 and i = 2 and j = 3 and x = i }", 1, 0, 0, api.ErrRange}, {"{ n, i, j, x : x = i }", math.MaxInt, 0, 0, api.ErrRange}, {"{ n, i, j, x : 600 i = 601 j and x = i }", 0, 0, 0, api.ErrFull},
	} {
		d := api.Dep{Array: 0, From: 0, To: 1, ToPos: 1, Pairs: of(t, x.text)}
		if low, high, e := dep.Distance(q, d, x.k); low != x.low || high != x.high || e != x.e {
			t.Errorf("Distance of %q, %d: %d, %d, %d", x.text, x.k, low, high, e)
		}
	}
	p := parse(t, grid)
	l, _ := dep.All(p)
	for i, want := range [][2]int{{1, 0}, {0, 1}} {
		for k := range 2 {
			if low, high, e := dep.Distance(p, l[i], k); low != want[k] || high != want[k] || e != api.OK {
				t.Errorf("Distance(%d, %d): %d, %d, %d", i, k, low, high, e)
			}
		}
	}
}

// programs are some whose cells exist for n up to 4.
func programs() []string {
	return []string{
		shift, grid, sum,
		"param n; array A[20]; array B[20]; for i = 0 to n { A[i] = B[n - i]; if { n, i : 2 | i } { B[i] = A[i] + A[0]; } else { A[i - 1] = B[2]; } } for j = 1 to n { A[j] = A[j - 1] * 2; B[j] = A[n - j]; }",
		"param n; array A[20][20]; for i = 0 to n { for j = i to n step 2 { A[i][j] = A[j][i]; for k = 0 to j { A[k][i] = A[i][k] + 1; } } }",
		"param n; array A[30]; for i = 0 to n { for j = 0 to n { A[2 i + 3 j] = A[i + j] + A[20 - i]; } }",
		"param n; param m; array A[20]; for i = n to m { A[i] = A[n]; } for i = min(n, m) to max(n, m) { A[i - n + 4] = A[m]; }",
	}
}

// P14.6, P14.7, P14.8.
func TestExecutions(t *testing.T) {
	for _, text := range programs() {
		p := parse(t, text)
		deps, e := dep.All(p)
		if e != api.OK {
			t.Fatalf("All of %q: %d", text, e)
		}
		for n := range 5 {
			params := []int{n, 3}[:len(p.Params)]
			m, _ := run.Fresh(p, params, 1)
			events, e := run.Trace(p, params, m)
			if e != api.OK {
				t.Fatalf("%q, %d: %d", text, n, e)
			}
			want := map[string]bool{}
			key := func(i int, x, y api.Inst) string {
				b := []byte{byte(i)}
				for _, v := range slices.Concat(x.At, []int{99}, y.At) {
					b = append(b, byte(v))
				}
				return string(b)
			}
			done := instances(events)
			for a, x := range events {
				for _, y := range events[a+1:] {
					if x.Array != y.Array || x.Cell != y.Cell || x.Pos != 0 && y.Pos != 0 || x.Inst.Stmt == y.Inst.Stmt && slices.Equal(x.Inst.At, y.Inst.At) {
						continue
					}
					i := slices.IndexFunc(deps, func(d api.Dep) bool {
						return d.From == x.Inst.Stmt && d.FromPos == x.Pos && d.To == y.Inst.Stmt && d.ToPos == y.Pos
					})
					if i < 0 {
						t.Fatalf("%q: no dependence of %v and %v", text, x, y)
					}
					want[key(i, x.Inst, y.Inst)] = true
				}
			}
			for i, d := range deps {
				for _, x := range done[d.From] {
					for _, y := range done[d.To] {
						in, e := set.Has(d.Pairs, slices.Concat(params, x.At, y.At))
						if e != api.OK || in != want[key(i, x, y)] {
							t.Fatalf("%q, %v: %v and %v in dependence %d: %v, %d", text, params, x, y, i, in, e)
						}
					}
				}
			}
		}
	}
}

// instances returns the executed instances of each assignment.
func instances(events []run.Event) map[int][]api.Inst {
	r := map[int][]api.Inst{}
	for _, x := range events {
		if x.Pos == 0 {
			r[x.Inst.Stmt] = append(r[x.Inst.Stmt], x.Inst)
		}
	}
	return r
}

// P14.6: pairs are about executed instances only.
func TestExecuted(t *testing.T) {
	p := parse(t, "param n; array S; for i = 0 to n { if { n, i : 2 | i } { S = 1; } }")
	l, e := dep.All(p)
	if e != api.OK || len(l) != 1 {
		t.Fatal(e)
	}
	for i := -3; i <= 8; i++ {
		for j := -3; j <= 8; j++ {
			in, _ := set.Has(l[0].Pairs, []int{6, i, j})
			if want := i >= 0 && j <= 6 && i < j && i%2 == 0 && j%2 == 0; in != want {
				t.Errorf("%d, %d: %v", i, j, in)
			}
		}
	}
}
