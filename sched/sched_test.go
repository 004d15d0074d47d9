package sched_test

import (
	"headland/api"
	"headland/lang"
	"headland/run"
	"headland/sched"
	"headland/source"
	"math"
	"math/rand"
	"slices"
	"strings"
	"testing"
)

const (
	most = api.MaxCoef
	far  = api.MaxCoord
)

func parse(t *testing.T, text string) api.Program {
	t.Helper()
	p, e := source.Parse(text)
	if e != api.OK {
		t.Fatalf("Parse(%q): %d", text, e)
	}
	return p
}

func row(div, k int, c ...int) api.Row { return api.Row{L: api.Lin{C: c, K: k}, Div: div} }

func rows(l ...[]api.Row) api.Sched { return api.Sched{Rows: l} }

func same(a, b api.Sched) bool {
	return slices.EqualFunc(a.Rows, b.Rows, func(a, b []api.Row) bool {
		return slices.EqualFunc(a, b, func(a, b api.Row) bool {
			return a.Div == b.Div && a.L.K == b.L.K && slices.Equal(a.L.C, b.L.C)
		})
	})
}

// two has an assignment with the space n, i and one with the space n, i, j.
const two = "param n; array A[n]; array B[n]; for i = 0 to n - 1 { A[i] = 1; for j = 0 to i { B[j] = A[i]; } }"

func zeros(n int) []int { return make([]int, n) }

// P17.1.
func TestCheck(t *testing.T) {
	p := parse(t, two)
	for _, x := range []struct {
		s api.Sched
		e api.Errno
	}{
		{rows(nil, nil), api.OK}, {rows([]api.Row{row(1, 0, 0, 1)}, []api.Row{row(64, -most, most, 0, 1)}), api.OK}, {rows(slices.Repeat([]api.Row{row(1, 0, 0, 1)}, 8), slices.Repeat([]api.Row{row(1, 0, 0, 1, 0)}, 8)), api.OK},
		{rows(), api.ErrDim}, {rows(nil), api.ErrDim}, {rows(nil, nil, nil), api.ErrDim}, {rows([]api.Row{row(1, 0, 0, 1)}, nil), api.ErrDim}, {rows(nil, []api.Row{row(1, 0, 0, 1, 0)}), api.ErrDim},
		{rows(make([]api.Row, 9), nil), api.ErrFull}, {rows(nil, make([]api.Row, 9)), api.ErrFull}, {rows(make([]api.Row, 9), nil, nil), api.ErrDim},
		{rows([]api.Row{row(1, most+1, 0, 1)}, []api.Row{row(1, 0, 0, 1, 0)}), api.ErrArg}, {rows([]api.Row{row(1, 0, 0, 1)}, []api.Row{row(0, 0, 0, 0, -most-1)}), api.ErrArg}, {rows([]api.Row{row(0, 0, zeros(13)...)}, []api.Row{row(1, 0, 0, 1, 0)}), api.ErrArg},
		{rows([]api.Row{row(0, 0, 0)}, []api.Row{row(1, 0, 0, 1, 0)}), api.ErrDim}, {rows([]api.Row{row(1, 0, 0, 1, 0)}, []api.Row{row(1, 0, 0, 1, 0)}), api.ErrDim}, {rows([]api.Row{row(1, 0, 0, 1)}, []api.Row{row(65, 0, 0, 1)}), api.ErrDim},
		{rows([]api.Row{row(0, 0, 0, 1)}, []api.Row{row(1, 0, 0, 1, 0)}), api.ErrRange}, {rows([]api.Row{row(1, 0, 0, 1)}, []api.Row{row(65, 0, 0, 1, 0)}), api.ErrRange}, {rows([]api.Row{row(-1, 0, 0, 1)}, []api.Row{row(1, 0, 0, 1, 0)}), api.ErrRange}, {rows([]api.Row{row(math.MinInt, 0, 0, 1)}, []api.Row{row(1, 0, 0, 1, 0)}), api.ErrRange},
		// The first row that is wrong counts, list by list.
		{rows([]api.Row{row(0, 0, 0, 1), row(1, most+1, 0, 1)}, []api.Row{row(1, 0, 0), row(1, 0, 0)}), api.ErrRange}, {rows([]api.Row{row(1, 0, 0, 1), row(1, 0, 0)}, []api.Row{row(1, most+1, 0, 1, 0), row(1, 0, 0, 1, 0)}), api.ErrDim},
	} {
		e := sched.Check(p, x.s)
		_, e1 := sched.Time(p, x.s, nil, api.Inst{Stmt: -1})
		_, e2 := sched.Compare(p, x.s, nil, api.Inst{Stmt: -1}, api.Inst{})
		_, e3 := sched.Join(p, x.s, rows())
		_, e4 := sched.Join(p, rows(nil, nil), x.s)
		_, e5 := sched.Part(p, x.s, -1, 99)
		_, e6 := sched.Text(p, x.s)
		want := []api.Errno{x.e, x.e, x.e, x.e, x.e, x.e, x.e}
		if x.e == api.OK {
			want = []api.Errno{api.OK, api.ErrDim, api.ErrDim, api.ErrDim, api.OK, api.ErrRange, api.OK}
		}
		if got := []api.Errno{e, e1, e2, e3, e4, e5, e6}; !slices.Equal(got, want) {
			t.Errorf("%v: %v, want %v", x.s, got, want)
		}
	}
	bad := api.Program{Params: []string{"to"}}
	e0 := sched.Check(bad, rows(nil, nil))
	_, e1 := sched.Time(bad, rows(nil), nil, api.Inst{})
	_, e2 := sched.Compare(bad, rows(nil), nil, api.Inst{}, api.Inst{})
	_, e3 := sched.Source(bad)
	_, e4 := sched.Join(bad, rows(nil), rows())
	_, e5 := sched.Part(bad, rows(nil), 5, 1)
	_, e6 := sched.Text(bad, rows(nil))
	_, e7 := sched.Parse(bad, strings.Repeat(" ", api.MaxText+1))
	if l := []api.Errno{e0, e1, e2, e3, e4, e5, e6, e7}; !slices.Equal(l, slices.Repeat([]api.Errno{api.ErrArg}, 8)) {
		t.Errorf("an invalid program: %v", l)
	}
	if e := sched.Check(api.Program{}, rows()); e != api.OK {
		t.Errorf("the empty program: %d", e)
	}
}

// P17.2.
func TestTime(t *testing.T) {
	p := parse(t, two)
	s := rows([]api.Row{row(1, 3, 1, -2), row(4, 0, 0, 1), row(64, most, most, most)}, []api.Row{row(1, 0, 0, 0, 1), row(3, -1, 0, 1, 1), row(1, 7, 0, 0, 0)})
	for _, x := range []struct {
		params []int
		x      api.Inst
		time   []int
		e      api.Errno
	}{
		{[]int{5}, api.Inst{Stmt: 0, At: []int{7}}, []int{-6, 1, 13 * most / 64}, api.OK}, {[]int{5}, api.Inst{Stmt: 0, At: []int{-7}}, []int{22, -2, -most / 64}, api.OK}, {[]int{1000}, api.Inst{Stmt: 1, At: []int{-9, 4}}, []int{4, -2, 7}, api.OK}, {[]int{0}, api.Inst{Stmt: 0, At: []int{far}}, []int{3 - 2*far, far / 4, (most + most*far) / 64}, api.OK}, {[]int{0}, api.Inst{Stmt: 1, At: []int{1, 0}}, []int{0, 0, 7}, api.OK}, {[]int{0}, api.Inst{Stmt: 1, At: []int{-far, far}}, []int{far, -1, 7}, api.OK},
		{nil, api.Inst{Stmt: 9}, nil, api.ErrDim}, {[]int{1, 2}, api.Inst{Stmt: 9}, nil, api.ErrDim}, {[]int{-1}, api.Inst{Stmt: 9}, nil, api.ErrRange}, {[]int{1001}, api.Inst{Stmt: 9}, nil, api.ErrRange}, {[]int{1}, api.Inst{Stmt: 2, At: []int{1}}, nil, api.ErrNone}, {[]int{1}, api.Inst{Stmt: -1, At: []int{1}}, nil, api.ErrNone}, {[]int{1}, api.Inst{Stmt: math.MaxInt}, nil, api.ErrNone},
		{[]int{1}, api.Inst{Stmt: 0}, nil, api.ErrDim}, {[]int{1}, api.Inst{Stmt: 0, At: []int{far + 1, 0}}, nil, api.ErrDim}, {[]int{1}, api.Inst{Stmt: 1, At: []int{far + 1}}, nil, api.ErrDim}, {[]int{1}, api.Inst{Stmt: 0, At: []int{far + 1}}, nil, api.ErrRange}, {[]int{1}, api.Inst{Stmt: 1, At: []int{0, -far - 1}}, nil, api.ErrRange}, {[]int{1}, api.Inst{Stmt: 1, At: []int{math.MinInt, 0}}, nil, api.ErrRange},
	} {
		if l, e := sched.Time(p, s, x.params, x.x); !slices.Equal(l, x.time) || e != x.e {
			t.Errorf("Time(%v, %v) = %v, %d", x.params, x.x, l, e)
		}
		if x.e == api.OK {
			continue
		}
		good := api.Inst{Stmt: 0, At: []int{1}}
		if n, e := sched.Compare(p, s, x.params, x.x, good); n != 0 || e != x.e {
			t.Errorf("Compare(%v, %v) = %d, %d", x.params, x.x, n, e)
		}
		if n, e := sched.Compare(p, s, x.params, good, x.x); n != 0 || e != x.e {
			t.Errorf("Compare(%v, .., %v) = %d, %d", x.params, x.x, n, e)
		}
	}
	if n, e := sched.Compare(p, s, []int{1}, api.Inst{Stmt: 0}, api.Inst{Stmt: 5}); n != 0 || e != api.ErrDim {
		t.Errorf("two errors: %d, %d", n, e)
	}
}

// P17.3, P17.7.
func TestCompare(t *testing.T) {
	p := parse(t, two)
	s := rows([]api.Row{row(2, 0, 0, 1), row(1, 0, 0, 0)}, []api.Row{row(2, 0, 0, 1, 0), row(3, 0, 0, 0, 1)})
	at := func(s int, x ...int) api.Inst { return api.Inst{Stmt: s, At: x} }
	sorted := []api.Inst{at(0, -2), at(0, -1), at(1, 0, -3), at(0, 0), at(0, 1), at(1, 0, 0), at(1, 0, 1), at(1, 0, 2), at(1, 1, 0), at(1, 1, 2), at(1, 0, 3), at(1, 1, 3), at(1, 2, -1), at(0, 2)}
	for i, a := range sorted {
		for j, b := range sorted {
			want := 0
			if i < j {
				want = -1
			} else if i > j {
				want = 1
			}
			if n, e := sched.Compare(p, s, []int{3}, a, b); n != want || e != api.OK {
				t.Errorf("Compare(%v, %v) = %d, %d", a, b, n, e)
			}
		}
	}
	// Any schedule gives a total order.
	r := rand.New(rand.NewSource(17))
	for range 50 {
		some := func(n int) api.Row { return row(r.Intn(4)+1, r.Intn(5)-2, zeros(n)...) }
		s := rows(nil, nil)
		for range r.Intn(3) {
			a, b := some(2), some(3)
			a.L.C[1], b.L.C[1], b.L.C[2] = r.Intn(3)-1, r.Intn(3)-1, r.Intn(3)-1
			s.Rows[0], s.Rows[1] = append(s.Rows[0], a), append(s.Rows[1], b)
		}
		compare := func(a, b api.Inst) int {
			n, e := sched.Compare(p, s, []int{2}, a, b)
			if e != api.OK {
				t.Fatal(e)
			}
			return n
		}
		l := slices.Clone(sorted)
		slices.SortFunc(l, compare)
		for i := range l {
			for j := range l {
				if n := compare(l[i], l[j]); n != -1 && i < j || n != 1 && i > j || n != 0 && i == j {
					t.Fatalf("%v: %v and %v are not in order", s, l[i], l[j])
				}
			}
		}
	}
}

// P17.4.
func TestSource(t *testing.T) {
	for _, x := range []struct{ text, want string }{
		{two, "S0: (0 1 0) (0 0 0) (0 0 0) (0 0 0)\nS1: (0 1 0 0) (0 0 0 1) (0 0 1 0) (0 0 0 1)\n"},
		{"", ""}, {"array S; S = 1;", "S0:\n"}, {"array S; S = 1; S = 2;", "S0: (0)\nS1: (1)\n"}, {"param n; array S; for i = 0 to n { S = 1; }", "S0: (0 1 0)\n"}, {"param n; array S; for i = 0 to n { for j = 0 to n { S = 1; } }", "S0: (0 1 0 0) (0 0 1 0)\n"},
		{"array S; for i = 0 to 9 { S = 1; } for i = 0 to 9 { S = 2; S = 3; } S = 4;", "S0: (0 0) (1 0) (0 0)\nS1: (0 1) (1 0) (0 1)\nS2: (0 1) (1 0) (0 2)\nS3: (3) (0) (0)\n"},
		{"array S; for i = 0 to 9 { if { i : true } { S = 1; } else { for j = 0 to 9 { S = 2; } } S = 3; }", "S0: (1 0) (0 0) (0 0) (0 0)\nS1: (1 0 0) (0 0 1) (0 1 0) (0 0 1)\nS2: (1 0) (0 2) (0 0) (0 0)\n"},
		{"array S; if { : true } { for i = 0 to 9 { if { i : true } { for j = 0 to 9 { S = 1; } } } }", "S0: (1 0 0) (0 1 0)\n"},
		{"array S; for i = 0 to 9 { for j = 0 to 9 { S = 1; } } for i = 0 to 9 { for j = 0 to 9 { S = 2; } }", "S0: (0 0 0) (1 0 0) (0 0 0) (0 1 0) (0 0 0)\nS1: (0 0 1) (1 0 0) (0 0 1) (0 1 0) (0 0 1)\n"},
		{"array S; for a = 0 to 1 { for b = 0 to 1 { for c = 0 to 1 { for d = 0 to 1 { for e = 0 to 1 { for f = 0 to 1 { for g = 0 to 1 { for h = 0 to 1 { S = 1; } } } } } } } }", "S0: (1 0 0 0 0 0 0 0 0) (0 1 0 0 0 0 0 0 0) (0 0 1 0 0 0 0 0 0) (0 0 0 1 0 0 0 0 0) (0 0 0 0 1 0 0 0 0) (0 0 0 0 0 1 0 0 0) (0 0 0 0 0 0 1 0 0) (0 0 0 0 0 0 0 1 0)\n"},
	} {
		p := parse(t, x.text)
		s, e := sched.Source(p)
		text, f := sched.Text(p, s)
		if e != api.OK || f != api.OK || text != x.want {
			t.Errorf("Source of %q: %q, %d, %d", x.text, text, e, f)
		}
	}
	for _, text := range []string{
		"array S; for a = 0 to 1 { for b = 0 to 1 { for c = 0 to 1 { for d = 0 to 1 { for e = 0 to 1 { for f = 0 to 1 { for g = 0 to 1 { for h = 0 to 1 { for i = 0 to 1 { S = 1; } } } } } } } } }",
		"array S; S = 0; for a = 0 to 1 { for b = 0 to 1 { for c = 0 to 1 { for d = 0 to 1 { S = 1; } } } }",
	} {
		if s, e := sched.Source(parse(t, text)); e != api.ErrFull || len(s.Rows) != 0 {
			t.Errorf("Source of %q: %v, %d", text, s, e)
		}
	}
}

// P17.8.
func TestSourceOrder(t *testing.T) {
	for _, text := range []string{
		two, "param n; array S; S = 0; for i = 0 to n { S = 1; if { n, i : 2 | i } { for j = i to n { S = 2; } } else { S = 3; } for j = 0 to i { S = 4; } } S = 5; for i = 0 to n { S = 6; }",
		"param n; array S; for i = 0 to n step 2 { for j = n - i to n { if { n, i, j : i < j } { S = 1; } S = 2; } } for i = -2 to 0 { S = 3; }",
	} {
		p := parse(t, text)
		s, e := sched.Source(p)
		if e != api.OK {
			t.Fatal(e)
		}
		for n := range 5 {
			insts, e := run.Insts(p, []int{n})
			if e != api.OK {
				t.Fatal(e)
			}
			for i, a := range insts {
				for _, b := range insts[i+1:] {
					if c, e := sched.Compare(p, s, []int{n}, a, b); c != -1 || e != api.OK {
						t.Fatalf("%q, %d: Compare(%v, %v) = %d, %d", text, n, a, b, c, e)
					}
				}
			}
		}
	}
}

// P17.5, P17.9.
func TestJoinPart(t *testing.T) {
	p := parse(t, two)
	s := rows([]api.Row{row(1, 3, 1, -2), row(4, 0, 0, 1), row(64, 5, 0, 0)}, []api.Row{row(1, 0, 0, 0, 1), row(3, -1, 0, 1, 1), row(1, 7, 0, 0, 0)})
	keep := rows([]api.Row{row(1, 3, 1, -2), row(4, 0, 0, 1), row(64, 5, 0, 0)}, []api.Row{row(1, 0, 0, 0, 1), row(3, -1, 0, 1, 1), row(1, 7, 0, 0, 0)})
	for k := range 4 {
		a, e := sched.Part(p, s, 0, k)
		b, f := sched.Part(p, s, k, 3)
		if e != api.OK || f != api.OK || len(a.Rows) != 2 || len(a.Rows[1]) != k || len(b.Rows[0]) != 3-k {
			t.Fatalf("Part at %d: %v, %d, %v, %d", k, a, e, b, f)
		}
		if c, e := sched.Join(p, a, b); e != api.OK || !same(c, s) {
			t.Errorf("Join of the parts at %d: %v, %d", k, c, e)
		}
	}
	middle, e := sched.Part(p, s, 1, 2)
	if e != api.OK || !same(middle, rows([]api.Row{row(4, 0, 0, 1)}, []api.Row{row(3, -1, 0, 1, 1)})) {
		t.Errorf("Part: %v, %d", middle, e)
	}
	for _, x := range [][2]int{{-1, 1}, {2, 1}, {0, 4}, {4, 4}, {math.MinInt, math.MaxInt}} {
		if r, e := sched.Part(p, s, x[0], x[1]); e != api.ErrRange || len(r.Rows) != 0 {
			t.Errorf("Part%v: %v, %d", x, r, e)
		}
	}
	double, e := sched.Join(p, s, s)
	if e != api.OK || len(double.Rows[1]) != 6 {
		t.Errorf("Join: %v, %d", double, e)
	}
	if r, e := sched.Join(p, double, s); e != api.ErrFull || len(r.Rows) != 0 {
		t.Errorf("Join of 9 rows: %v, %d", r, e)
	}
	if r, e := sched.Join(p, double, rows(s.Rows[0][:2], s.Rows[1][:2])); e != api.OK || len(r.Rows[0]) != 8 {
		t.Errorf("Join of 8 rows: %v, %d", r, e)
	}
	for i := range double.Rows {
		for j := range double.Rows[i] {
			double.Rows[i][j].L.C[0] = 99
		}
	}
	middle.Rows[0][0].L.C[0] = 98
	middle.Rows[0] = append(middle.Rows[0], row(7, 7))
	if !same(s, keep) {
		t.Error("shared memory")
	}
	empty := api.Program{}
	if r, e := sched.Part(empty, rows(), 0, 0); e != api.OK || len(r.Rows) != 0 {
		t.Errorf("Part of nothing: %v, %d", r, e)
	}
	if r, e := sched.Part(empty, rows(), 0, 1); e != api.ErrRange || len(r.Rows) != 0 {
		t.Errorf("Part of nothing: %v, %d", r, e)
	}
}

// P17.6, P17.10.
func TestText(t *testing.T) {
	p := parse(t, two)
	one := parse(t, "array S; for i = 0 to 9 { S = 1; }")
	for _, x := range []struct {
		p    api.Program
		s    api.Sched
		text string
	}{
		{one, rows([]api.Row{row(4, 0, 1)}), "S0: (1 0)/4\n"}, {one, rows(nil), "S0:\n"}, {api.Program{}, rows(), ""}, {p, rows([]api.Row{row(1, -5, 0, -1), row(64, most, -most, 12)}, []api.Row{row(2, 0, 10, 0, -3), row(1, 0, 0, 0, 0)}), "S0: (0 -1 -5) (-1048576 12 1048576)/64\nS1: (10 0 -3 0)/2 (0 0 0 0)\n"},
	} {
		if text, e := sched.Text(x.p, x.s); text != x.text || e != api.OK {
			t.Errorf("Text(%v) = %q, %d", x.s, text, e)
		}
		if s, e := sched.Parse(x.p, x.text); !same(s, x.s) || e != api.OK {
			t.Errorf("Parse(%q) = %v, %d", x.text, s, e)
		}
	}
	for _, text := range []string{
		"", "S0:", "S0: ", "S0:\n\n", "S1:\n", "S00:\n", "s0:\n", "S0 :\n", "S0:(1 0)\n", "S0: (1 0)", "S0: (1 0) \n", "S0:  (1 0)\n", "S0: (1 0)  (1 0)\n", "S0: ( 1 0)\n", "S0: (1 0 )\n", "S0: (1  0)\n", "S0: (1,0)\n", "S0: (1 0)/1\n", "S0: (1 0)/0\n", "S0: (1 0)/65\n", "S0: (1 0)/-2\n", "S0: (1 0)/04\n", "S0: (1 0)/\n", "S0: (1 0) /4\n", "S0: (01 0)\n", "S0: (-0 0)\n", "S0: (+1 0)\n", "S0: (1 0\n", "S0: 1 0)\n", "S0: (1)\n", "S0: (1 2 3)\n", "S0: ()\n", "S0: (1048577 0)\n", "S0: (99999999999999999999999 0)\n", "S0: (--1 0)\n", "S0: (1- 0)\n", "S0: (- 0)\n",
		"S0:\nS1:\n", "S0: (1 0)\nS0: (1 0)\n", "S0: (1 0)\r\n", " S0: (1 0)\n", "S0: (1 0)\n ", "S0: (1 0)x\n", "S0: " + strings.Repeat("(1 0) ", 8) + "(1 0)\n", "\x00", strings.Repeat("S0: (1 0)", 100),
	} {
		if s, e := sched.Parse(one, text); e != api.ErrForm || len(s.Rows) != 0 {
			t.Errorf("Parse(%q) = %v, %d", text, s, e)
		}
	}
	if _, e := sched.Parse(one, "S0: "+strings.Repeat("(1 0) ", 7)+"(1 0)\n"); e != api.OK {
		t.Errorf("8 rows: %d", e)
	}
	for n, want := range map[int]api.Errno{api.MaxText: api.ErrForm, api.MaxText + 1: api.ErrFull} {
		if s, e := sched.Parse(one, strings.Repeat("S", n)); e != want || len(s.Rows) != 0 {
			t.Errorf("Parse of %d bytes: %d", n, e)
		}
	}
	many := parse(t, "array S; for i = 0 to 9 { "+strings.Repeat("S = 1; ", 255)+"}")
	s := rows()
	for range 255 {
		s.Rows = append(s.Rows, slices.Repeat([]api.Row{row(1, 0, 1)}, 8))
	}
	if text, e := sched.Text(many, s); e != api.OK || len(text) != 10*4+90*5+155*6+255*6*8 {
		t.Errorf("Text: %d, %d", len(text), e)
	}
	size := 10*4 + 90*5 + 155*6 + 255*6*8
	for k := 0; size < api.MaxText; k++ {
		for i := range 8 {
			if size < api.MaxText {
				s.Rows[k][i].L.K = 1
				for range min(5, api.MaxText-size) {
					s.Rows[k][i].L.K *= 10
					size++
				}
			}
		}
	}
	text, e := sched.Text(many, s)
	if e != api.OK || len(text) != api.MaxText {
		t.Errorf("Text of MaxText bytes: %d, %d", len(text), e)
	}
	if q, e := sched.Parse(many, text); e != api.OK || !same(q, s) {
		t.Errorf("Parse of MaxText bytes: %d", e)
	}
	s.Rows[254][7].L.K = -5
	if text, e := sched.Text(many, s); e != api.ErrFull || text != "" {
		t.Errorf("Text of one more: %d, %d", len(text), e)
	}
}

// P17.10.
func TestRoundTrip(t *testing.T) {
	r := rand.New(rand.NewSource(18))
	p := parse(t, two)
	infos, _ := lang.Assigns(p)
	for range 200 {
		s := rows()
		n := r.Intn(9)
		for _, x := range infos {
			var l []api.Row
			for range n {
				w := row(r.Intn(64)+1, r.Intn(2*most+1)-most, zeros(len(x.Names))...)
				for i := range w.L.C {
					w.L.C[i] = []int{0, 1, -1, most, -most, r.Intn(99) - 49}[r.Intn(6)]
				}
				l = append(l, w)
			}
			s.Rows = append(s.Rows, l)
		}
		text, e := sched.Text(p, s)
		if e != api.OK {
			t.Fatal(e)
		}
		q, e := sched.Parse(p, text)
		if e != api.OK || !same(q, s) {
			t.Fatalf("Parse(%q) = %v, %d", text, q, e)
		}
		if again, e := sched.Text(p, q); again != text || e != api.OK {
			t.Fatalf("Text: %q, %d", again, e)
		}
	}
}
