package alias_test

import (
	"headland/alias"
	"headland/api"
	"headland/lang"
	"headland/legal"
	"headland/run"
	"headland/scan"
	"headland/sched"
	"headland/source"
	"math"
	"math/rand"
	"slices"
	"strings"
	"testing"
)

func parse(t *testing.T, text string) api.Program {
	t.Helper()
	p, e := source.Parse(text)
	if e != api.OK {
		t.Fatalf("Parse(%q): %d", text, e)
	}
	return p
}

func schedule(t *testing.T, p api.Program, text string) api.Sched {
	t.Helper()
	s, e := sched.Parse(p, text)
	if e != api.OK {
		t.Fatalf("Parse(%q): %d", text, e)
	}
	return s
}

func same(a, b [][]int) bool { return slices.EqualFunc(a, b, slices.Equal[[]int]) }

const (
	copies = "array A[4]; array B[4]; for i = 0 to 3 { B[i] = A[i]; }"
	shapes = "param n; array A[n][3][2]; array S; array B[n - 2][5]; array C[n]; for i = 0 to n - 1 { A[i][2][1] = S + <i>; for j = i to n - 1 { C[j] = A[i][1][0] * C[i]; } if { n, i : i >= 2 } { B[i - 2][4] = C[i]; } else { S = 5; } }"
)

// P27.1.
func TestFlat(t *testing.T) {
	for _, x := range []struct {
		text           string
		params, layout []int
		want           string
	}{
		{copies, nil, []int{0, 2}, "array m1[6]; for i = 0 to 3 { m1[i + 2] = m1[i]; }"}, {copies, nil, []int{5, 0}, "array m1[9]; for i = 0 to 3 { m1[i] = m1[i + 5]; }"}, {"array m1; array m2; for m3 = 0 to 1 { m1 = m2; }", nil, []int{7, 7}, "array m4[8]; for m3 = 0 to 1 { m4[7] = m4[7]; }"},
		{shapes, []int{4}, []int{1, 0, 100, 30}, "param n; array m1[110]; for i = 0 to n - 1 { m1[6 i + 6] = m1[0] + <i>; for j = i to n - 1 { m1[j + 30] = m1[6 i + 3] * m1[i + 30]; } if { n, i : i >= 2 } { m1[5 i + 94] = m1[i + 30]; } else { m1[0] = 5; } }"},
		// An array without cells has no strides, and its offset does not count.
		{shapes, []int{2}, []int{1, 0, 4096, 30}, "param n; array m1[32]; for i = 0 to n - 1 { m1[6 i + 6] = m1[0] + <i>; for j = i to n - 1 { m1[j + 30] = m1[6 i + 3] * m1[i + 30]; } if { n, i : i >= 2 } { m1[4096] = m1[i + 30]; } else { m1[0] = 5; } }"}, {"array A[-3][4096]; A[5][6] = 1;", nil, []int{9}, "array m1[1]; m1[9] = 1;"}, {"", nil, nil, "array m1[1];"}, {"array A[64][64]; A[1][2] = 3;", nil, []int{0}, "array m1[4096]; m1[66] = 3;"},
		// Sums that exceed the limits on the way.
		{"array A[2][2]; A[524288][-1048576] = 3;", nil, []int{0}, "array m1[4]; m1[0] = 3;"}, {"array A[2][2]; for i = 0 to 1 { A[524289 i - 1][3 - 1048576 i] = 3; }", nil, []int{9}, "array m1[13]; for i = 0 to 1 { m1[2 i + 10] = 3; }"},
	} {
		p := parse(t, x.text)
		q, e := alias.Flat(p, x.params, x.layout)
		if text, _ := source.Print(q); e != api.OK || !lang.Same(q, parse(t, x.want)) {
			t.Errorf("Flat of %q, %v: %s, %d", x.text, x.layout, text, e)
		}
		if !lang.Same(p, parse(t, x.text)) {
			t.Error("the argument was changed")
		}
	}
}

func TestErrors(t *testing.T) {
	all := func(p api.Program, params, layout []int) []api.Errno {
		_, e1 := alias.Flat(p, params, layout)
		c, e2 := alias.Lay(p, params, layout, nil)
		m, e3 := alias.Lift(p, params, layout, nil)
		a, n, e4 := alias.Run(p, params, layout, nil)
		o, e5 := alias.Overlap(p, params, layout)
		ok, _, e6 := alias.Safe(p, api.Sched{Rows: [][]api.Row{nil, nil, nil}}, params, layout)
		q, e7 := alias.Pick(p, api.Program{Params: []string{"to"}}, params, layout)
		if len(c)+len(m)+len(a)+n+len(o) != 0 || ok || !lang.Same(q, api.Program{}) {
			t.Error("a result with an error")
		}
		return []api.Errno{e1, e2, e3, e4, e5, e6, e7}
	}
	p, q := parse(t, shapes), parse(t, copies)
	steep := parse(t, "array A[2][9]; A[116509][5] = 1;")
	for i, x := range []struct {
		got  []api.Errno
		want api.Errno
	}{
		{all(api.Program{Params: []string{"to"}}, nil, nil), api.ErrArg}, {all(p, nil, nil), api.ErrDim}, {all(p, []int{1, 2}, nil), api.ErrDim}, {all(p, []int{-1}, nil), api.ErrRange}, {all(p, []int{1001}, nil), api.ErrRange}, {all(p, []int{1000}, nil), api.ErrFull}, {all(p, []int{4}, nil), api.ErrDim}, {all(p, []int{4}, []int{9999, 0, 0}), api.ErrDim}, {all(p, []int{4}, []int{0, 0, 0, 0, 0}), api.ErrDim}, {all(p, []int{4}, []int{0, 0, 0, 4097}), api.ErrRange}, {all(p, []int{4}, []int{0, -1, 0, 0}), api.ErrRange}, {all(p, []int{4}, []int{4096, -1, 0, 0}), api.ErrRange}, {all(p, []int{4}, []int{math.MaxInt, 0, 0, math.MinInt}), api.ErrRange},
		{all(p, []int{4}, []int{4096, 0, 0, 0}), api.ErrFull}, {all(p, []int{4}, []int{4073, 0, 0, 0}), api.ErrFull}, {all(q, nil, []int{0, 4093}), api.ErrFull}, {all(steep, nil, []int{0}), api.ErrFull}, {all(parse(t, "array A[9]; for i = 0 to 1 { if { i : false } { A[1048576] = 1; } }"), nil, []int{1}), api.ErrFull},
	} {
		if !slices.Equal(x.got, slices.Repeat([]api.Errno{x.want}, 7)) {
			t.Errorf("%d: %v, want %d", i, x.got, x.want)
		}
	}
	for _, layout := range [][]int{{4072, 0, 0, 0}, {0, 4095, 4086, 4092}} {
		if _, e := alias.Flat(p, []int{4}, layout); e != api.OK {
			t.Errorf("%v: %d", layout, e)
		}
	}
}

// P27.2, P27.10.
func TestLayLift(t *testing.T) {
	p := parse(t, copies)
	m := [][]int{{1, 2, 3, 4}, {5, 6, 7, 8}}
	for _, x := range []struct {
		layout, cells []int
		lifted        [][]int
	}{
		{[]int{0, 4}, []int{1, 2, 3, 4, 5, 6, 7, 8}, m}, {[]int{5, 0}, []int{5, 6, 7, 8, 0, 1, 2, 3, 4}, m}, {[]int{0, 2}, []int{1, 2, 5, 6, 7, 8}, [][]int{{1, 2, 5, 6}, {5, 6, 7, 8}}}, {[]int{2, 0}, []int{5, 6, 7, 8, 3, 4}, [][]int{{7, 8, 3, 4}, {5, 6, 7, 8}}}, {[]int{3, 3}, []int{0, 0, 0, 5, 6, 7, 8}, [][]int{{5, 6, 7, 8}, {5, 6, 7, 8}}},
	} {
		cells, e := alias.Lay(p, nil, x.layout, m)
		if e != api.OK || !slices.Equal(cells, x.cells) {
			t.Errorf("Lay at %v: %v, %d", x.layout, cells, e)
		}
		back, e := alias.Lift(p, nil, x.layout, cells)
		if e != api.OK || !same(back, x.lifted) {
			t.Errorf("Lift at %v: %v, %d", x.layout, back, e)
		}
	}
	for _, m := range [][][]int{nil, {{1, 2, 3, 4}}, {{1, 2, 3}, {5, 6, 7, 8}}, {{1, 2, 3, 4}, {5, 6, 7, 1 << 31}}} {
		if c, e := alias.Lay(p, nil, []int{0, 4}, m); e != api.ErrArg || len(c) != 0 {
			t.Errorf("Lay of %v: %v, %d", m, c, e)
		}
	}
	for _, c := range [][]int{nil, make([]int, 7), make([]int, 9), {0, 0, 0, 0, 0, 0, 0, -1<<31 - 1}} {
		m, e := alias.Lift(p, nil, []int{0, 4}, c)
		a, n, f := alias.Run(p, nil, []int{0, 4}, c)
		if e != api.ErrArg || f != api.ErrArg || len(m)+len(a)+n != 0 {
			t.Errorf("Lift of %v: %v, %d, %d", c, m, e, f)
		}
	}
	q := parse(t, shapes)
	for n := range 5 {
		m, _ := run.Fresh(q, []int{n}, 3)
		layout := []int{10, 9, 50, 40}
		c, e := alias.Lay(q, []int{n}, layout, m)
		back, f := alias.Lift(q, []int{n}, layout, c)
		if e != api.OK || f != api.OK || !same(back, m) {
			t.Errorf("%d: %v, %d, %d", n, back, e, f)
		}
	}
	if c, e := alias.Lay(api.Program{}, nil, nil, nil); e != api.OK || !slices.Equal(c, []int{0}) {
		t.Errorf("Lay of nothing: %v, %d", c, e)
	}
}

// P27.3.
func TestRun(t *testing.T) {
	for _, x := range []struct {
		text          string
		layout, cells []int
		after         []int
		steps         int
		e             api.Errno
	}{
		{copies, []int{0, 2}, []int{1, 2, 3, 4, 5, 6}, []int{1, 2, 1, 2, 1, 2}, 8, api.OK}, {copies, []int{2, 0}, []int{1, 2, 3, 4, 5, 6}, []int{3, 4, 5, 6, 5, 6}, 8, api.OK}, {copies, []int{0, 5}, []int{1, 2, 3, 4, 9, 0, 0, 0, 0}, []int{1, 2, 3, 4, 9, 1, 2, 3, 4}, 8, api.OK},
		// An access outside an array, where the address exists, and too many steps.
		{"array A[2]; array B[2]; A[2] = 1;", []int{0, 2}, []int{1, 2, 3, 4}, nil, 0, api.ErrRange}, {"array A[2]; array B[2]; A[0] = B[-1];", []int{0, 2}, []int{1, 2, 3, 4}, nil, 0, api.ErrRange}, {"array A[0]; array B[2]; B[0] = A[0];", []int{0, 0}, []int{1, 2}, nil, 0, api.ErrRange}, {"array S; for i = 0 to 99999 { S = 1; }", []int{0}, []int{1}, nil, 0, api.ErrFull},
		{"array A[2][2]; array S; for i = 0 to 1 { A[i][1 - i] = S + 1; S = S * 2; }", []int{1, 3}, []int{1, 2, 3, 4, 5}, []int{1, 2, 5, 18, 5}, 6, api.OK},
	} {
		keep := slices.Clone(x.cells)
		after, steps, e := alias.Run(parse(t, x.text), nil, x.layout, x.cells)
		if !slices.Equal(after, x.after) || steps != x.steps || e != x.e || !slices.Equal(keep, x.cells) {
			t.Errorf("Run of %q at %v: %v, %d, %d", x.text, x.layout, after, steps, e)
		}
	}
}

// P27.4.
func TestOverlap(t *testing.T) {
	p := parse(t, "param n; array A[4]; array B[n]; array C[2][2]; array S;")
	for _, x := range []struct {
		n      int
		layout []int
		want   [][2]int
	}{
		{3, []int{0, 4, 7, 11}, nil}, {3, []int{0, 3, 7, 11}, [][2]int{{0, 1}}}, {3, []int{0, 4, 6, 11}, [][2]int{{1, 2}}}, {3, []int{0, 4, 7, 10}, [][2]int{{2, 3}}}, {3, []int{0, 0, 0, 0}, [][2]int{{0, 1}, {0, 2}, {0, 3}, {1, 2}, {1, 3}, {2, 3}}}, {0, []int{0, 2, 9, 9}, [][2]int{{2, 3}}}, {3, []int{5, 2, 0, 8}, [][2]int{{0, 3}, {1, 2}}}, {3, []int{9, 6, 2, 1}, nil}, {1, []int{0, 1, 4, 2}, [][2]int{{0, 1}, {0, 3}}},
	} {
		if l, e := alias.Overlap(p, []int{x.n}, x.layout); e != api.OK || !slices.Equal(l, x.want) {
			t.Errorf("Overlap at %v: %v, %d", x.layout, l, e)
		}
	}
}

// P27.5.
func TestSafe(t *testing.T) {
	p := parse(t, copies)
	for _, x := range []struct {
		s      string
		layout []int
		ok     bool
		w      legal.Witness
	}{
		{"S0: (-1 0)\n", []int{0, 2}, false, legal.Witness{From: []int{0}, To: []int{2}}}, {"S0: (1 0)\n", []int{0, 2}, true, legal.Witness{}}, {"S0: (-1 0)\n", []int{0, 4}, true, legal.Witness{}}, {"S0: (-1 0)\n", []int{2, 0}, false, legal.Witness{From: []int{0}, To: []int{2}}}, {"S0: (-1 0)\n", []int{0, 3}, false, legal.Witness{From: []int{0}, To: []int{3}}}, {"S0: (-1 0)\n", []int{3, 3}, true, legal.Witness{}}, {"S0: (1 0)/2\n", []int{0, 2}, true, legal.Witness{}},
	} {
		ok, w, e := alias.Safe(p, schedule(t, p, x.s), nil, x.layout)
		if ok != x.ok || e != api.OK || w.Row != x.w.Row || !slices.Equal(w.Params, x.w.Params) || !slices.Equal(w.From, x.w.From) || !slices.Equal(w.To, x.w.To) {
			t.Errorf("Safe of %q at %v: %v, %v, %d", x.s, x.layout, ok, w, e)
		}
	}
	// Only these parameters count.
	q := parse(t, "param n; array A[n + 9]; array B[n + 9]; for i = 0 to n { B[i] = A[i + 3]; }")
	s := schedule(t, q, "S0: (0 -1 0)\n")
	for n := range 6 {
		ok, w, e := alias.Safe(q, s, []int{n}, []int{0, 0})
		if ok != (n < 3) || e != api.OK || !ok && !slices.Equal(w.Params, []int{n}) {
			t.Errorf("%d: %v, %v, %d", n, ok, w, e)
		}
	}
	if ok, _, e := alias.Safe(q, api.Sched{}, []int{1}, []int{0, 0}); ok || e != api.ErrDim {
		t.Errorf("%v, %d", ok, e)
	}
	refused := parse(t, "array A[9]; for i = 0 to 9 { if { i : 509 | i } { A[0] = 1; } else { A[1] = 2; } }")
	if ok, _, e := alias.Safe(refused, schedule(t, refused, "S0: (1 0)\nS1: (1 0)\n"), nil, []int{0}); ok || e != api.ErrFull {
		t.Errorf("%v, %d", ok, e)
	}
	if ok, _, e := alias.Safe(refused, api.Sched{}, nil, []int{0}); ok || e != api.ErrDim {
		t.Errorf("%v, %d", ok, e)
	}
}

// P27.6.
func TestPick(t *testing.T) {
	p := parse(t, copies)
	q := parse(t, strings.Replace(copies, "0 to 3", "1 to 2", 1))
	for _, x := range []struct {
		layout []int
		want   api.Program
	}{{[]int{0, 4}, q}, {[]int{0, 3}, p}, {[]int{9, 1}, q}} {
		if r, e := alias.Pick(p, q, nil, x.layout); e != api.OK || !lang.Same(r, x.want) {
			t.Errorf("Pick at %v: %d", x.layout, e)
		}
	}
	for i, r := range []api.Program{parse(t, strings.ReplaceAll(copies, "B", "C")), parse(t, "param n; "+copies), parse(t, "array B[4];"), parse(t, strings.Replace(copies, "A[4]", "A[5]", 1)), parse(t, strings.Replace(copies, "array B[4];", "array B[4]; array S;", 1)), parse(t, "array B[4]; array A[4];")} {
		if s, e := alias.Pick(p, r, nil, []int{0, 4}); e != api.ErrDim || !lang.Same(s, api.Program{}) {
			t.Errorf("Pick %d: %d", i, e)
		}
	}
	if s, e := alias.Pick(parse(t, "param n; array A[n];"), parse(t, "param m; array A[m];"), []int{1}, []int{0}); e != api.ErrDim || !lang.Same(s, api.Program{}) {
		t.Errorf("Pick of another parameter: %d", e)
	}
	if s, e := alias.Pick(p, api.Program{Params: []string{"to"}}, nil, []int{0, 0}); e != api.ErrArg || !lang.Same(s, api.Program{}) {
		t.Errorf("Pick: %d", e)
	}
	r, _ := alias.Pick(p, q, nil, []int{0, 4})
	r.Body[0].Low.Parts[0][0].L.K = 99
	if q.Body[0].Low.Parts[0][0].L.K != 1 {
		t.Error("shared memory")
	}
}

// P27.7, P27.8.
func TestExecutions(t *testing.T) {
	r := rand.New(rand.NewSource(28))
	for range 60 {
		text := []string{copies, shapes, "param n; array A[n + 3]; array B[n + 3]; array S; for i = 0 to n { A[i] = B[n - i] + S; for j = 0 to i step 2 { B[j] = A[i] * S; S = max(A[j], B[i]) - <i>; } }"}[r.Intn(3)]
		p := parse(t, text)
		params := []int{r.Intn(5)}[:len(p.Params)]
		m, _ := run.Fresh(p, params, r.Intn(99))
		var layout []int
		for range p.Arrays {
			layout = append(layout, r.Intn(40))
		}
		cells, e := alias.Lay(p, params, layout, m)
		if e != api.OK {
			t.Fatal(e)
		}
		after, steps, e := alias.Run(p, params, layout, cells)
		if e != api.OK {
			t.Fatalf("%q: %d", text, e)
		}
		flat, e := alias.Flat(p, params, layout)
		if e != api.OK {
			t.Fatal(e)
		}
		other, more, e := run.Run(flat, params, [][]int{cells})
		if e != api.OK || steps != more || !slices.Equal(after, other[0]) {
			t.Fatalf("%q at %v: %v, %v, %d", text, layout, after, other, e)
		}
		if pairs, _ := alias.Overlap(p, params, layout); len(pairs) == 0 {
			n, count, _ := run.Run(p, params, m)
			want, _ := alias.Lay(p, params, layout, n)
			if !slices.Equal(want, after) || count != steps {
				t.Fatalf("%q at %v: %v, want %v", text, layout, after, want)
			}
		}
	}
}

// P27.9.
func TestSafeExecutions(t *testing.T) {
	r := rand.New(rand.NewSource(29))
	safe, unsafe := 0, 0
	for range 120 {
		p := parse(t, []string{"param n; array A[n + 3]; array B[n + 3]; for i = 0 to n { B[i] = A[i] + 1; A[i + 1] = B[i] * 2; }", "param n; array A[n + 3]; array B[n + 3]; for i = 0 to n { for j = i to n { B[j] = A[i] - B[j]; } }"}[r.Intn(2)])
		infos, _ := lang.Assigns(p)
		s := api.Sched{}
		for range infos {
			s.Rows = append(s.Rows, nil)
		}
		for range r.Intn(2) + 1 {
			for k, x := range infos {
				w := api.Row{L: api.Lin{C: make([]int, len(x.Names)), K: r.Intn(2)}, Div: r.Intn(2) + 1}
				for i := 1; i < len(w.L.C); i++ {
					w.L.C[i] = r.Intn(3) - 1
				}
				s.Rows[k] = append(s.Rows[k], w)
			}
		}
		params, layout := []int{r.Intn(4) + 1}, []int{r.Intn(8), r.Intn(8)}
		ok, _, e := alias.Safe(p, s, params, layout)
		if e != api.OK {
			t.Fatal(e)
		}
		if !ok {
			unsafe++
			continue
		}
		safe++
		q, e := scan.Scan(p, s, make([]int, len(s.Rows[0])))
		if e != api.OK {
			t.Fatal(e)
		}
		m, _ := run.Fresh(p, params, 3)
		cells, _ := alias.Lay(p, params, layout, m)
		a, _, e := alias.Run(p, params, layout, cells)
		b, _, f := alias.Run(q, params, layout, cells)
		if e != api.OK || f != api.OK || !slices.Equal(a, b) {
			t.Fatalf("%v at %v: %v, %v, %d, %d", s, layout, a, b, e, f)
		}
	}
	if safe < 10 || unsafe < 10 {
		t.Errorf("%d safe, %d unsafe", safe, unsafe)
	}
}
