package scan_test

import (
	"headland/api"
	"headland/dep"
	"headland/elim"
	"headland/lang"
	"headland/legal"
	"headland/run"
	"headland/scan"
	"headland/sched"
	"headland/search"
	"headland/set"
	"headland/settext"
	"headland/source"
	"math"
	"math/rand"
	"slices"
	"strconv"
	"strings"
	"testing"
)

func parse(t *testing.T, text string) api.Program {
	t.Helper()
	p, e := source.Parse(text)
	if e != api.OK {
		t.Fatalf("Parse(%q): %d", text, e)
	}
	return p
}

func schedule(t *testing.T, p api.Program, text string) api.Sched {
	t.Helper()
	s, e := sched.Parse(p, text)
	if e != api.OK {
		t.Fatalf("Parse(%q): %d", text, e)
	}
	return s
}

func samePieces(a, b [][]api.Cond) bool {
	return slices.EqualFunc(a, b, func(p, q []api.Cond) bool {
		return slices.EqualFunc(p, q, func(a, b api.Cond) bool {
			return a.Kind == b.Kind && a.M == b.M && a.L.K == b.L.K && slices.Equal(a.L.C, b.L.C)
		})
	})
}

// of parses a set, and normalizes it.
func of(t *testing.T, text string) api.Set {
	t.Helper()
	_, s, e := settext.Parse(text)
	if e != api.OK {
		t.Fatalf("Parse(%q): %d", text, e)
	}
	if s, e = set.Normal(s); e != api.OK {
		t.Fatal(e)
	}
	return s
}

const (
	clear = "param n; array A[n][n]; for i = 0 to n - 1 { for j = 0 to n - 1 { A[i][j] = 1; } }"
	line  = "param n; array A[n]; for i = 0 to n - 1 { A[i] = 1; }"
	grid  = "param n; array A[n + 1][n + 1]; for i = 1 to n { for j = 1 to n { A[i][j] = A[i - 1][j] + A[i][j - 1]; } }"
	two   = "param n; array A[n]; array B[n]; for i = 0 to n - 1 { A[i] = B[i]; } for i = 0 to n - 1 { B[i] = A[n - 1 - i] + <i>; }"
)

// P22.1.
func TestLevels(t *testing.T) {
	const box = "n >= 0 and n <= 1000 and "
	for _, x := range []struct {
		text, s string
		k       int
		want    []string
	}{
		// Example 2.
		{line, "S0: (0 1 0)/4\n", 0, []string{"{ n : n >= 1 and n <= 1000 }", "{ n, t : n - 4 t - 1 >= 0 and t >= 0 and n <= 1000 and n >= 1 and 4 t + 3 >= 0 and t >= 0 }", "{ n, t, i : " + box + "i >= 0 and i <= n - 1 and i - 4 t >= 0 and 4 t + 3 - i >= 0 }"}},
		{clear, "S0: (0 0 1 0) (0 1 0 0)\n", 0, []string{"{ n : n >= 1 and n <= 1000 }", "{ n, t : t >= 0 and t <= n - 1 and n <= 1000 and n >= 0 and n >= 1 }", "{ n, t, u : t >= 0 and t <= n - 1 and u >= 0 and u <= n - 1 and n <= 1000 and n >= 0 }", "{ n, t, u, i : t >= 0 and t <= n - 1 and i >= 0 and i <= n - 1 and n <= 1000 and n >= 0 and i = u }", "{ n, t, u, i, j : j >= 0 and j <= n - 1 and i >= 0 and i <= n - 1 and n <= 1000 and n >= 0 and i = u and j = t }"}},
		{"array S; S = 1;", "S0: (7)\n", 0, []string{"{ : true }", "{ t : t = 7 }"}}, {"array S; S = 1;", "S0:\n", 0, []string{"{ : true }"}}, {"array S; for i = 5 to 3 { S = 1; }", "S0: (1 0)\n", 0, []string{"{ : false }", "{ t : false }", "{ t, i : false }"}},
	} {
		p := parse(t, x.text)
		l, e := scan.Levels(p, schedule(t, p, x.s), x.k)
		if e != api.OK || len(l) != len(x.want) {
			t.Errorf("Levels of %q: %v, %d", x.text, l, e)
			continue
		}
		for i, text := range x.want {
			want := of(t, text)
			if l[i].Dim != want.Dim {
				t.Errorf("Levels of %q: %v", x.text, l[i])
			} else if same, e := elim.Same(l[i], want); !same || e != api.OK {
				t.Errorf("level %d of %q: %v, want %v", i, x.text, l[i], want)
			}
		}
	}
	// Each level is exactly the elimination of the last variable of the next one, without pieces that have no points.
	p := parse(t, "param n; array A[n]; for i = 0 to n - 1 step 2 { A[i] = 1; for j = ceil(i, 2) to min(n - 1, 2 i) { A[j] = 2; } }")
	s := schedule(t, p, "S0: (0 1 0)/2 (1 -1 3)\nS1: (0 1 1 0)/2 (1 0 -1 0)\n")
	for k := range 2 {
		l, e := scan.Levels(p, s, k)
		if e != api.OK {
			t.Fatal(e)
		}
		for i := range len(l) - 1 {
			want, e := elim.Elim(l[i+1], l[i+1].Dim-1)
			if e != api.OK {
				t.Fatal(e)
			}
			want.Pieces = slices.DeleteFunc(want.Pieces, func(q []api.Cond) bool {
				none, e := elim.Empty(api.Set{Dim: want.Dim, Pieces: [][]api.Cond{q}})
				return none && e == api.OK
			})
			if l[i].Dim != want.Dim || !samePieces(l[i].Pieces, want.Pieces) {
				t.Errorf("assignment %d, level %d: %v, want %v", k, i, l[i], want)
			}
		}
	}
}

func row(div, k int, c ...int) api.Row { return api.Row{L: api.Lin{C: c, K: k}, Div: div} }

func sameBound(a api.Bound, b [][]api.Row) bool {
	return slices.EqualFunc(a.Parts, b, func(p, q []api.Row) bool {
		return slices.EqualFunc(p, q, func(a, b api.Row) bool {
			return a.Div == b.Div && a.L.K == b.L.K && slices.Equal(a.L.C, b.L.C)
		})
	})
}

// P22.2.
func TestBounds(t *testing.T) {
	type parts = [][]api.Row
	for _, x := range []struct {
		text      string
		low, high parts
		e         api.Errno
	}{
		{"{ i : i >= 3 and i <= 9 }", parts{{row(1, 3)}}, parts{{row(1, 9)}}, api.OK}, {"{ i : i = 3 }", parts{{row(1, 3)}}, parts{{row(1, 3)}}, api.OK},
		{"{ n, i : 2 i >= n + 1 and 3 i <= n + 7 and i >= 0 }", parts{{row(2, 1, 1), row(1, 0, 0)}}, parts{{row(3, 7, 1)}}, api.OK},
		{"{ n, i : n + 3 i = 5 }", parts{{row(3, 5, -1)}}, parts{{row(3, 5, -1)}}, api.OK}, {"{ n, i : n - 3 i = 5 }", parts{{row(3, -5, 1)}}, parts{{row(3, -5, 1)}}, api.OK}, {"{ n, i : n - i = 5 and i <= 9 and 4 | i }", parts{{row(1, -5, 1)}}, parts{{row(1, -5, 1), row(1, 9, 0)}}, api.OK},
		// Conditions without the last variable give nothing, and Div gives nothing.
		{"{ n, i : n >= 5 and 2 | n + i and i >= n and i <= 7 }", parts{{row(1, 0, 1)}}, parts{{row(1, 7, 0)}}, api.OK},
		// Several pieces; equal parts stay once; void pieces and conditions that say nothing do not count.
		{"{ n, i : i >= 0 and i <= n or i >= 0 and i <= 5 or i >= n and i <= n or i >= 2 and i <= 1 }", parts{{row(1, 0, 0)}, {row(1, 0, 1)}}, parts{{row(1, 0, 1)}, {row(1, 5, 0)}}, api.OK},
		{"{ i : 2 i >= 3 and 2 i <= 9 and 3 >= 1 }", parts{{row(1, 2)}}, parts{{row(1, 4)}}, api.OK},
		{"{ i : i >= 0 }", nil, nil, api.ErrFull}, {"{ i : i <= 0 }", nil, nil, api.ErrFull}, {"{ i : true }", nil, nil, api.ErrFull}, {"{ i : 2 | i }", nil, nil, api.ErrFull}, {"{ i : i >= 0 and i <= 3 or i >= 0 }", nil, nil, api.ErrFull}, {"{ n, i : 513 i >= n and i <= 5 }", nil, nil, api.ErrFull}, {"{ n, i : 512 i >= n and i <= 5 }", parts{{row(512, 0, 1)}}, parts{{row(1, 5, 0)}}, api.OK}, {"{ n, i : i >= n and 513 i <= 5 n + 1 }", nil, nil, api.ErrFull},
		{"{ i : false }", nil, nil, api.ErrNone}, {"{ i : i >= 2 and i <= 1 }", nil, nil, api.ErrNone}, {"{ : true }", nil, nil, api.ErrDim}, {"{ : false }", nil, nil, api.ErrDim},
	} {
		_, s, e := settext.Parse(x.text)
		if e != api.OK {
			t.Fatal(e)
		}
		low, high, e := scan.Bounds(s)
		if e != x.e || !sameBound(low, x.low) || !sameBound(high, x.high) {
			t.Errorf("Bounds of %q: %v, %v, %d", x.text, low, high, e)
		}
	}
	for _, s := range []api.Set{{Dim: -1}, {Dim: 13}, {Dim: 0, Pieces: [][]api.Cond{{{Kind: 9}}}}} {
		if low, high, e := scan.Bounds(s); e != api.ErrArg || len(low.Parts)+len(high.Parts) != 0 {
			t.Errorf("Bounds of %v: %d", s, e)
		}
	}
}

// P22.3.
func TestScan(t *testing.T) {
	for _, x := range []struct {
		text, s string
		marks   []int
		want    string
		origin  []int
	}{
		{line, "S0: (0 1 0)\n", []int{0}, "param n; array A[n]; for t1 = 0 to n - 1 { for x1 = max(t1, 0) to min(t1, n - 1) { if { n, t1, x1 : t1 - x1 = 0 and -n + 1000 >= 0 and x1 >= 0 and n - x1 - 1 >= 0 and n >= 0 } { A[x1] = 1; } } }", []int{0}},
		{line, "S0:\n", nil, "param n; array A[n]; for x1 = 0 to n - 1 { if { n, x1 : -n + 1000 >= 0 and x1 >= 0 and n - x1 - 1 >= 0 and n >= 0 } { A[x1] = 1; } }", []int{0}},
		{"array S; S = 1; S = 2;", "S0: (1)\nS1: (0)\n", []int{2}, "array S; for t1 = min(1, 0) to max(1, 0) vector { if { t1 : t1 - 1 = 0 } { S = 1; } if { t1 : t1 = 0 } { S = 2; } }", []int{0, 1}},
		{"array S; S = 1; S = 2;", "S0: (1)\nS1: (1)\n", []int{1}, "array S; for t1 = 1 to 1 parallel { if { t1 : t1 - 1 = 0 } { S = 1; } if { t1 : t1 - 1 = 0 } { S = 2; } }", []int{0, 1}},
		{"array S; if { : false } { S = 1; } S = 2; for i = 3 to 2 { S = 3; }", "S0: (5)\nS1: (6)\nS2: (1 0)\n", []int{0}, "array S; for t1 = 6 to 6 { if { t1 : t1 - 6 = 0 } { S = 2; } }", []int{1}},
		{"param n; array S; for i = 3 to 2 { S = 3; }", "S0: (0 1 0) (0 0 7)\n", []int{1, 2}, "param n; array S;", nil}, {"param n; array S;", "", nil, "param n; array S;", nil},
		// Names that are in use.
		{"array S; if { : false } { } else { for x1 = 0 to 1 { S = 1; } }", "S0: (1 0)\n", []int{0}, "array S; for t1 = 0 to 1 { for x2 = max(t1, 0) to min(t1, 1) { if { t1, x2 : t1 - x2 = 0 and 1 - x2 >= 0 and x2 >= 0 } { S = 1; } } }", []int{0}},
		{"param x1; array t1; array t3[9]; for x3 = 0 to 1 { for t2 = 0 to 1 { t1 = t3[x3] + <t2>; } }", "S0: (0 1 0 0) (0 0 1 0)\n", []int{0, 0}, "param x1; array t1; array t3[9]; for t4 = 0 to 1 { for t5 = 0 to 1 { for x2 = max(t4, 0) to min(t4, 1) { for x4 = max(t5, 0) to min(t5, 1) { if { x1, t4, t5, x2, x4 : t5 - x4 = 0 and t4 - x2 = 0 and -x1 + 1000 >= 0 and -x2 + 1 >= 0 and -x4 + 1 >= 0 and x4 >= 0 and x2 >= 0 and x1 >= 0 } { t1 = t3[x2] + <x4>; } } } } }", []int{0}},
	} {
		p := parse(t, x.text)
		q, e := scan.Scan(p, schedule(t, p, x.s), x.marks)
		text, _ := source.Print(q)
		if want := parse(t, x.want); e != api.OK || !lang.Same(q, want) {
			t.Errorf("Scan of %q, %q: %s, %d", x.text, x.s, text, e)
		}
		if l, e := scan.Origin(p, schedule(t, p, x.s)); e != api.OK || !slices.Equal(l, x.origin) {
			t.Errorf("Origin of %q: %v, %d", x.text, l, e)
		}
	}
	// Example 1, and the rows that follow from the domain.
	p := parse(t, clear)
	q, e := scan.Scan(p, schedule(t, p, "S0: (0 0 1 0) (0 1 0 0)\n"), []int{0, 0})
	text, _ := source.Print(q)
	if e != api.OK || !strings.HasPrefix(text, "param n;\narray A[n][n];\nfor t1 = 0 to n - 1 {\n  for t2 = 0 to n - 1 {\n    for x1 = min(max(t2, 0)) to max(min(t2, n - 1)) {\n      for x2 = min(max(t1, 0)) to max(min(t1, n - 1)) {\n        if { n, t1, t2, x1, x2 : ") {
		t.Errorf("example 1: %s, %d", text, e)
	}
	q.Body[0].Low.Parts[0][0].L.C[0] = 99
	q.Arrays[0].Sizes[0].C[0] = 99
	if !lang.Same(p, parse(t, clear)) {
		t.Error("shared memory")
	}
}

// The bounds and the test are those of the levels.
func TestStructure(t *testing.T) {
	p := parse(t, "param n; array A[n + 9]; for i = 0 to n { A[i] = A[i + 3]; for j = i to n step 2 { A[j] = A[i] + <n - 2 j>; } }")
	s := schedule(t, p, "S0: (0 1 0)/3 (0 0 1)\nS1: (0 1 0 1)/3 (0 0 1 0)\n")
	q, e := scan.Scan(p, s, []int{1, 2})
	if e != api.OK {
		t.Fatal(e)
	}
	var levels [][]api.Set
	for k := range 2 {
		l, _ := scan.Levels(p, s, k)
		levels = append(levels, l)
	}
	bounds := func(sets ...api.Set) (api.Bound, api.Bound) {
		u := api.Set{Dim: sets[0].Dim}
		for _, x := range sets {
			u.Pieces = append(u.Pieces, x.Pieces...)
		}
		low, high, e := scan.Bounds(u)
		if e != api.OK {
			t.Fatal(e)
		}
		return low, high
	}
	check := func(path []int, name string, mark int, sets ...api.Set) {
		t.Helper()
		x, e := lang.At(q, path)
		low, high := bounds(sets...)
		if e != api.OK || x.Kind != api.For || x.Name != name || x.Step != 1 || x.Mark != mark || !sameBound(x.Low, low.Parts) || !sameBound(x.High, high.Parts) {
			t.Errorf("%v: %v, %d", path, x, e)
		}
	}
	check([]int{0}, "t1", 1, levels[0][1], levels[1][1])
	check([]int{0, 0, 0}, "t2", 2, levels[0][2], levels[1][2])
	check([]int{0, 0, 0, 0, 0}, "x1", 0, levels[0][3])
	check([]int{0, 0, 0, 0, 1}, "x1", 0, levels[1][3])
	check([]int{0, 0, 0, 0, 1, 0, 0}, "x2", 0, levels[1][4])
	test, _ := lang.At(q, []int{0, 0, 0, 0, 1, 0, 0, 0, 0})
	if test.Kind != api.If || len(test.Else) != 0 || test.Test.Dim != 5 || !samePieces(test.Test.Pieces, levels[1][4].Pieces) {
		t.Errorf("%v", test)
	}
	if a := test.Body[0]; a.Kind != api.Assign || !slices.Equal(a.Target.Subs[0].C, []int{0, 0, 0, 0, 1}) || !slices.Equal(a.Value.Args[1].L.C, []int{1, 0, 0, 0, -2}) || !slices.Equal(a.Value.Args[0].R.Subs[0].C, []int{0, 0, 0, 1, 0}) {
		t.Errorf("%v", a)
	}
}

func TestErrors(t *testing.T) {
	p := parse(t, line)
	s := schedule(t, p, "S0: (0 1 0) (0 0 0)\n")
	all := func(p api.Program, s api.Sched, k int, marks []int) []api.Errno {
		l, e1 := scan.Levels(p, s, k)
		q, e2 := scan.Scan(p, s, marks)
		o, e3 := scan.Origin(p, s)
		if e1 != api.OK && len(l) != 0 || e2 != api.OK && !lang.Same(q, api.Program{}) || e3 != api.OK && len(o) != 0 {
			t.Error("a result with an error")
		}
		return []api.Errno{e1, e2, e3}
	}
	deep := func(n int) string {
		text, end := "", ""
		for i := range n {
			text += "for " + string(rune('a'+i)) + " = 0 to 1 { "
			end += "}"
		}
		return text + "S = 1;" + end
	}
	rows := func(n, vars int) string {
		return strings.Repeat(" ("+strings.Repeat("0 ", vars)+"0)", n)
	}
	five, pair := parse(t, "param n; param m; array S; "+deep(5)), parse(t, "array S; S = 0; "+deep(8))
	many := parse(t, "array S; "+strings.Repeat("S = 1; ", 128))
	manyRows := ""
	for i := range 128 {
		manyRows += "S" + strconv.Itoa(i) + ": (0)\n"
	}
	more := parse(t, "array S; for i = 0 to 1 { "+strings.Repeat("S = 1; ", 86)+"}")
	moreRows := ""
	for i := range 86 {
		moreRows += "S" + strconv.Itoa(i) + ": (1 0)\n"
	}
	for i, x := range []struct{ got, want []api.Errno }{
		{all(api.Program{Params: []string{"to"}}, s, 9, nil), []api.Errno{1, 1, 1}}, {all(p, api.Sched{}, 9, nil), []api.Errno{2, 2, 2}}, {all(p, s, 1, nil), []api.Errno{5, 2, 0}}, {all(p, s, -1, []int{0}), []api.Errno{5, 2, 0}}, {all(p, s, math.MaxInt, []int{0, 3}), []api.Errno{5, 6, 0}}, {all(p, s, 0, []int{-1, 0}), []api.Errno{0, 6, 0}}, {all(p, s, 0, []int{9, 0, 0}), []api.Errno{0, 2, 0}}, {all(p, s, 0, []int{1, 2}), []api.Errno{0, 0, 0}},
		// 2 + 5 + 5 variables fit, 2 + 6 + 5 do not; 8 + 2 loops fit, 8 + 3 do not.
		{all(five, schedule(t, five, "S0:"+rows(5, 7)+"\n"), 0, make([]int, 5)), []api.Errno{0, 0, 0}}, {all(five, schedule(t, five, "S0:"+rows(6, 7)+"\n"), 9, nil), []api.Errno{3, 3, 3}}, {all(pair, schedule(t, pair, "S0:"+rows(2, 0)+"\nS1:"+rows(2, 8)+"\n"), 0, make([]int, 2)), []api.Errno{0, 0, 0}}, {all(pair, schedule(t, pair, "S0:"+rows(3, 0)+"\nS1:"+rows(3, 8)+"\n"), 0, nil), []api.Errno{3, 3, 3}},
		// 1 loop and 128 tests with assignments are 257 statements.
		{all(many, schedule(t, many, manyRows), 0, []int{0}), []api.Errno{0, 3, 0}}, {all(many, schedule(t, many, strings.ReplaceAll(manyRows, " (0)", "")), 0, nil), []api.Errno{0, 0, 0}}, {all(more, schedule(t, more, moreRows), 0, []int{0}), []api.Errno{0, 3, 0}},
	} {
		if !slices.Equal(x.got, x.want) {
			t.Errorf("%d: %v, want %v", i, x.got, x.want)
		}
	}
	// Operations that fail: a divisor of a bound, a domain, a number.
	wide := parse(t, "array A[9]; for i = 0 to 9 { A[0] = 1; }")
	if got := all(wide, schedule(t, wide, "S0: (513 0)\n"), 0, []int{0}); !slices.Equal(got, []api.Errno{3, 3, 3}) {
		t.Errorf("a divisor: %v", got)
	}
	if got := all(wide, schedule(t, wide, "S0: (1 -1048576)/64\n"), 0, []int{0}); !slices.Equal(got, []api.Errno{3, 3, 3}) {
		t.Errorf("a number: %v", got)
	}
	// Levels without bounds: a divisor of 600 for x2.
	inner := parse(t, "array S; for j = 0 to 9 { for i = 0 to 9 { if { j, i : 600 i >= j } { S = 1; } } }")
	if got := all(inner, schedule(t, inner, "S0:\n"), 0, nil); !slices.Equal(got, []api.Errno{0, 3, 0}) {
		t.Errorf("a bound of x2: %v", got)
	}
	refused := parse(t, "array S; S = 1; for i = 0 to 9 { if { i : 509 | i } { S = 2; } else { S = 3; } }")
	s = schedule(t, refused, "S0: (0)\nS1: (1 0)\nS2: (1 0)\n")
	if got := all(refused, s, 0, []int{0}); !slices.Equal(got, []api.Errno{0, 3, 3}) {
		t.Errorf("a domain: %v", got)
	}
}

// checkScan compares the instances of the program of a schedule with those of p.
func checkScan(t *testing.T, p api.Program, s api.Sched, legal bool, most int) {
	t.Helper()
	rows := 0
	if len(s.Rows) > 0 {
		rows = len(s.Rows[0])
	}
	q, e := scan.Scan(p, s, make([]int, rows))
	if e != api.OK {
		t.Fatalf("Scan: %d", e)
	}
	origin, e := scan.Origin(p, s)
	if e != api.OK {
		t.Fatal(e)
	}
	for n := range most {
		params := []int{n}[:len(p.Params)]
		want, e := run.Insts(p, params)
		got, f := run.Insts(q, params)
		if e != api.OK || f != api.OK || len(got) != len(want) {
			t.Fatalf("%d: %d instances, %d; %d instances, %d", n, len(want), e, len(got), f)
		}
		slices.SortFunc(want, func(a, b api.Inst) int {
			c, e := sched.Compare(p, s, params, a, b)
			if e != api.OK {
				t.Fatal(e)
			}
			return c
		})
		for i, x := range got {
			y := want[i]
			time, _ := sched.Time(p, s, params, y)
			if origin[x.Stmt] != y.Stmt || !slices.Equal(x.At[:rows], time) || !slices.Equal(x.At[rows:], y.At) {
				t.Fatalf("instance %d is %v, want %v at %v", i, x, y, time)
			}
		}
		checkMemory(t, p, q, params, legal)
	}
}

// checkMemory compares the memories and the cells of p and of a program of a schedule.
func checkMemory(t *testing.T, p, q api.Program, params []int, legal bool) {
	t.Helper()
	m, _ := run.Fresh(p, params, 5)
	a, _, e := run.Run(p, params, m)
	b, _, f := run.Run(q, params, m)
	if e != api.OK || f != api.OK {
		t.Fatalf("Run: %d, %d", e, f)
	}
	if legal && !slices.EqualFunc(a, b, slices.Equal[[]int]) {
		t.Fatalf("%v: %v, want %v", params, b, a)
	}
	cells := func(p api.Program) (l [][4]int) {
		events, e := run.Trace(p, params, m)
		if e != api.OK {
			t.Fatal(e)
		}
		for _, x := range events {
			l = append(l, [4]int{x.Array, x.Cell, x.Pos})
		}
		slices.SortFunc(l, func(a, b [4]int) int { return slices.Compare(a[:], b[:]) })
		return l
	}
	if !slices.Equal(cells(p), cells(q)) {
		t.Fatalf("%v: other cells", params)
	}
}

// P22.5, P22.6, P22.7.
func TestExecutions(t *testing.T) {
	r := rand.New(rand.NewSource(25))
	for _, text := range []string{
		line, clear, grid, two, "array S; array T; S = 1; T = S; S = T + 2;", "param n; array A[n + 9]; for i = 0 to n { A[i] = A[i + 3]; if { n, i : 2 | i + n } { for j = i to n step 2 { A[j] = A[i] + <n - 2 j>; } } else { A[i + 1] = A[i] * 2; } }",
		"param n; array A[40]; for i = ceil(n, 2) to max(min(n, 4), floor(n + 3, 3)) { for j = min(max(0, i - 2), n - 3) to n { A[i + j + 4] = A[i] + A[j + 4]; } }",
	} {
		p := parse(t, text)
		l, e := dep.All(p)
		if e != api.OK {
			t.Fatal(e)
		}
		if s, e := sched.Source(p); e == api.OK {
			checkScan(t, p, s, true, 5)
		}
		for mode := range 2 {
			if s, e := search.Search(p, l, mode); e == api.OK {
				checkScan(t, p, s, true, 5)
			}
		}
		infos, _ := lang.Assigns(p)
		for range 6 {
			s := api.Sched{}
			n := r.Intn(3)
			for _, x := range infos {
				var rows []api.Row
				for range n {
					w := api.Row{L: api.Lin{C: make([]int, len(x.Names)), K: r.Intn(5) - 2}, Div: []int{1, 1, 2, 3}[r.Intn(4)]}
					for i := range w.L.C {
						w.L.C[i] = r.Intn(3) - 1
					}
					rows = append(rows, w)
				}
				s.Rows = append(s.Rows, rows)
			}
			ok, _, e := legal.Legal(p, l, s)
			if e != api.OK {
				t.Fatal(e)
			}
			checkScan(t, p, s, ok, 4)
		}
	}
}
