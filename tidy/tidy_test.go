package tidy_test

import (
	"headland/api"
	"headland/dep"
	"headland/lang"
	"headland/run"
	"headland/scan"
	"headland/sched"
	"headland/search"
	"headland/set"
	"headland/settext"
	"headland/source"
	"headland/tidy"
	"math/rand"
	"slices"
	"strconv"
	"strings"
	"testing"
)

func parse(t *testing.T, text string) api.Program {
	t.Helper()
	p, e := source.Parse(text)
	if e != api.OK {
		t.Fatalf("Parse(%q): %d", text, e)
	}
	return p
}

func same(a, b api.Set) bool {
	return a.Dim == b.Dim && slices.EqualFunc(a.Pieces, b.Pieces, func(p, q []api.Cond) bool {
		return slices.EqualFunc(p, q, func(a, b api.Cond) bool {
			return a.Kind == b.Kind && a.M == b.M && a.L.K == b.L.K && slices.Equal(a.L.C, b.L.C)
		})
	})
}

// raw parses a set; of normalizes it, too.
func raw(t *testing.T, text string) api.Set {
	t.Helper()
	_, s, e := settext.Parse(text)
	if e != api.OK {
		t.Fatalf("Parse(%q): %d", text, e)
	}
	return s
}

func of(t *testing.T, text string) api.Set {
	t.Helper()
	s, e := set.Normal(raw(t, text))
	if e != api.OK {
		t.Fatal(e)
	}
	return s
}

// P23.1.
func TestContext(t *testing.T) {
	p := parse(t, "param n; param m; array S; S = 1; for i = min(max(1, ceil(n, 3)), 5) to max(9, min(n, floor(2 n + 1, 4))) { S = 2; } for i = n + 1 to 9 step 3 { if { n, m, i : 2 | i } { S = 3; for j = i to m { S = 4; } } else { S = 5; } S = 6; } if { n, m : n = 3 } { S = 7; } else { S = 8; for k = n to m { if { n, m, k : 5 | k } { } else { S = 9; } } }")
	const box = "n >= 0 and 1000 - n >= 0 and m >= 0 and 1000 - m >= 0"
	const third = box + " and i >= n + 1 and i <= 9 and 3 | i - n - 1"
	for _, x := range []struct {
		path []int
		want string
	}{
		{[]int{1, 0, 0}, "{ n, m, i : " + box + " and i >= 1 and 3 i >= n and i <= 9 or " + box + " and i >= 1 and 3 i >= n and i <= n and 4 i <= 2 n + 1 or " + box + " and i >= 5 and i <= 9 or " + box + " and i >= 5 and i <= n and 4 i <= 2 n + 1 }"},
		{[]int{2, 0, 0}, "{ n, m, i : " + third + " }"}, {[]int{2, 0, 1}, "{ n, m, i : " + third + " }"}, {[]int{2, 0, 0, 0, 0}, "{ n, m, i : " + third + " and 2 | i }"}, {[]int{2, 0, 0, 0, 1, 0, 0}, "{ n, m, i, j : " + third + " and 2 | i and j >= i and j <= m }"}, {[]int{2, 0, 0, 1, 0}, "{ n, m, i : " + third + " and 2 | i + 1 }"}, {[]int{3, 0, 0}, "{ n, m : " + box + " and n = 3 }"}, {[]int{3, 1, 0}, "{ n, m : " + box + " and n >= 4 or " + box + " and n <= 2 }"}, {[]int{3, 1, 1, 0, 0}, "{ n, m, k : " + box + " and n >= 4 and k >= n and k <= m or " + box + " and n <= 2 and k >= n and k <= m }"},
	} {
		c, e := tidy.Context(p, x.path)
		if want := of(t, x.want); e != api.OK || !same(c, want) {
			t.Errorf("Context(%v): %v, %d; want %v", x.path, c, e, want)
		}
	}
	// The context of the body is not made normal.
	for _, path := range [][]int{{0}, {1}, {3}} {
		if c, e := tidy.Context(p, path); e != api.OK || !same(c, raw(t, "{ n, m : "+box+" }")) {
			t.Errorf("Context(%v): %v, %d", path, c, e)
		}
	}
	if c, e := tidy.Context(parse(t, "array S; S = 1;"), []int{0}); e != api.OK || !same(c, raw(t, "{ : true }")) {
		t.Errorf("Context: %v, %d", c, e)
	}
	for _, path := range [][]int{nil, {4}, {-1}, {0, 0, 0}, {1, 1, 0}, {1, 0}} {
		if c, e := tidy.Context(p, path); e != api.ErrNone || c.Dim != 0 {
			t.Errorf("Context(%v): %v, %d", path, c, e)
		}
	}
	// What cannot be computed is left out.
	q := parse(t, "array S; for i = 0 to 9 { if { i : 509 | i } { S = 1; } else { S = 2; } }")
	if c, e := tidy.Context(q, []int{0, 0, 0, 1, 0}); e != api.OK || !same(c, of(t, "{ i : i >= 0 and i <= 9 }")) {
		t.Errorf("Context: %v, %d", c, e)
	}
	var low, high []string
	for i := range 21 {
		low, high = append(low, strconv.Itoa(i)+" - "+strconv.Itoa(i+1)+" i"), append(high, strconv.Itoa(i+30)+" + "+strconv.Itoa(i+30)+" i")
	}
	r := parse(t, "array S; for i = 0 to 9 { for j = min("+strings.Join(low, ", ")+") to max("+strings.Join(high, ", ")+") { S = 1; } }")
	if c, e := tidy.Context(r, []int{0, 0, 0, 0, 0}); e != api.OK || c.Dim != 2 || len(c.Pieces) != 21 {
		t.Errorf("Context: %d pieces, %d", len(c.Pieces), e)
	}
}

// P23.2.
func TestGist(t *testing.T) {
	for _, x := range []struct{ c, s, want string }{
		{"{ n, i : n >= 0 and i >= 0 and i <= n }", "{ n, i : i >= 0 and i <= n and n >= 0 }", "{ n, i : true }"}, {"{ n, i : n >= 0 and i >= 0 }", "{ n, i : i >= 0 and i <= n }", "{ n, i : n - i >= 0 }"}, {"{ i : i >= 5 }", "{ i : i <= 3 }", "{ i : false }"}, {"{ i : i >= 5 }", "{ i : i <= 3 or i >= 7 or i >= 4 }", "{ i : i >= 7 or true }"}, {"{ i : i >= 5 }", "{ i : i >= 1 or i >= 2 or i >= 3 }", "{ i : true }"}, {"{ i : false }", "{ i : i >= 1 }", "{ i : false }"}, {"{ i : i >= 5 }", "{ i : false }", "{ i : false }"}, {"{ i : true }", "{ i : i >= 1 and 2 | i }", "{ i : i >= 1 and 2 | i }"},
		// A condition that follows from the others is removed, the first one first.
		{"{ i, j : true }", "{ i, j : i >= 0 and j >= 0 and i + j >= 0 }", "{ i, j : i >= 0 and j >= 0 }"}, {"{ i : i <= 9 and i >= 0 }", "{ i : 2 | i and 4 | i and 8 | i }", "{ i : 8 | i }"}, {"{ i : 6 | i }", "{ i : 2 | i and 3 | i }", "{ i : true }"}, {"{ i : 2 | i }", "{ i : 4 | i and 3 | i }", "{ i : 3 | i and 4 | i }"}, {"{ i : i >= 0 and i <= 5 }", "{ i : 3 | i }", "{ i : 3 | i }"}, {"{ i : i >= 1 and i <= 5 }", "{ i : 3 | i and i >= 2 and i <= 4 }", "{ i : 3 | i }"},
		{"{ i, j : i = 2 j }", "{ i, j : 2 | i and i >= 0 and j >= 0 }", "{ i, j : i >= 0 }"}, {"{ i, j : i = j }", "{ i, j : i = j }", "{ i, j : true }"}, {"{ i, j : i <= j }", "{ i, j : i = j }", "{ i, j : i = j }"}, {"{ i, j : i >= 0 and j >= 0 }", "{ i, j : i = j and j >= 0 and i >= 0 and i <= 7 }", "{ i, j : i = j and i <= 7 }"},
		// Two pieces of the context.
		{"{ i : i >= 5 or i <= -5 }", "{ i : i >= 5 }", "{ i : i >= 5 }"}, {"{ i : i >= 5 or i = 3 }", "{ i : i >= 3 }", "{ i : true }"}, {"{ i : i >= 5 or i = 3 }", "{ i : i >= 4 }", "{ i : i >= 4 }"}, {"{ : true }", "{ : true or true or false }", "{ : true }"}, {"{ : true }", "{ : 1 = 0 }", "{ : false }"},
	} {
		g, e := tidy.Gist(raw(t, x.c), raw(t, x.s))
		if want := of(t, x.want); e != api.OK || !same(g, want) {
			t.Errorf("Gist(%q, %q): %v, %d; want %v", x.c, x.s, g, e, want)
		}
	}
	// Conditions that cannot be negated, or about which nothing can be found out, stay.
	most := api.Set{Dim: 1, Pieces: [][]api.Cond{{{Kind: api.Ge, L: api.Lin{C: []int{1}, K: api.MaxCoef}}}}}
	if g, e := tidy.Gist(raw(t, "{ i : i >= 0 }"), most); e != api.OK || !same(g, most) {
		t.Errorf("Gist: %v, %d", g, e)
	}
	if g, e := tidy.Gist(raw(t, "{ i : 509 | i }"), raw(t, "{ i : 509 | i }")); e != api.OK || !same(g, of(t, "{ i : 509 | i }")) {
		t.Errorf("Gist: %v, %d", g, e)
	}
	if g, e := tidy.Gist(raw(t, "{ i, j : 600 i = 601 j }"), raw(t, "{ i, j : i >= 0 and i >= 1 }")); e != api.OK || !same(g, of(t, "{ i, j : i >= 1 }")) {
		t.Errorf("Gist: %v, %d", g, e)
	}
	for _, x := range []struct {
		c, s api.Set
		e    api.Errno
	}{{api.Set{Dim: -1}, api.Set{}, api.ErrArg}, {api.Set{}, api.Set{Dim: 13}, api.ErrArg}, {api.Set{Dim: 1}, api.Set{Dim: 2, Pieces: [][]api.Cond{{{Kind: 7}}}}, api.ErrArg}, {api.Set{Dim: 1}, api.Set{Dim: 2}, api.ErrDim}} {
		if g, e := tidy.Gist(x.c, x.s); e != x.e || g.Dim != 0 {
			t.Errorf("Gist: %v, %d", g, e)
		}
	}
	s := raw(t, "{ i : i >= 1 and 2 | i }")
	g, _ := tidy.Gist(raw(t, "{ i : true }"), s)
	g.Pieces[0][0].L.C[0] = 99
	if !same(s, raw(t, "{ i : i >= 1 and 2 | i }")) {
		t.Error("shared memory")
	}
}

// P23.3: one pass.
func TestOnce(t *testing.T) {
	for _, x := range [][2]string{
		{"", ""}, {"array S; S = 1;", "array S; S = 1;"},
		// Tests.
		{"param n; array S; if { n : n >= 0 } { S = 1; S = 2; } else { S = 3; }", "param n; array S; S = 1; S = 2;"}, {"param n; array S; if { n : n >= 1001 } { S = 1; } else { S = 2; } S = 3;", "param n; array S; S = 2; S = 3;"}, {"param n; array S; if { n : n >= 1001 } { S = 1; }", "param n; array S;"}, {"param n; array S; if { n : n >= 5 } { } else { }", "param n; array S;"}, {"param n; array S; if { n : n >= 5 } { } else { S = 1; }", "param n; array S; if { n : n >= 5 } { } else { S = 1; }"}, {"param n; array S; if { n : n >= 5 and n <= 2000 or n = -1 } { S = 1; }", "param n; array S; if { n : n >= 5 } { S = 1; }"},
		{"param n; array S; if { n : n >= 5 } { if { n : n >= 3 } { S = 1; } else { S = 2; } } else { if { n : n <= 4 } { S = 3; } if { n : n >= 6 } { S = 4; } }", "param n; array S; if { n : n >= 5 } { S = 1; } else { S = 3; }"}, {"param n; array S; if { n : n >= 5 } { if { n : n <= 4 } { S = 1; } }", "param n; array S;"},
		// The Body of a test that always holds is simplified in the same context, that of another one in its own.
		{"param n; array S; if { n : n >= 0 and n <= 1000 } { if { n : n >= 3 } { S = 1; } }", "param n; array S; if { n : n >= 3 } { S = 1; }"},
		// Loops.
		{"param n; array S; for i = 0 to n { }", "param n; array S;"}, {"param n; array S; for i = 0 to n { if { n, i : i > n } { S = 1; } }", "param n; array S;"}, {"array S; for i = 3 to 2 { S = 1; }", "array S;"}, {"param n; array S; for i = 0 to n { for j = i to i { S = <n + 2 i + 3 j>; } }", "param n; array S; for i = 0 to n { S = <n + 5 i>; }"},
		{"param n; array S; for i = n to n step 3 parallel { S = <i>; }", "param n; array S; S = <n>;"}, {"param n; array S; for i = ceil(n, 2) to floor(n, 2) { S = <i>; }", "param n; array S; for i = ceil(n, 2) to floor(n, 2) { S = <i>; }"}, {"param n; array S; for i = n to n + 1 { S = <i>; }", "param n; array S; for i = n to n + 1 { S = <i>; }"},
		{"param n; array A[9]; for i = 5 to 5 { A[i - 3] = A[2 i]; for j = i + n to 2 i - n step 2 { if { n, i, j : j = i + 3 or 2 | j + i } { A[j + i] = <i - j>; } } }", "param n; array A[9]; A[2] = A[10]; for j = n + 5 to 10 - n step 2 { if { n, j : 8 = j or 2 | j + 5 } { A[j + 5] = <5 - j>; } }"},
		{"array A[9]; for i = 2 to 2 { for j = 0 to i { for k = j to i + j { A[k] = <i + j + k>; } } }", "array A[9]; for j = 0 to 2 { for k = j to j + 2 { A[k] = <j + k + 2>; } }"},
		// Rows and parts.
		{"param n; array S; for i = min(0, 0, max(n, n)) to max(9, min(n, 5, n, 5), 9) { S = 1; }", "param n; array S; for i = min(0, n) to max(9, min(n, 5)) { S = 1; }"}, {"param n; array S; for i = max(0, -n, -5) to min(n, n + 3, 2000) { S = 1; }", "param n; array S; for i = 0 to n { S = 1; }"}, {"param n; array S; for i = max(-5, 0) to min(n + 3, n) { S = 1; }", "param n; array S; for i = 0 to n { S = 1; }"}, {"param n; array S; for i = max(n, ceil(n, 2), ceil(3 n, 4)) to min(floor(3 n, 2), 2 n, floor(4 n, 3)) { S = 1; }", "param n; array S; for i = n to floor(4 n, 3) { S = 1; }"},
		// A row may follow from the others together with the other bound; equal rows of which one stays.
		{"param n; array S; for i = max(3, n) to min(n, 7) { S = 1; }", "param n; array S; for i = max(3, n) to min(n, 7) { S = 1; }"}, {"param n; array S; for i = max(0, n - 7) to min(n, 7, 2 n) { S = 1; }", "param n; array S; for i = max(0, n - 7) to min(n, 7) { S = 1; }"}, {"param n; array S; for i = max(n, 5) to min(n, 2 n) { S = 1; }", "param n; array S; for i = max(n, 5) to n { S = 1; }"},
		{"param n; array S; if { n : n >= 9 } { for i = max(n, 5) to min(n, 2 n) { S = <i>; } }", "param n; array S; if { n : n >= 9 } { S = <n>; }"},
		{"param n; array S; for i = min(n, 5) to n { S = <i>; } for i = n to max(n, 5) { S = <i>; } for i = n to min(n, 5) { S = <i>; }", "param n; array S; for i = min(n, 5) to n { S = <i>; } for i = n to max(n, 5) { S = <i>; } for i = n to min(n, 5) { S = <i>; }"},
		{"param n; array S; for i = max(ceil(2 n + 1, 2), n) to n + 9 { S = 1; } for i = 0 to min(floor(2 n - 1, 2), n) { S = 2; }", "param n; array S; for i = ceil(2 n + 1, 2) to n + 9 { S = 1; } for i = 0 to floor(2 n - 1, 2) { S = 2; }"},
		// Several parts: their rows stay.
		{"param n; array S; for i = min(max(0, -5), n) to n + 9 { S = 1; }", "param n; array S; for i = min(max(0, -5), n) to n + 9 { S = 1; }"}, {"param n; array S; for i = max(0, -5) to max(min(n, n + 1), 3) { S = 1; }", "param n; array S; for i = 0 to max(min(n, n + 1), 3) { S = 1; }"},
		// Parts that become equal by the rows that are removed.
		{"param n; array S; for i = min(max(n, n), n) to 9 { S = 1; }", "param n; array S; for i = min(n, n) to 9 { S = 1; }"},
		// The step counts in the context, and not for the bounds.
		{"param n; array S; for i = n to 9 step 2 { if { n, i : 2 | i - n } { S = 1; } }", "param n; array S; for i = n to 9 step 2 { S = 1; }"},
		// What is beyond the limits stays.
		{"array S; for i = 1048576 to 1048576 { S = <2 i>; }", "array S; for i = 1048576 to 1048576 { S = <2 i>; }"}, {"array S; for i = 0 to 9 { if { i : 509 | i } { S = 1; } else { S = 2; } }", "array S; for i = 0 to 9 { if { i : 509 | i } { S = 1; } else { S = 2; } }"},
	} {
		p := parse(t, x[0])
		q, e := tidy.Once(p)
		if text, _ := source.Print(q); e != api.OK || !lang.Same(q, parse(t, x[1])) {
			t.Errorf("Once of %q: %s, %d; want %s", x[0], text, e, x[1])
		}
		if !lang.Same(p, parse(t, x[0])) {
			t.Errorf("Once of %q changed its argument", x[0])
		}
	}
}

// P23.4, P23.9.
func TestTidy(t *testing.T) {
	for _, x := range [][2]string{
		{"", ""}, {"param n; array S; for i = min(max(n, n), n) to 9 { S = 1; }", "param n; array S; for i = n to 9 { S = 1; }"}, {"param n; array S; for i = 0 to n { for j = max(i, 0) to min(i, n) { S = <j>; } }", "param n; array S; for i = 0 to n { S = <i>; }"},
		{"param n; array A[n][n]; for t1 = 0 to n - 1 { for t2 = 0 to n - 1 { for x1 = max(t2, 0) to min(t2, n - 1) { for x2 = max(t1, 0) to min(t1, n - 1) { if { n, t1, t2, x1, x2 : t1 = x2 and t2 = x1 and n >= 0 and n <= 1000 and x1 >= 0 and x1 < n and x2 >= 0 and x2 < n } { A[x1][x2] = 1; } } } } }", "param n; array A[n][n]; for t1 = 0 to n - 1 { for t2 = 0 to n - 1 { A[t2][t1] = 1; } }"},
	} {
		q, e := tidy.Tidy(parse(t, x[0]))
		if text, _ := source.Print(q); e != api.OK || !lang.Same(q, parse(t, x[1])) {
			t.Errorf("Tidy of %q: %s, %d", x[0], text, e)
		}
	}
	// Example 1.
	p := parse(t, "param n; array A[n][n]; for i = 0 to n - 1 { for j = 0 to n - 1 { A[i][j] = 1; } }")
	s, _ := sched.Parse(p, "S0: (0 0 1 0) (0 1 0 0)\n")
	q, e := scan.Scan(p, s, []int{0, 0})
	if e != api.OK {
		t.Fatal(e)
	}
	r, e := tidy.Tidy(q)
	if text, _ := source.Print(r); e != api.OK || text != "param n;\narray A[n][n];\nfor t1 = 0 to n - 1 {\n  for t2 = 0 to n - 1 {\n    A[t2][t1] = 1;\n  }\n}\n" {
		t.Errorf("example 1: %s, %d", text, e)
	}
}

// P23.4: at most 12 passes. Two of them replace one loop: the first one makes two parts of its bound equal, the second one replaces it, so that the rows of the next one become equal.
func TestPasses(t *testing.T) {
	nest := func(n int) api.Program {
		text, end := "param n; array S; ", ""
		for i := range n {
			name, outer := string(rune('a'+i)), "n"
			if i > 0 {
				outer = string(rune('a' + i - 1))
			}
			text += "for " + name + " = min(max(" + outer + ", n), n) to n { "
			end += "}"
		}
		return parse(t, text+"S = <"+string(rune('a'+n-1))+">;"+end)
	}
	for n, want := range map[int]int{1: 2, 3: 6, 6: 12, 7: 12, 10: 12} {
		p := nest(n)
		r, e := tidy.Tidy(p)
		if e != api.OK {
			t.Fatal(e)
		}
		passes := 0
		for passes < 12 {
			q, e := tidy.Once(p)
			if e != api.OK {
				t.Fatal(e)
			}
			if lang.Same(p, q) {
				break
			}
			p, passes = q, passes+1
		}
		if passes != want || !lang.Same(p, r) {
			t.Errorf("%d loops: %d passes, %v", n, passes, r)
		}
		if n <= 6 && !lang.Same(r, parse(t, "param n; array S; S = <n>;")) {
			t.Errorf("%d loops: %v", n, r)
		}
	}
}

func TestErrors(t *testing.T) {
	bad := api.Program{Params: []string{"to"}}
	_, e1 := tidy.Context(bad, []int{9})
	_, e2 := tidy.Once(bad)
	_, e3 := tidy.Tidy(bad)
	a, b, c, e4 := tidy.Size(bad)
	if l := []api.Errno{e1, e2, e3, e4}; !slices.Equal(l, slices.Repeat([]api.Errno{api.ErrArg}, 4)) || a+b+c != 0 {
		t.Errorf("%v", l)
	}
}

// P23.5.
func TestSize(t *testing.T) {
	for _, x := range []struct {
		text              string
		stmts, rows, cond int
	}{
		{"", 0, 0, 0}, {"array S; S = 1; S = 2;", 2, 0, 0}, {"param n; array S; for i = min(0, max(1, 2)) to max(min(3, 4, 5), n) { S = 1; if { n, i : i = 0 and n = 0 or i = 1 or true } { S = 2; } else { if { n, i : 2 | i } { for j = 0 to 1 { } } } }", 6, 9, 4},
	} {
		a, b, c, e := tidy.Size(parse(t, x.text))
		if a != x.stmts || b != x.rows || c != x.cond || e != api.OK {
			t.Errorf("Size of %q: %d, %d, %d, %d", x.text, a, b, c, e)
		}
	}
}

// programs are some that can be simplified, with cells that exist for n up to 4.
func programs(t *testing.T) (l []api.Program) {
	for _, text := range []string{
		"param n; array A[40]; for i = max(0, -3) to min(n, n + 2) { A[i] = 1; if { n, i : 2 | i + n and i >= 0 } { for j = max(i, 0) to min(n, 2 n + i) step 1 { A[i + j] = A[j]; if { n, i, j : i > j } { A[0] = 9; } } } else { A[2 i] = 3; } } for i = n to n { A[i] = A[i] + <i>; }",
		"param n; array A[40]; for i = ceil(n, 2) to max(min(n, 4), floor(n + 3, 3), floor(n + 3, 3)) { for j = min(max(0, i - 2), n - 3) to n { if { n, i, j : i + j >= -9 and i >= 0 } { A[i + j + 4] = A[i] + A[j + 4]; } else { A[39] = 1; } } }",
		"param n; array A[40]; for i = 0 to n step 2 { if { n, i : 2 | i or i >= 7 } { A[i] = <i>; } for j = i to i { for k = j to j + 1 { A[k] = A[j] + <i + j + k>; } } } if { n : n >= 2000 or n <= 1 } { A[0] = 1; } else { if { n : n <= 1 } { A[1] = 2; } else { A[2] = 3; } }",
	} {
		l = append(l, parse(t, text))
	}
	for _, text := range []string{"param n; array A[n + 2][n + 2]; for i = 1 to n { for j = 1 to n { A[i][j] = A[i - 1][j] + A[i][j - 1]; } }", "param n; array A[n + 9]; for i = 0 to n { A[i] = A[i + 3]; for j = i to n { A[j] = A[i] + <n - 2 j>; } }"} {
		p := parse(t, text)
		deps, e := dep.All(p)
		if e != api.OK {
			t.Fatal(e)
		}
		for mode := range 2 {
			s, e := search.Search(p, deps, mode)
			if e != api.OK {
				continue
			}
			q, e := scan.Scan(p, s, make([]int, len(s.Rows[0])))
			if e != api.OK {
				t.Fatal(e)
			}
			l = append(l, q)
		}
	}
	return l
}

// P23.6.
func TestContexts(t *testing.T) {
	for _, p := range programs(t) {
		infos, _ := lang.Assigns(p)
		for n := range 5 {
			insts, e := run.Insts(p, []int{n})
			if e != api.OK {
				t.Fatal(e)
			}
			for _, x := range insts {
				// The context of each statement on the path contains the point of its space.
				path := infos[x.Stmt].Path
				for k := 1; k <= len(path); k += 2 {
					c, e := tidy.Context(p, path[:k])
					if e != api.OK {
						t.Fatal(e)
					}
					if in, e := set.Has(c, append([]int{n}, x.At...)[:c.Dim]); !in || e != api.OK {
						t.Fatalf("%v is not in the context of %v", x, path[:k])
					}
				}
			}
		}
	}
}

// P23.7.
func TestGists(t *testing.T) {
	r := rand.New(rand.NewSource(26))
	some := func(pieces int) api.Set {
		s := api.Set{Dim: 2}
		for range pieces {
			p := []api.Cond{}
			for range r.Intn(4) {
				c := api.Cond{Kind: api.Ge, L: api.Lin{C: []int{r.Intn(5) - 2, r.Intn(5) - 2}, K: r.Intn(9) - 3}}
				switch r.Intn(5) {
				case 0:
					c.Kind = api.Eq
				case 1:
					c.Kind, c.M = api.Div, 2+r.Intn(2)
				}
				p = append(p, c)
			}
			s.Pieces = append(s.Pieces, p)
		}
		return s
	}
	smaller := 0
	for range 200 {
		c, s := some(r.Intn(2)+1), some(r.Intn(3)+1)
		g, e := tidy.Gist(c, s)
		if e != api.OK {
			t.Fatal(e)
		}
		before, after := 0, 0
		for _, p := range s.Pieces {
			before += len(p)
		}
		for _, p := range g.Pieces {
			after += len(p)
		}
		if after < before {
			smaller++
		}
		for i := -8; i <= 8; i++ {
			for j := -8; j <= 8; j++ {
				in, _ := set.Has(c, []int{i, j})
				a, _ := set.Has(s, []int{i, j})
				b, _ := set.Has(g, []int{i, j})
				if in && a != b {
					t.Fatalf("Gist(%v, %v) = %v is wrong at %d, %d", c, s, g, i, j)
				}
			}
		}
	}
	if smaller < 50 {
		t.Errorf("%d gists are smaller", smaller)
	}
}

// P23.8, P23.9.
func TestExecutions(t *testing.T) {
	for k, p := range programs(t) {
		once, e := tidy.Once(p)
		all, f := tidy.Tidy(p)
		if e != api.OK || f != api.OK {
			t.Fatal(e, f)
		}
		if again, e := tidy.Tidy(all); e != api.OK || !lang.Same(again, all) {
			t.Errorf("program %d: Tidy changes its result", k)
		}
		for _, q := range []api.Program{once, all} {
			a1, b1, c1, _ := tidy.Size(p)
			a2, b2, c2, e := tidy.Size(q)
			if e != api.OK || a2 > a1 || b2 > b1 || c2 > c1 || a2+b2+c2 >= a1+b1+c1 {
				t.Errorf("program %d: the size %d, %d, %d became %d, %d, %d", k, a1, b1, c1, a2, b2, c2)
			}
			for n := range 5 {
				m, _ := run.Fresh(p, []int{n}, 3)
				_, steps, e := run.Run(p, []int{n}, m)
				_, less, f := run.Run(q, []int{n}, m)
				x, _ := run.Trace(p, []int{n}, m)
				y, _ := run.Trace(q, []int{n}, m)
				if e != api.OK || f != api.OK || less > steps || !slices.EqualFunc(x, y, func(a, b run.Event) bool {
					return a.Pos == b.Pos && a.Array == b.Array && a.Cell == b.Cell && a.Value == b.Value
				}) {
					t.Errorf("program %d, n = %d: %d, %d, %d and %d steps", k, n, e, f, steps, less)
				}
			}
		}
	}
}
