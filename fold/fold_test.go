package fold_test

import (
	"headland/api"
	"headland/elim"
	"headland/flow"
	"headland/fold"
	"headland/lang"
	"headland/run"
	"headland/source"
	"headland/tidy"
	"math"
	"slices"
	"strings"
	"testing"
)

func parse(t *testing.T, text string) api.Program {
	t.Helper()
	p, e := source.Parse(text)
	if e != api.OK {
		t.Fatalf("Parse(%q): %d", text, e)
	}
	return p
}

const (
	copies = "param n; array T[n]; array A[n]; array B[n]; for i = 0 to n - 1 { T[i] = A[i]; B[i] = T[i]; }"
	fib    = "param n; array T[n + 2]; array B[n + 2]; T[0] = 1; T[1] = 1; for i = 2 to n { T[i] = T[i - 1] + T[i - 2]; B[i] = T[i]; }"
	prefix = "param n; array T[n + 2]; array A[n + 2]; array B[n + 2]; T[0] = 0; for i = 0 to n { T[i + 1] = T[i] + A[i]; } for i = 0 to n { B[i] = T[i + 1]; }"
	rows   = "param n; array T[n + 1][n + 1]; array A[n + 1]; array S; for j = 0 to n { T[0][j] = A[j]; } for i = 1 to n { for j = 0 to n { T[i][j] = T[i - 1][j] + T[i - 1][n - j]; } } for j = 0 to n { S = S + T[n][j]; }"
	initl  = "param n; array T[n + 1]; array B[n + 1]; for i = 0 to n { B[i] = T[i]; T[i] = 1; }"
	far    = "param n; array T[n + 20]; array B[n + 20]; for i = 0 to 8 { T[i] = <i>; } for i = 0 to n { T[i + 9] = T[i] + 1; B[i] = T[i + 9]; }"
)

// P25.1.
func TestPassing(t *testing.T) {
	for _, x := range []struct {
		text string
		a    int
		want bool
	}{{copies, 0, true}, {copies, 1, false}, {copies, 2, true}, {fib, 0, true}, {prefix, 0, true}, {prefix, 1, false}, {rows, 0, true}, {rows, 2, false}, {initl, 0, false}, {initl, 1, true}, {"array S; array T; S = 1;", 1, true}, {"array S; S = S;", 0, false}, {"array S; if { : false } { S = S; }", 0, true}} {
		if ok, e := fold.Passing(parse(t, x.text), x.a); ok != x.want || e != api.OK {
			t.Errorf("Passing of %q, %d: %v, %d", x.text, x.a, ok, e)
		}
	}
}

// P25.2, P25.3.
func TestGoodLeast(t *testing.T) {
	for _, x := range []struct {
		text   string
		a      int
		moduli []int
		want   bool
	}{
		{copies, 0, []int{1}, true}, {copies, 0, []int{0}, true}, {copies, 0, []int{8}, true}, {copies, 1, []int{1}, true}, {fib, 0, []int{1}, false}, {fib, 0, []int{2}, true}, {fib, 0, []int{3}, true}, {fib, 0, []int{0}, true}, {prefix, 0, []int{8}, false}, {prefix, 0, []int{0}, true}, {rows, 0, []int{2, 0}, true}, {rows, 0, []int{1, 0}, false}, {rows, 0, []int{2, 8}, false}, {rows, 0, []int{0, 8}, false}, {rows, 0, []int{0, 0}, true}, {"array S; S = 1; S = S + 2;", 0, nil, true}, {"array T[9]; array S; T[0] = 1; T[3] = 2; S = T[0];", 0, []int{3}, false}, {"array T[9]; array S; T[0] = 1; T[3] = 2; S = T[0];", 0, []int{2}, true}, {"array T[9]; array S; T[0] = 1; T[3] = 2; S = T[0];", 0, []int{6}, true}, {"array T[9]; array S; T[0] = 1; T[3] = 2; S = T[3];", 0, []int{1}, true}, {"array T[9][9]; array S; T[0][1] = 1; T[2][3] = 2; S = T[0][1];", 0, []int{1, 1}, false}, {"array T[9][9]; array S; T[0][1] = 1; T[2][3] = 2; S = T[0][1];", 0, []int{1, 0}, true}, {"array T[9][9]; array S; T[0][1] = 1; T[2][3] = 2; S = T[0][1];", 0, []int{1, 3}, true},
	} {
		if ok, e := fold.Good(parse(t, x.text), x.a, x.moduli); ok != x.want || e != api.OK {
			t.Errorf("Good of %q, %d, %v: %v, %d", x.text, x.a, x.moduli, ok, e)
		}
	}
	for _, x := range []struct {
		text string
		a, k int
		m    int
		e    api.Errno
	}{{copies, 0, 0, 1, api.OK}, {fib, 0, 0, 2, api.OK}, {prefix, 0, 0, 0, api.ErrNone}, {rows, 0, 0, 2, api.OK}, {rows, 0, 1, 0, api.ErrNone}, {rows, 0, 2, 0, api.ErrDim}, {copies, 0, -1, 0, api.ErrDim}, {copies, 0, math.MaxInt, 0, api.ErrDim}, {"array S; S = 1;", 0, 0, 0, api.ErrDim}, {far, 0, 0, 0, api.ErrNone}, {strings.NewReplacer("8", "7", "9", "8").Replace(far), 0, 0, 8, api.OK}} {
		if m, e := fold.Least(parse(t, x.text), x.a, x.k); m != x.m || e != x.e {
			t.Errorf("Least of %q, %d, %d: %d, %d", x.text, x.a, x.k, m, e)
		}
	}
}

// P25.4.
func TestFold(t *testing.T) {
	for _, x := range []struct {
		text   string
		a      int
		moduli []int
		want   string
		e      api.Errno
	}{
		{copies, 0, []int{1}, "param n; array T[1]; array A[n]; array B[n]; for i = 0 to n - 1 { T[0] = A[i]; B[i] = T[0]; }", api.OK}, {copies, 0, []int{0}, copies, api.OK}, {copies, 0, []int{2}, "param n; array T[2]; array A[n]; array B[n]; for i = 0 to n - 1 { if { n, i : 2 | i } { T[0] = A[i]; } else { T[1] = A[i]; } if { n, i : 2 | i } { B[i] = T[0]; } else { B[i] = T[1]; } }", api.OK}, {copies, 2, []int{1}, "param n; array T[n]; array A[n]; array B[1]; for i = 0 to n - 1 { T[i] = A[i]; B[0] = T[i]; }", api.OK},
		{"param n; array T[n][n]; array S; for i = 0 to n - 1 { for j = 0 to n - 1 { T[i][j] = <j>; S = T[i][j] * S; } }", 0, []int{3, 0}, "param n; array T[3][n]; array S; for i = 0 to n - 1 { for j = 0 to n - 1 { if { n, i, j : 3 | i } { T[0][j] = <j>; } else { if { n, i, j : 3 | i - 1 } { T[1][j] = <j>; } else { T[2][j] = <j>; } } if { n, i, j : 3 | i } { S = T[0][j] * S; } else { if { n, i, j : 3 | i - 1 } { S = T[1][j] * S; } else { S = T[2][j] * S; } } } }", api.OK},
		// The classes come in the order of the accesses, and equal ones count once; the same expression with another modulus is another one.
		{"param n; array T[n + 9][n + 9]; array S; for i = 0 to n { T[i][i] = 1; S = T[i][i]; }", 0, []int{2, 2}, "param n; array T[2][2]; array S; for i = 0 to n { if { n, i : 2 | i } { T[0][0] = 1; } else { T[1][1] = 1; } if { n, i : 2 | i } { S = T[0][0]; } else { S = T[1][1]; } }", api.OK},
		{"param n; array T[n + 9][n + 9]; array S; for i = 0 to n { T[i][i] = 1; S = T[i][i]; }", 0, []int{2, 1}, "param n; array T[2][1]; array S; for i = 0 to n { if { n, i : 2 | i } { T[0][0] = 1; } else { T[1][0] = 1; } if { n, i : 2 | i } { S = T[0][0]; } else { S = T[1][0]; } }", api.OK},
		{"param n; array T[n + 9]; array S; T[0] = 1; for i = 0 to n { T[i + 1] = T[i] + S * T[i]; }", 0, []int{2}, "param n; array T[2]; array S; if { n : 2 | 0 } { T[0] = 1; } else { T[1] = 1; } for i = 0 to n { if { n, i : 2 | i + 1 } { if { n, i : 2 | i } { T[0] = T[0] + S * T[0]; } else { T[0] = T[1] + S * T[1]; } } else { if { n, i : 2 | i } { T[1] = T[0] + S * T[0]; } else { T[1] = T[1] + S * T[1]; } } }", api.OK},
		{initl, 0, []int{0}, "", api.ErrState}, {fib, 0, []int{1}, "", api.ErrState}, {rows, 0, []int{2, 8}, "", api.ErrState}, {copies, 0, nil, "", api.ErrDim}, {copies, 0, []int{9, 9}, "", api.ErrDim}, {copies, 0, []int{9}, "", api.ErrRange}, {copies, 0, []int{-1}, "", api.ErrRange}, {initl, 0, []int{math.MinInt}, "", api.ErrRange}, {"array S; S = 1; S = S + 1;", 0, nil, "array S; S = 1; S = S + 1;", api.OK},
	} {
		p := parse(t, x.text)
		q, e := fold.Fold(p, x.a, x.moduli)
		want := api.Program{}
		if x.e == api.OK {
			want = parse(t, x.want)
		}
		if text, _ := source.Print(q); e != x.e || !lang.Same(q, want) {
			t.Errorf("Fold of %q, %d, %v: %s, %d", x.text, x.a, x.moduli, text, e)
		}
		if !lang.Same(p, parse(t, x.text)) {
			t.Error("the argument was changed")
		}
	}
	// Example 2: eight leaves, of which tidy leaves two.
	q, e := fold.Fold(parse(t, fib), 0, []int{2})
	if e != api.OK {
		t.Fatal(e)
	}
	infos, _ := lang.Assigns(q)
	if len(infos) != 2+2+8+2 {
		t.Errorf("%d assignments", len(infos))
	}
	r, e := tidy.Tidy(q)
	if e != api.OK {
		t.Fatal(e)
	}
	if infos, _ := lang.Assigns(r); len(infos) != 1+1+2+2 {
		text, _ := source.Print(r)
		t.Errorf("%d assignments: %s", len(infos), text)
	}
}

func TestLimits(t *testing.T) {
	// The number of a test beyond the limits, and at them.
	for k, want := range map[string]api.Errno{"1048576": api.ErrFull, "1048575": api.OK} {
		p := parse(t, "param n; array T[9]; array S; for i = 0 to n { T[i - "+k+"] = 1; }")
		if q, e := fold.Fold(p, 0, []int{3}); e != want || e != api.OK && !lang.Same(q, api.Program{}) {
			t.Errorf("%s: %d, want %d", k, e, want)
		}
	}
	// Eight classes with eight values are 8^8 leaves, seven classes with two values 128.
	text := func(n int) api.Program {
		l := []string{}
		for i := range n {
			l = append(l, "T[i + "+string(rune('0'+i))+"]")
		}
		return parse(t, "param n; array T[n + 9]; array B[n + 9]; for i = 0 to n + 8 { T[i] = 1; } for i = 0 to n { B[i] = "+strings.Join(l, " + ")+"; }")
	}
	if q, e := fold.Fold(text(8), 0, []int{8}); e != api.ErrState || !lang.Same(q, api.Program{}) {
		t.Errorf("%d", e)
	}
	same := func(n int) api.Program {
		l := []string{}
		for i := range n {
			l = append(l, "T["+strings.Repeat("i + ", i)+"n]")
		}
		return parse(t, "param n; array T[9 n + 9]; array S; S = "+strings.ReplaceAll(strings.Join(l, " + "), "i", "n")+"; S = T[0];")
	}
	// Without a writer all moduli are valid, and reads of no initial value are those that are never executed.
	dead := func(n int) api.Program {
		p := same(n)
		p.Body = []api.Stmt{{Kind: api.If, Test: api.Set{Dim: 1}, Body: p.Body[:1]}}
		return p
	}
	for n, want := range map[int]api.Errno{7: api.OK, 8: api.ErrFull, 30: api.ErrFull} {
		if q, e := fold.Fold(dead(n), 0, []int{2}); e != want || e != api.OK && !lang.Same(q, api.Program{}) {
			t.Errorf("%d classes: %d, want %d", n, e, want)
		}
	}
	// Different classes whose numbers are alike without what separates them.
	alike := parse(t, "array T[9]; array S; for i = 0 to 9 { for j = 1 to 0 { S = T[i + 23 j] + T[12 i + 3 j]; } }")
	if q, e := fold.Fold(alike, 0, []int{2}); e != api.OK {
		t.Errorf("%d", e)
	} else if infos, _ := lang.Assigns(q); len(infos) != 4 {
		t.Errorf("%d assignments", len(infos))
	}
	if _, e := fold.Fold(dead(20), 0, []int{1}); e != api.OK {
		t.Errorf("20 classes of one value: %d", e)
	}
}

// P25.5.
func TestCells(t *testing.T) {
	for _, x := range []struct {
		text   string
		params []int
		n      int
		e      api.Errno
	}{{copies, []int{5}, 15, api.OK}, {rows, []int{2}, 13, api.OK}, {"", nil, 0, api.OK}, {copies, nil, 0, api.ErrDim}, {copies, []int{-1}, 0, api.ErrRange}, {rows, []int{64}, 0, api.ErrFull}, {"array A[-3]; array S;", nil, 1, api.OK}} {
		if n, e := fold.Cells(parse(t, x.text), x.params); n != x.n || e != x.e {
			t.Errorf("Cells of %q: %d, %d", x.text, n, e)
		}
	}
}

func TestErrors(t *testing.T) {
	all := func(p api.Program, a int) []api.Errno {
		_, e1 := fold.Passing(p, a)
		_, e2 := fold.Good(p, a, []int{9, 9, 9, 9})
		_, e3 := fold.Least(p, a, 9)
		q, e4 := fold.Fold(p, a, []int{9, 9, 9, 9})
		if !lang.Same(q, api.Program{}) {
			t.Error("a result with an error")
		}
		return []api.Errno{e1, e2, e3, e4}
	}
	bad := api.Program{Params: []string{"to"}}
	if l := all(bad, 9); !slices.Equal(l, slices.Repeat([]api.Errno{api.ErrArg}, 4)) {
		t.Errorf("an invalid program: %v", l)
	}
	if _, e := fold.Cells(bad, []int{-1}); e != api.ErrArg {
		t.Errorf("an invalid program: %d", e)
	}
	for _, a := range []int{-1, 3, math.MinInt, math.MaxInt} {
		if l := all(parse(t, copies), a); !slices.Equal(l, slices.Repeat([]api.Errno{api.ErrRange}, 4)) {
			t.Errorf("array %d: %v", a, l)
		}
	}
	// Computations that are refused.
	for _, text := range []string{
		"array S; array T; for i = 0 to 9 { if { i : 509 | i } { S = 1; } else { T = S; } }", "param n; param m; array S; array T; for a = 0 to 1 { for b = 0 to 1 { for c = 0 to 1 { for d = 0 to 1 { S = 1; T = S; } } } }",
	} {
		p := parse(t, text)
		_, e1 := fold.Passing(p, 0)
		_, e2 := fold.Good(p, 0, nil)
		_, e3 := fold.Fold(p, 0, nil)
		if e1 != api.ErrFull || e2 != api.ErrFull || e3 != api.ErrFull {
			t.Errorf("%q: %d, %d, %d", text, e1, e2, e3)
		}
	}
	// The sources need 1 + 3 + 3 + 4 variables, and the conflicts with the other writer 1 + 3 + 5 + 4.
	p := parse(t, "param n; array A[1]; array B[1]; for a = 0 to 1 { for b = 0 to 1 { for c = 0 to 1 { A[0] = 1; for d = 0 to 1 { B[0] = A[0]; } } } }")
	if ok, e := fold.Good(p, 0, []int{1}); !ok || e != api.OK {
		t.Errorf("%v, %d", ok, e)
	}
	if m, e := fold.Least(p, 0, 0); m != 1 || e != api.OK {
		t.Errorf("%d, %d", m, e)
	}
	// A difference of subscripts that is beyond the limits.
	wide := parse(t, "array T[9]; array S; for i = 0 to 9 { for j = 0 to 9 { T[1048576 - i - j] = 1; T[i + 2 j - 1048576] = 2; S = T[1048576 - i - j]; } }")
	if ok, e := fold.Good(wide, 0, []int{0}); ok || e != api.ErrFull {
		t.Errorf("%v, %d", ok, e)
	}
	// Whether there are conflicts cannot be decided.
	open := parse(t, "array T[9]; array S; for i = 0 to 9999 { T[0] = 1; for j = 0 to 9999 { if { i, j : 600 i = 601 j } { T[1] = 2; } } S = T[0]; }")
	if ok, e := fold.Good(open, 0, []int{1}); ok || e != api.ErrFull {
		t.Errorf("%v, %d", ok, e)
	}
}

// P25.6: whatever the folded array contains at first.
func TestExecutions(t *testing.T) {
	for _, x := range []struct {
		text   string
		a      int
		moduli []int
	}{
		{copies, 0, []int{1}}, {copies, 0, []int{3}}, {fib, 0, []int{2}}, {fib, 0, []int{3}}, {fib, 0, []int{4}}, {rows, 0, []int{2, 0}}, {strings.NewReplacer("8", "2", "9", "3").Replace(far), 0, []int{3}}, {"param n; array T[n + 9][n + 9]; array B[n + 1]; for i = 0 to n { for j = 0 to n { T[i][j] = <i>; } for j = 0 to n { B[i] = B[i] + T[i][j] * 3; } }", 0, []int{1, 0}},
		{"param n; array T[2 n + 9]; array B[2 n + 9]; for i = 0 to n { if { n, i : 2 | i } { T[2 i] = <i>; } else { T[2 i] = B[i]; } T[2 i + 1] = 5; B[i] = T[2 i] + T[2 i + 1]; }", 0, []int{2}},
	} {
		text := x.text
		p := parse(t, text)
		q, e := fold.Fold(p, x.a, x.moduli)
		if e != api.OK {
			t.Errorf("Fold of %q, %v: %d", text, x.moduli, e)
			continue
		}
		for n := range 6 {
			m, _ := run.Fresh(p, []int{n}, 1)
			want, _, e := run.Run(p, []int{n}, m)
			if e != api.OK {
				t.Fatalf("%q, %d: %d", text, n, e)
			}
			for seed := range 2 {
				k, _ := run.Fresh(q, []int{n}, 100+seed)
				for a := range k {
					if a != x.a {
						k[a] = slices.Clone(m[a])
					}
				}
				got, _, e := run.Run(q, []int{n}, k)
				if e != api.OK {
					t.Fatalf("%q, %d: %d", text, n, e)
				}
				for a := range got {
					if a != x.a && !slices.Equal(got[a], want[a]) {
						t.Errorf("%q, %v, n = %d: array %d is %v, not %v", text, x.moduli, n, a, got[a], want[a])
					}
				}
			}
		}
	}
}

// P25.7.
func TestMultiples(t *testing.T) {
	for _, text := range []string{copies, fib, prefix, rows, far, "array T[9]; array S; T[0] = 1; T[3] = 2; T[5] = 3; S = T[0] + T[3];"} {
		p := parse(t, text)
		moduli := make([]int, len(p.Arrays[0].Sizes))
		good := [9]bool{}
		for m := 1; m <= 8; m++ {
			moduli[0] = m
			ok, e := fold.Good(p, 0, moduli)
			if e != api.OK {
				t.Fatal(e)
			}
			good[m] = ok
		}
		for m := 1; m <= 8; m++ {
			for k := m; k <= 8; k += m {
				if good[m] && !good[k] {
					t.Errorf("%q: %d is valid, %d is not", text, m, k)
				}
			}
		}
	}
}

// P25.8: moduli are valid if and only if no write of an execution hits a folded cell that still has to be read.
func TestConflicts(t *testing.T) {
	for _, text := range []string{copies, fib, prefix, far, "param n; array T[2 n + 30]; array B[n + 1]; for i = 0 to n { T[2 i] = 1; T[3 i + 1] = 2; B[i] = T[2 i]; }", "array T[9]; array S; T[0] = 1; T[3] = 2; T[5] = 3; S = T[0] + T[3];"} {
		p := parse(t, text)
		for m := 1; m <= 8; m++ {
			good, e := fold.Good(p, 0, []int{m})
			if e != api.OK {
				t.Fatal(e)
			}
			found := false
			for n := 0; n < 14 && !found; n++ {
				params := []int{n}[:len(p.Params)]
				memory, _ := run.Fresh(p, params, 1)
				events, e := run.Trace(p, params, memory)
				if e != api.OK {
					t.Fatal(e)
				}
				found = conflict(events, m)
			}
			if good == found {
				t.Errorf("%q, %d: valid %v, a conflict %v", text, m, good, found)
			}
		}
	}
}

// conflict reports whether a cell of array 0 is read after another one with the same remainder was written, later than it.
func conflict(events []run.Event, m int) bool {
	wrote := map[int]int{} // the position of the last write to each cell
	for k, x := range events {
		if x.Array != 0 {
			continue
		}
		if x.Pos == 0 {
			wrote[x.Cell] = k
			continue
		}
		first, ok := wrote[x.Cell]
		for cell, at := range wrote {
			if ok && cell != x.Cell && cell%m == x.Cell%m && at > first {
				return true
			}
		}
	}
	return false
}

// The array is temporary if and only if flow finds no live cells.
func TestLive(t *testing.T) {
	for _, text := range []string{copies, fib, prefix, rows, initl, far} {
		p := parse(t, text)
		for a := range p.Arrays {
			live, e := flow.Live(p, a)
			if e != api.OK {
				t.Fatal(e)
			}
			none, _ := elim.Empty(live)
			if ok, e := fold.Passing(p, a); ok != none || e != api.OK {
				t.Errorf("%q, %d: %v, %d", text, a, ok, e)
			}
		}
	}
}
