package expand_test

import (
	"headland/api"
	"headland/elim"
	"headland/expand"
	"headland/flow"
	"headland/lang"
	"headland/run"
	"headland/settext"
	"headland/source"
	"math"
	"slices"
	"strings"
	"testing"
)

const most = api.MaxCoef

func parse(t *testing.T, text string) api.Program {
	t.Helper()
	p, e := source.Parse(text)
	if e != api.OK {
		t.Fatalf("Parse(%q): %d", text, e)
	}
	return p
}

func l(k int, c ...int) api.Lin { return api.Lin{C: c, K: k} }

func list(x ...api.Lin) []api.Lin { return x }

const (
	scalar = "param n; array T; array A[n]; array B[n]; for i = 0 to n - 1 { T = A[i]; B[i] = T; }"
	one    = "param n; array T[1]; array A[n]; array B[n]; for i = 0 to n - 1 { T[0] = A[i]; B[i] = T[0]; }"
	chain  = "param n; array A[n + 1]; for i = 1 to n { A[i] = A[i - 1] + 1; }"
	sum    = "param n; array S; array A[n]; S = 0; for i = 0 to n - 1 { S = S + A[i]; } A[0] = S * 2;"
	grid   = "param n; array A[n + 1][n + 1]; for i = 1 to n { for j = 1 to n { A[i][j] = A[i - 1][j] + A[i][j - 1]; } }"
	twice  = "param n; array S; array B[2 n + 2]; for i = 0 to n { S = <i>; if { n, i : 2 | i } { S = 7; } B[i] = S + S; for j = 0 to 1 { B[i + j] = B[i + j] * S; } }"
)

// P26.1.
func TestHolds(t *testing.T) {
	for _, x := range []struct {
		text      string
		s         int
		low, size []api.Lin
		want      bool
		e         api.Errno
	}{
		{one, 0, list(l(0, 0)), list(l(0, 1)), true, api.OK}, {one, 0, list(l(0, 0)), list(l(-1, 1)), false, api.OK}, {one, 0, list(l(1, 0)), list(l(0, 1)), false, api.OK}, {one, 0, list(l(-5, 0)), list(l(5, 1)), true, api.OK}, {one, 0, list(l(-5, 0)), list(l(4, 1)), false, api.OK}, {one, 0, list(l(-5, 0)), list(l(2000, 0)), true, api.OK}, {one, 0, list(l(0, 1)), list(l(9, 0)), false, api.OK}, {one, 0, list(l(0, -1)), list(l(0, 2)), true, api.OK}, {one, 0, list(l(0, -1)), list(l(-1, 2)), false, api.OK}, {sum, 0, nil, nil, true, api.OK}, {sum, 0, list(), list(), true, api.OK},
		{grid, 0, list(l(1, 0), l(1, 0)), list(l(0, 1), l(0, 1)), true, api.OK}, {grid, 0, list(l(1, 0), l(2, 0)), list(l(0, 1), l(0, 1)), false, api.OK}, {grid, 0, list(l(1, 0), l(1, 0)), list(l(0, 1), l(-1, 1)), false, api.OK}, {grid, 0, list(l(2, 0), l(1, 0)), list(l(0, 1), l(0, 1)), false, api.OK}, {grid, 0, list(l(1, 0), l(1, 0)), list(l(-1, 1), l(0, 1)), false, api.OK}, {"array S; if { : false } { S = 1; }", 0, nil, nil, true, api.OK}, {"array S; for i = 1 to 0 { S = 1; }", 0, list(l(0)), list(l(0)), true, api.OK},
		{one, 2, list(l(0, 0)), list(l(0, 1)), false, api.ErrNone}, {one, -1, nil, nil, false, api.ErrNone}, {one, math.MaxInt, nil, nil, false, api.ErrNone}, {one, 0, nil, list(l(0, 1)), false, api.ErrDim}, {one, 0, list(l(0, 0)), nil, false, api.ErrDim}, {one, 0, list(l(most+1, 0), l(0)), list(l(0, 1)), false, api.ErrDim}, {sum, 0, list(l(0, 0)), nil, false, api.ErrDim}, {one, 0, list(l(most+1, 0)), list(l(0)), false, api.ErrArg}, {one, 0, list(l(0)), list(l(-most-1, 0)), false, api.ErrArg}, {one, 0, list(l(0)), list(l(0, 1)), false, api.ErrDim}, {one, 0, list(l(0, 1)), list(l(0, 1, 0)), false, api.ErrDim},
		{"array S; for a = 0 to 1 { for b = 0 to 1 { for c = 0 to 1 { for d = 0 to 1 { S = 1; } } } }", 0, nil, nil, false, api.ErrFull}, {"array S; for a = 0 to 1 { for b = 0 to 1 { for c = 0 to 1 { S = 1; } } }", 0, list(l(0), l(0), l(0)), list(l(2), l(2), l(2)), true, api.OK},
		// Beyond the limits, but void with the domain; and not void.
		{"array S; for i = 0 to 9 { S = 1; }", 0, list(l(-most)), list(l(most)), false, api.OK}, {"array S; for i = -9 to -1 { S = 1; }", 0, list(l(-most)), list(l(most)), true, api.OK}, {"param n; array S; for i = n to n + 5 { S = 1; }", 0, list(l(-most, 0)), list(l(-most, 0)), false, api.ErrFull}, {"param n; array S; for i = n to 2 n { S = 1; }", 0, list(l(-most, most)), list(l(0, most)), false, api.ErrFull},
		{"array S; for i = 0 to 9 { if { i : 509 | i } { S = 1; } else { S = 2; } }", 1, list(l(0)), list(l(10)), false, api.ErrFull}, {"array S; for i = 0 to 9999 { for j = 0 to 9999 { if { i, j : 600 i = 601 j } { S = 1; } } }", 0, list(l(5), l(5)), list(l(9), l(9)), false, api.ErrFull},
	} {
		p := parse(t, x.text)
		if ok, e := expand.Holds(p, x.s, x.low, x.size); ok != x.want || e != x.e {
			t.Errorf("Holds of %q, %v, %v: %v, %d", x.text, x.low, x.size, ok, e)
		}
		want := x.e
		if want == api.OK && !x.want {
			want = api.ErrRange
		}
		q, e := expand.Split(p, x.s, x.low, x.size)
		r, f := expand.Expand(p, x.s, x.low, x.size)
		if e != want || f != want && want != api.OK || want != api.OK && (!lang.Same(q, api.Program{}) || !lang.Same(r, api.Program{})) {
			t.Errorf("Split of %q, %v, %v: %d, %d, want %d", x.text, x.low, x.size, e, f, want)
		}
	}
}

func checkProgram(t *testing.T, what string, q api.Program, e api.Errno, want string) {
	t.Helper()
	if text, _ := source.Print(q); e != api.OK || !lang.Same(q, parse(t, want)) {
		t.Errorf("%s: %s, %d; want %s", what, text, e, want)
	}
}

// P26.2.
func TestSplit(t *testing.T) {
	for _, x := range []struct {
		text      string
		s         int
		low, size []api.Lin
		want      string
	}{
		{one, 0, list(l(0, 0)), list(l(0, 1)), "param n; array T[1]; array A[n]; array B[n]; array e1[n]; for i = 0 to n - 1 { e1[i] = A[i]; T[0] = e1[i]; B[i] = T[0]; }"},
		{grid, 0, list(l(1, 0), l(-3, -1)), list(l(5, 1), l(4, 2)), "param n; array A[n + 1][n + 1]; array e1[n + 5][2 n + 4]; for i = 1 to n { for j = 1 to n { e1[i - 1][j + n + 3] = A[i - 1][j] + A[i][j - 1]; A[i][j] = e1[i - 1][j + n + 3]; } }"},
		{"array e1; array S; for e2 = 0 to 3 { S = 1; } if { : true } { e1 = S; } else { S = 3; }", 1, nil, nil, "array e1; array S; array e3; for e2 = 0 to 3 { S = 1; } if { : true } { e3 = S; e1 = e3; } else { S = 3; }"},
	} {
		p := parse(t, x.text)
		q, e := expand.Split(p, x.s, x.low, x.size)
		checkProgram(t, "Split", q, e, x.want)
		if !lang.Same(p, parse(t, x.text)) {
			t.Error("the argument was changed")
		}
	}
	// Too many arrays, and too many statements.
	for text, want := range map[string]api.Errno{
		"array A; array B; array C; array D; array E; array F; array G; A = 1;": api.OK, "array A; array B; array C; array D; array E; array F; array G; array H; A = 1;": api.ErrFull, "array A; " + strings.Repeat("A = 1; ", 255): api.OK, "array A; " + strings.Repeat("A = 1; ", 256): api.ErrFull,
	} {
		p := parse(t, text)
		q, e := expand.Split(p, 0, nil, nil)
		r, f := expand.Expand(p, 0, nil, nil)
		if e != want || f != want || want != api.OK && (!lang.Same(q, api.Program{}) || !lang.Same(r, api.Program{})) {
			t.Errorf("%.60q: %d, %d, want %d", text, e, f, want)
		}
	}
}

func reads(t *testing.T, p api.Program) (r []api.Access) {
	t.Helper()
	uses, e := lang.Uses(p)
	if e != api.OK {
		t.Fatal(e)
	}
	for _, a := range uses {
		if !a.Write {
			r = append(r, a)
		}
	}
	return r
}

func same(a, b api.Lin) bool { return a.K == b.K && slices.Equal(a.C, b.C) }

// P26.3.
func TestPlace(t *testing.T) {
	type part struct {
		set  string
		from []api.Lin
	}
	const box = "n <= 1000 and "
	for _, x := range []struct {
		text    string
		s, read int
		want    []part
		e       api.Errno
	}{
		{one, 0, 1, []part{{"{ n, i : " + box + "i >= 0 and i <= n - 1 }", list(l(0, 0, 1))}}, api.OK}, {one, 0, 0, nil, api.OK}, {one, 1, 1, nil, api.OK}, {chain, 0, 0, []part{{"{ n, i : " + box + "i >= 2 and i <= n }", list(l(-1, 0, 1))}}, api.OK}, {sum, 0, 0, []part{{"{ n, i : " + box + "i = 0 and n >= 1 }", nil}}, api.OK}, {sum, 1, 2, []part{{"{ n : " + box + "n >= 1 }", list(l(-1, 1))}}, api.OK}, {sum, 0, 2, []part{{"{ n : n = 0 }", nil}}, api.OK},
		{grid, 0, 0, []part{{"{ n, i, j : " + box + "i >= 2 and i <= n and j >= 1 and j <= n }", list(l(-1, 0, 1, 0), l(0, 0, 0, 1))}}, api.OK},
		// Turned, and with a sign.
		{"param n; array A[n + 1]; array B[n + 1]; for i = 0 to n { A[n - i] = 1; } for j = 0 to n { B[j] = A[j]; }", 0, 0, []part{{"{ n, j : " + box + "j >= 0 and j <= n }", list(l(0, 1, -1))}}, api.OK},
		// Not determined: 2 i = j, and i + k = j.
		{"param n; array A[2 n + 1]; array B[n + 1]; for i = 0 to n { A[2 i] = 1; } for j = 0 to n { B[j] = A[j]; }", 0, 0, nil, api.ErrForm}, {"array A[9]; array S; for i = 0 to 2 { for k = 0 to 2 { if { i, k : i <= k and k <= i } { A[2 i + 3 k] = 1; } } } for j = 0 to 8 { S = A[j]; }", 0, 0, nil, api.ErrForm},
		{one, 2, 1, nil, api.ErrNone}, {one, -1, 1, nil, api.ErrNone},
	} {
		p := parse(t, x.text)
		l, e := expand.Place(p, x.s, reads(t, p)[x.read])
		if e != x.e || len(l) != len(x.want) {
			t.Errorf("Place of %q, %d, %d: %v, %d", x.text, x.s, x.read, l, e)
			continue
		}
		for i, w := range x.want {
			_, s, e := settext.Parse(w.set)
			if e != api.OK {
				t.Fatal(e)
			}
			equal, e := elim.Same(l[i].Set, s)
			if !equal || e != api.OK || !slices.EqualFunc(l[i].From, w.from, same) {
				t.Errorf("Place of %q, %d, %d: %v, %d", x.text, x.s, x.read, l[i], e)
			}
		}
	}
	p := parse(t, one)
	uses, _ := lang.Uses(p)
	for i, b := range []api.Access{uses[0], {}, {Stmt: 9}} {
		if r, e := expand.Place(p, 0, b); e != []api.Errno{api.ErrArg, api.ErrNone, api.ErrNone}[i] || len(r) != 0 {
			t.Errorf("%d: %v, %d", i, r, e)
		}
	}
	// Several pieces, in order.
	two := parse(t, "param n; array T[n + 1]; array B[n + 1]; for i = 0 to n { if { n, i : i >= 3 or i <= 1 } { T[i] = 1; } } for i = 0 to n { B[i] = T[i]; }")
	d, _ := flow.Sources(two, reads(t, two)[0])
	r, e := expand.Place(two, 0, reads(t, two)[0])
	if e != api.OK || len(r) != 2 || len(d[0].Pairs.Pieces) != 2 {
		t.Fatalf("%v, %d", r, e)
	}
	for i, q := range d[0].Pairs.Pieces {
		want, _ := elim.Elims(api.Set{Dim: 3, Pieces: [][]api.Cond{q}}, []int{1})
		if equal, _ := elim.Same(want, r[i].Set); !equal || !same(r[i].From[0], l(0, 0, 1)) {
			t.Errorf("part %d: %v", i, r[i])
		}
	}
}

// P26.4.
func TestExpand(t *testing.T) {
	for _, x := range []struct {
		text      string
		s         int
		low, size []api.Lin
		want      string
	}{
		{one, 0, list(l(0, 0)), list(l(0, 1)), "param n; array T[1]; array A[n]; array B[n]; array e1[n]; for i = 0 to n - 1 { e1[i] = A[i]; T[0] = e1[i]; if { n, i : 1000 - n >= 0 and i >= 0 and n - i - 1 >= 0 and n >= 0 } { B[i] = e1[i]; } else { B[i] = T[0]; } }"},
		// The assignment reads its own values: the first half is redirected.
		{chain, 0, list(l(1, 0)), list(l(0, 1)), "param n; array A[n + 1]; array e1[n]; for i = 1 to n { if { n, i : 1000 - n >= 0 and i - 1 >= 0 and i - 2 >= 0 and n - i >= 0 and n - i + 1 >= 0 and n >= 0 } { e1[i - 1] = e1[i - 2] + 1; } else { e1[i - 1] = A[i - 1] + 1; } A[i] = e1[i - 1]; }"},
		{"array S; array T; S = 1; T = S + S * T; T = T;", 0, nil, nil, "array S; array T; array e1; e1 = 1; S = e1; if { : true } { if { : true } { T = e1 + e1 * T; } else { T = e1 + S * T; } } else { if { : true } { T = S + e1 * T; } else { T = S + S * T; } } T = T;"},
		{"array S; array T; S = 1; S = 2; T = S;", 0, nil, nil, "array S; array T; array e1; e1 = 1; S = e1; S = 2; T = S;"},
		{"array T[2]; array S; for i = 0 to 5 { if { i : i >= 4 or i <= 1 } { T[0] = <i>; S = T[0] + T[1]; } }", 0, list(l(-1)), list(l(7)), "array T[2]; array S; array e1[7]; for i = 0 to 5 { if { i : i >= 4 or i <= 1 } { e1[i + 1] = <i>; T[0] = e1[i + 1]; if { i : 5 - i >= 0 and i - 4 >= 0 } { S = e1[i + 1] + T[1]; } else { if { i : 1 - i >= 0 and i >= 0 } { S = e1[i + 1] + T[1]; } else { S = T[0] + T[1]; } } } }"},
	} {
		p := parse(t, x.text)
		q, e := expand.Expand(p, x.s, x.low, x.size)
		if x.text == chain {
			checkChain(t, q, e)
			continue
		}
		checkProgram(t, "Expand", q, e, x.want)
	}
	// The reads are examined before anything is changed, those of other arrays are not.
	for _, x := range []struct {
		text      string
		s         int
		low, size []api.Lin
		e         api.Errno
	}{
		{"param n; array A[2 n + 1]; array B[n + 1]; for i = 0 to n { A[2 i] = 1; } for j = 0 to n { B[j] = A[j]; }", 0, list(l(0, 0)), list(l(1, 1)), api.ErrForm}, {"array T; array S; T = 1; S = T; for i = 0 to 9 { if { i : 509 | i } { T = 1; } else { T = 2; } }", 0, nil, nil, api.ErrFull}, {"array T; array S; T = 1; for i = 0 to 9 { if { i : 509 | i } { S = 1; } else { T = S; } }", 0, nil, nil, api.OK},
		// A position beyond the limits.
		{"param n; array T[9]; array B[9]; for i = 0 to n { T[i] = 1; } for j = 0 to n { B[j] = T[j - 2]; }", 0, list(l(most, 0)), list(l(-most, 0)), api.ErrRange}, {"param n; array T[9]; array B[9]; for i = 0 to n { T[i] = 1; } for j = 0 to n { B[j] = T[j - 2]; }", 0, list(l(most-1, -most)), list(l(most, most)), api.ErrRange},
	} {
		p := parse(t, x.text)
		if q, e := expand.Expand(p, x.s, x.low, x.size); e != x.e || e != api.OK && !lang.Same(q, api.Program{}) {
			t.Errorf("Expand of %q: %d, want %d", x.text, e, x.e)
		}
	}
	position := parse(t, "array T[9]; array B[9]; for i = 5 to 9 { T[i] = 1; } for j = 0 to 9 { B[j] = T[j - 2]; }")
	if _, e := expand.Split(position, 0, list(l(1-most)), list(l(most))); e != api.ErrRange {
		t.Errorf("Split: %d", e)
	}
	if _, e := expand.Split(position, 0, list(l(10-most)), list(l(most))); e != api.OK {
		t.Errorf("Split: %d", e)
	}
	if q, e := expand.Expand(position, 0, list(l(10-most)), list(l(most))); e != api.OK || lang.Same(q, api.Program{}) {
		t.Errorf("Expand: %d", e)
	}
	back := parse(t, "array T[9]; array B[9]; for i = 5 to 9 { T[i] = 1; } for j = 0 to 9 { B[j] = T[j + 20]; } for j = -15 to -11 { B[j] = T[j + 20]; }")
	if _, e := expand.Split(back, 0, list(l(10-most)), list(l(most))); e != api.OK {
		t.Errorf("Split: %d", e)
	}
	if q, e := expand.Expand(back, 0, list(l(10-most)), list(l(most))); e != api.ErrFull || !lang.Same(q, api.Program{}) {
		t.Errorf("a position beyond the limits: %d", e)
	}
	// The statements double with each read.
	many := func(n int) api.Program {
		return parse(t, "array S; array T; S = 1; T = S"+strings.Repeat(" + S", n-1)+";")
	}
	for n, want := range map[int]api.Errno{6: api.OK, 7: api.ErrFull, 30: api.ErrFull} {
		if q, e := expand.Expand(many(n), 0, nil, nil); e != want || e != api.OK && !lang.Same(q, api.Program{}) {
			t.Errorf("%d reads: %d, want %d", n, e, want)
		}
	}
}

// checkChain compares the form of the expanded chain but for the conditions of its test.
func checkChain(t *testing.T, q api.Program, e api.Errno) {
	t.Helper()
	if e != api.OK || len(q.Body) != 1 || len(q.Body[0].Body) != 2 || q.Body[0].Body[0].Kind != api.If {
		t.Errorf("%v, %d", q, e)
		return
	}
	test := q.Body[0].Body[0]
	q.Body[0].Body[0].Test = api.Set{Dim: 2, Pieces: [][]api.Cond{nil}}
	checkProgram(t, "the chain", q, e, "param n; array A[n + 1]; array e1[n]; for i = 1 to n { if { n, i : true } { e1[i - 1] = e1[i - 2] + 1; } else { e1[i - 1] = A[i - 1] + 1; } A[i] = e1[i - 1]; }")
	_, s, _ := settext.Parse("{ n, i : n <= 1000 and i >= 2 and i <= n }")
	if equal, e := elim.Same(test.Test, s); !equal || e != api.OK {
		t.Errorf("%v, %d", test.Test, e)
	}
}

// P26.5.
func TestDrop(t *testing.T) {
	for _, x := range []struct {
		text string
		a    int
		want string
		e    api.Errno
	}{
		{"array S; array T; S = 1; if { : true } { T = 2; S = T; } else { S = 4; } for i = 0 to 3 { S = T; } T = 5;", 0, "array S; array T; if { : true } { T = 2; } else { } for i = 0 to 3 { } T = 5;", api.OK}, {"array S; array T; S = 1;", 1, "array S; array T; S = 1;", api.OK}, {"array S; S = 1;", 0, "array S;", api.OK}, {one, 0, "", api.ErrState}, {one, 1, "", api.ErrState}, {one, 2, "param n; array T[1]; array A[n]; array B[n]; for i = 0 to n - 1 { T[0] = A[i]; }", api.OK}, {one, 3, "", api.ErrRange}, {one, -1, "", api.ErrRange}, {one, math.MaxInt, "", api.ErrRange},
	} {
		p := parse(t, x.text)
		q, e := expand.Drop(p, x.a)
		if e != x.e || e != api.OK && !lang.Same(q, api.Program{}) {
			t.Errorf("Drop of %q, %d: %d", x.text, x.a, e)
		}
		if x.e == api.OK {
			checkProgram(t, "Drop", q, e, x.want)
		}
		if !lang.Same(p, parse(t, x.text)) {
			t.Error("the argument was changed")
		}
	}
}

func TestErrors(t *testing.T) {
	bad := api.Program{Params: []string{"to"}}
	_, e1 := expand.Holds(bad, 9, nil, nil)
	_, e2 := expand.Split(bad, 9, nil, nil)
	_, e3 := expand.Place(bad, 9, api.Access{})
	_, e4 := expand.Expand(bad, 9, nil, nil)
	_, e5 := expand.Drop(bad, 9)
	if got := []api.Errno{e1, e2, e3, e4, e5}; !slices.Equal(got, slices.Repeat([]api.Errno{api.ErrArg}, 5)) {
		t.Errorf("%v", got)
	}
}

// P26.6, P26.7, P26.8, P26.9.
func TestExecutions(t *testing.T) {
	for _, x := range []struct {
		text      string
		s         int
		low, size []api.Lin
	}{
		{scalar, 0, list(l(0, 0)), list(l(0, 1))}, {one, 0, list(l(-2, 0)), list(l(3, 1))}, {chain, 0, list(l(1, 0)), list(l(0, 1))}, {sum, 0, nil, nil}, {sum, 1, list(l(0, 0)), list(l(0, 1))}, {grid, 0, list(l(1, 0), l(0, 0)), list(l(0, 1), l(1, 1))}, {twice, 0, list(l(0, 0)), list(l(1, 1))}, {twice, 1, list(l(0, 0)), list(l(1, 1))}, {twice, 2, list(l(0, 0)), list(l(1, 1))}, {twice, 3, list(l(0, 0), l(0, 0)), list(l(1, 1), l(2, 0))},
	} {
		p := parse(t, x.text)
		a, e := expand.Split(p, x.s, x.low, x.size)
		b, f := expand.Expand(p, x.s, x.low, x.size)
		if e != api.OK || f != api.OK {
			t.Errorf("%q, %d: %d, %d", x.text, x.s, e, f)
			continue
		}
		for n := 1; n < 7; n++ {
			compare(t, p, a, n, x.text)
			compare(t, p, b, n, x.text)
			checkRedirected(t, p, b, x.s, n)
		}
	}
	for _, text := range []string{one, scalar} {
		p := parse(t, text)
		q, e := expand.Drop(p, 2)
		if e != api.OK {
			t.Fatal(e)
		}
		m, _ := run.Fresh(p, []int{4}, 1)
		want, _, _ := run.Run(p, []int{4}, m)
		got, _, e := run.Run(q, []int{4}, m)
		if e != api.OK || !slices.Equal(got[0], want[0]) || !slices.Equal(got[1], want[1]) || !slices.Equal(got[2], m[2]) {
			t.Errorf("%v, %v, %d", got, want, e)
		}
	}
}

// compare executes p and a program with one array more.
func compare(t *testing.T, p, q api.Program, n int, text string) {
	t.Helper()
	m, _ := run.Fresh(p, []int{n}, 1)
	want, _, e := run.Run(p, []int{n}, m)
	k, f := run.Fresh(q, []int{n}, 50)
	if e != api.OK || f != api.OK {
		t.Fatal(e, f)
	}
	last := len(p.Arrays)
	got, _, e := run.Run(q, []int{n}, append(m, k[last]))
	if e != api.OK || !slices.EqualFunc(got[:last], want, slices.Equal[[]int]) {
		t.Fatalf("%q, n = %d: %v, %v, %d", text, n, got, want, e)
	}
	events, e := run.Trace(q, []int{n}, append(m, k[last]))
	if e != api.OK {
		t.Fatal(e)
	}
	written := map[int]bool{}
	for _, x := range events {
		if x.Array == last && x.Pos == 0 {
			if written[x.Cell] {
				t.Fatalf("%q, n = %d: cell %d is written twice", text, n, x.Cell)
			}
			written[x.Cell] = true
		}
	}
}

// checkRedirected compares, read by read, whether the value came from assignment s, and whether the new array is read.
func checkRedirected(t *testing.T, p, q api.Program, s, n int) {
	t.Helper()
	m, _ := run.Fresh(p, []int{n}, 1)
	k, _ := run.Fresh(q, []int{n}, 50)
	last := len(p.Arrays)
	x, _ := run.Trace(p, []int{n}, m)
	y, e := run.Trace(q, []int{n}, append(m, k[last]))
	if e != api.OK {
		t.Fatal(e)
	}
	// In q the copy of a value is a read of the new array at Pos 1 and the target; what stands for the rest is in the same order.
	writer := map[[2]int]int{}
	at := 0
	for _, a := range x {
		b := y[at]
		at++
		cell := [2]int{a.Array, a.Cell}
		if a.Pos > 0 {
			w, ok := writer[cell]
			if (b.Array == last) != (ok && w == s) || b.Pos != a.Pos || b.Value != a.Value {
				t.Fatalf("n = %d: %v stands for %v", n, b, a)
			}
			continue
		}
		writer[cell] = a.Inst.Stmt
		if a.Inst.Stmt == s {
			if b.Array != last || b.Pos != 0 || y[at].Array != last || y[at].Pos != 1 {
				t.Fatalf("n = %d: %v stands for %v", n, b, a)
			}
			b = y[at+1]
			at += 2
		}
		if b.Array != a.Array || b.Cell != a.Cell || b.Pos != 0 || b.Value != a.Value {
			t.Fatalf("n = %d: %v stands for %v", n, b, a)
		}
	}
	if at != len(y) {
		t.Fatalf("n = %d: %d events more", n, len(y)-at)
	}
}
