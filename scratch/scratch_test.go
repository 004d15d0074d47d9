package scratch_test

import (
	"headland/api"
	"headland/lang"
	"headland/point"
	"headland/run"
	"headland/scratch"
	"headland/set"
	"headland/settext"
	"headland/source"
	"math"
	"slices"
	"strings"
	"testing"
)

const most = api.MaxCoef

func parse(t *testing.T, text string) api.Program {
	t.Helper()
	p, e := source.Parse(text)
	if e != api.OK {
		t.Fatalf("Parse(%q): %d", text, e)
	}
	return p
}

func of(t *testing.T, text string) api.Set {
	t.Helper()
	_, s, e := settext.Parse(text)
	if e != api.OK {
		t.Fatalf("Parse(%q): %d", text, e)
	}
	return s
}

func l(k int, c ...int) api.Lin { return api.Lin{C: c, K: k} }

func list(x ...api.Lin) []api.Lin { return x }

func same(a, b [][]int) bool { return slices.EqualFunc(a, b, slices.Equal[[]int]) }

const (
	window = "param n; array S[n]; array A[n]; for i = 0 to n - 3 { for j = 0 to 2 { S[i] = S[i] + A[i + j]; } }"
	mixed  = "param n; array A[2 n + 9]; array S; for i = 0 to n { if { n, i : 2 | i } { A[i] = A[i + 1] * S; } else { for j = i to n step 2 { A[n + j + 1] = A[j]; S = S + A[3]; } } A[2 i] = <i>; }"
	grid   = "param n; array A[n + 2][n + 2]; array B[n + 2]; for i = 0 to n { for j = 0 to i { A[i][j] = A[j][i + 1] + B[i]; B[j] = A[i][j] * 2; } } B[0] = A[0][0];"
	bands  = "param n; array S[n + 1][n + 1]; for i = 0 to n { for j = max(0, i - 1) to min(n, i + 1) { S[i][j] = S[i][j] + 1; } }"
	box    = "n >= 0 and 1000 - n >= 0"
)

// P30.1.
func TestFoot(t *testing.T) {
	for _, x := range []struct {
		text   string
		path   []int
		a      int
		writes bool
		want   string
	}{
		{window, []int{0, 0, 0}, 1, false, "{ n, i, y : " + box + " and i >= 0 and n - i - 3 >= 0 and y - i >= 0 and i - y + 2 >= 0 }"},
		{window, []int{0, 0, 0}, 1, true, "{ n, i, y : false }"}, {window, []int{0, 0, 0, 0, 0}, 1, false, "{ n, i, j, y : " + box + " and i >= 0 and n - i - 3 >= 0 and j >= 0 and 2 - j >= 0 and y = i + j }"},
		// All accesses of the target's array, the same piece once.
		{window, []int{0, 0, 0}, 0, false, "{ n, i, y : " + box + " and i >= 0 and n - i - 3 >= 0 and y = i }"}, {window, []int{0, 0, 0}, 0, true, "{ n, i, y : " + box + " and i >= 0 and n - i - 3 >= 0 and y = i }"},
		{window, []int{0}, 0, true, "{ n, y : " + box + " and y >= 0 and n - y - 3 >= 0 }"},
		// No subscripts: which outer variables have an access.
		{"param n; array S; for i = 0 to n { for j = 1 to i { S = 1; } }", []int{0, 0, 0}, 0, false, "{ n, i : " + box + " and i - 1 >= 0 and n - i >= 0 }"}, {"param n; array S; array T; S = 1; T = S; T = 2;", []int{1}, 0, false, "{ n : " + box + " }"}, {"array S; array T; S = 1; T = S; T = 2;", []int{2}, 0, false, "{ : false }"}, {"array S; array T; S = 1; T = S; T = 2;", []int{1}, 1, true, "{ : true }"},
		// An Else, and a test in the position.
		{"array S[9]; for i = 0 to 5 { if { i : i >= 2 } { S[i] = 1; } else { S[i + 3] = S[7]; } }", []int{0, 0, 0, 1, 0}, 0, false, "{ i, y : i >= 0 and 5 - i >= 0 and 1 - i >= 0 and y = i + 3 or i >= 0 and 5 - i >= 0 and 1 - i >= 0 and y = 7 }"},
		{"array S[9]; for i = 0 to 5 { if { i : i >= 2 } { S[i] = 1; } else { S[i + 3] = S[7]; } }", []int{0, 0, 0}, 0, true, "{ i, y : i >= 0 and 5 - i >= 0 and i - 2 >= 0 and y = i or i >= 0 and 5 - i >= 0 and 1 - i >= 0 and y = i + 3 }"},
	} {
		p := parse(t, x.text)
		s, e := scratch.Foot(p, x.path, x.a, x.writes)
		if want := of(t, x.want); e != api.OK || s.Dim != want.Dim || !samePoints(t, s, want) {
			text, _ := settext.Print(names(s.Dim), s)
			t.Errorf("Foot of %q, %v, %d, %v: %s, %d; want %s", x.text, x.path, x.a, x.writes, text, e, x.want)
		}
		for _, piece := range s.Pieces {
			for _, c := range piece {
				c.L.C[0] = 77
			}
		}
		if !lang.Same(p, parse(t, x.text)) {
			t.Fatalf("Foot of %q shares memory", x.text)
		}
	}
}

// names returns names for the variables of a set.
func names(n int) (l []string) {
	for i := range n {
		l = append(l, "v"+string(rune('a'+i)))
	}
	return l
}

// samePoints compares the points of two sets in a box.
func samePoints(t *testing.T, a, b api.Set) bool {
	t.Helper()
	x := make([]int, a.Dim)
	var check func(i int) bool
	check = func(i int) bool {
		if i == len(x) {
			in, e := set.Has(a, x)
			out, f := set.Has(b, x)
			if e+f != api.OK {
				t.Fatal(e, f)
			}
			return in == out
		}
		for x[i] = -1; x[i] <= 7; x[i]++ {
			if !check(i + 1) {
				return false
			}
		}
		return true
	}
	return check(0)
}

// P30.1: the set is exactly that of the definition.
func TestFootPieces(t *testing.T) {
	for _, x := range []struct {
		text   string
		path   []int
		writes bool
		want   string
	}{
		{"array S[9]; for i = 0 to 5 { S[i] = S[i] + S[2 i]; S[3] = S[i]; }", []int{0, 0, 0}, false, "{ i, y : i - y = 0 and i >= 0 and 5 - i >= 0 or 2 i - y = 0 and i >= 0 and 5 - i >= 0 }"},
		{"array S[9]; for i = 0 to 5 { S[i] = S[i] + S[2 i]; S[3] = S[i]; }", []int{0, 0, 1}, false, "{ i, y : y - 3 = 0 and i >= 0 and 5 - i >= 0 or i - y = 0 and i >= 0 and 5 - i >= 0 }"},
		{"array S[9]; for i = 0 to 5 { S[i] = S[i] + S[2 i]; S[3] = S[i]; }", []int{0, 0, 1}, true, "{ i, y : y - 3 = 0 and i >= 0 and 5 - i >= 0 }"},
	} {
		s, e := scratch.Foot(parse(t, x.text), x.path, 0, x.writes)
		want, f := set.Normal(of(t, x.want))
		text, g := settext.Print([]string{"i", "y"}, s)
		wanted, h := settext.Print([]string{"i", "y"}, want)
		if e+f+g+h != api.OK || text != wanted {
			t.Errorf("Foot of %q, %v: %s, %d; want %s", x.text, x.path, text, e, wanted)
		}
	}
}

// P30.2, P30.6.
func TestBox(t *testing.T) {
	for _, x := range []struct {
		text string
		path []int
		a    int
		low  []api.Lin
		want []int
		e    api.Errno
	}{
		{window, []int{0, 0, 0}, 1, list(l(0, 0, 1)), []int{3}, api.OK}, {window, []int{0, 0, 0}, 1, list(l(-2, 0, 1)), []int{5}, api.OK}, {window, []int{0, 0, 0}, 1, list(l(1, 0, 1)), nil, api.ErrRange}, {window, []int{0, 0, 0, 0, 0}, 1, list(l(0, 0, 1, 1)), []int{1}, api.OK}, {window, []int{0, 0, 0, 0, 0}, 1, list(l(0, 0, 1, 0)), []int{3}, api.OK},
		{window, []int{0}, 1, list(l(0, 0)), nil, api.ErrFull}, {window, []int{0, 0, 0}, 1, list(l(-61, 0, 1)), []int{64}, api.OK}, {window, []int{0, 0, 0}, 1, list(l(-62, 0, 1)), nil, api.ErrFull}, {window, []int{0, 0, 0}, 1, list(l(3, -1, 1)), nil, api.ErrFull},
		{bands, []int{0, 0, 0}, 0, list(l(0, 0, 1), l(-1, 0, 1)), []int{1, 3}, api.OK}, {bands, []int{0, 0, 0}, 0, list(l(0, 0, 1), l(0, 0, 1)), nil, api.ErrRange}, {bands, []int{0, 0, 0}, 0, list(l(-62, 0, 1), l(-62, 0, 1)), []int{63, 64}, api.OK},
		// Below in one direction is reported before too large in the next one, and the other way round.
		{bands, []int{0, 0, 0}, 0, list(l(1, 0, 1), l(-99, 0, 1)), nil, api.ErrRange}, {bands, []int{0, 0, 0}, 0, list(l(-99, 0, 1), l(0, 0, 1)), nil, api.ErrFull},
		{"array A[64][64]; for i = 0 to 63 { A[i][63 - i] = 1; }", []int{0}, 0, list(l(0), l(0)), []int{64, 64}, api.OK}, {"array A[16][16][17]; for i = 0 to 15 { A[i][i][i + 1] = 1; }", []int{0}, 0, list(l(0), l(0), l(0)), nil, api.ErrFull}, {"array A[16][16][17]; for i = 0 to 15 { A[i][i][i + 1] = 1; }", []int{0}, 0, list(l(0), l(0), l(1)), []int{16, 16, 16}, api.OK},
		{"array S; S = 1;", []int{0}, 0, nil, nil, api.OK}, {"array S; array T; S = 1;", []int{0}, 1, nil, nil, api.ErrNone}, {"array S; for i = 1 to 0 { S = 1; }", []int{0}, 0, nil, nil, api.ErrNone}, {"array S; if { : true } { }", []int{0}, 0, nil, nil, api.ErrNone},
		{window, []int{1}, 0, nil, nil, api.ErrNone}, {window, []int{1}, 9, nil, nil, api.ErrNone}, {window, nil, 0, list(l(0)), nil, api.ErrNone}, {window, []int{0, 0}, 0, list(l(0)), nil, api.ErrNone}, {window, []int{0}, 2, nil, nil, api.ErrRange}, {window, []int{0}, -1, nil, nil, api.ErrRange}, {window, []int{0}, math.MaxInt, nil, nil, api.ErrRange},
		{window, []int{0}, 0, nil, nil, api.ErrDim}, {window, []int{0}, 0, list(l(most+1), l(0)), nil, api.ErrDim}, {window, []int{0}, 0, list(l(most + 1)), nil, api.ErrArg}, {window, []int{0}, 0, list(l(0)), nil, api.ErrDim}, {window, []int{0}, 0, list(l(0, 1, 1)), nil, api.ErrDim}, {bands, []int{0}, 0, list(l(0), l(most+1)), nil, api.ErrArg},
		{window, []int{0, 0, 0}, 1, list(l(-most, 0, 0)), nil, api.ErrFull}, {window, []int{0, 0, 0}, 1, list(l(most, 0, 0)), nil, api.ErrRange},
	} {
		p := parse(t, x.text)
		sizes, e := scratch.Box(p, x.path, x.a, x.low)
		if !slices.Equal(sizes, x.want) || e != x.e {
			t.Errorf("Box of %q, %v, %d, %v: %v, %d", x.text, x.path, x.a, x.low, sizes, e)
		}
		if e != api.OK {
			continue
		}
		if _, e := scratch.Copy(p, x.path, x.a, x.low, sizes); e != api.OK {
			t.Errorf("Copy of %q with %v: %d", x.text, sizes, e)
		}
		for j := range sizes {
			less := slices.Clone(sizes)
			less[j]--
			want := api.ErrOrder
			if less[j] == 0 {
				want = api.ErrRange
			}
			if _, e := scratch.Copy(p, x.path, x.a, x.low, less); e != want {
				t.Errorf("Copy of %q with %v: %d", x.text, less, e)
			}
		}
	}
}

// P30.3.
func TestCopy(t *testing.T) {
	for _, x := range []struct {
		text      string
		path      []int
		a         int
		low       []api.Lin
		size      []int
		want      string
		footprint []string
	}{
		{window, []int{0, 0, 0}, 1, list(l(0, 0, 1)), []int{3}, "param n; array S[n]; array A[n]; array b1[3]; for i = 0 to n - 3 { for c1 = i to i + 2 { if FOOT { b1[c1 - i] = A[c1]; } } for j = 0 to 2 { S[i] = S[i] + b1[j]; } for c1 = i to i + 2 { if WRITTEN { A[c1] = b1[c1 - i]; } } }", nil},
		{window, []int{0, 0, 0, 0, 0}, 0, list(l(-1, 1, 1, -1)), []int{9}, "", nil},
		{bands, []int{0, 0, 0}, 0, list(l(0, 0, 1), l(-1, 0, 1)), []int{1, 4}, "param n; array S[n + 1][n + 1]; array b1[1][4]; for i = 0 to n { for c1 = i to i { for c2 = i - 1 to i + 2 { if FOOT { b1[c1 - i][c2 - i + 1] = S[c1][c2]; } } } for j = max(0, i - 1) to min(n, i + 1) { b1[0][j - i + 1] = b1[0][j - i + 1] + 1; } for c1 = i to i { for c2 = i - 1 to i + 2 { if WRITTEN { S[c1][c2] = b1[c1 - i][c2 - i + 1]; } } } }", nil},
		// Names that are in use anywhere; a statement in an Else; marks, steps and tests of the statement stay.
		{"param c1; array b1[9]; array T; for c3 = 0 to 2 { if { c1, c3 : c1 >= 5 } { T = 1; } else { for b2 = c3 to c3 + 4 step 2 vector { if { c1, c3, b2 : b2 = 2 } { b1[b2] = b1[c3] + T; } } T = b1[2]; } } for c4 = 0 to 0 { }", []int{0, 0, 0, 1, 0}, 0, list(l(0, 0, 1)), []int{5}, "param c1; array b1[9]; array T; array b3[5]; for c3 = 0 to 2 { if { c1, c3 : c1 >= 5 } { T = 1; } else { for c2 = c3 to c3 + 4 { if FOOT { b3[c2 - c3] = b1[c2]; } } for b2 = c3 to c3 + 4 step 2 vector { if { c1, c3, b2 : b2 = 2 } { b3[b2 - c3] = b3[0] + T; } } for c2 = c3 to c3 + 4 { if WRITTEN { b1[c2] = b3[c2 - c3]; } } T = b1[2]; } } for c4 = 0 to 0 { }", nil},
		{"array S; array T; S = 1; T = S + S; T = S;", []int{1}, 0, nil, nil, "array S; array T; array b1; S = 1; if FOOT { b1 = S; } T = b1 + b1; if WRITTEN { S = b1; } T = S;", nil},
		// An array that the statement does not access.
		{"array S[5]; array T; T = 1;", []int{0}, 0, list(l(7)), []int{64}, "array S[5]; array T; array b1[64]; for c1 = 7 to 70 { if FOOT { b1[c1 - 7] = S[c1]; } } T = 1; for c1 = 7 to 70 { if WRITTEN { S[c1] = b1[c1 - 7]; } }", nil},
	} {
		p := parse(t, x.text)
		q, e := scratch.Copy(p, x.path, x.a, x.low, x.size)
		if x.want == "" {
			if e != api.ErrOrder {
				t.Errorf("Copy of %q, %v: %d", x.text, x.path, e)
			}
			continue
		}
		if e != api.OK {
			t.Errorf("Copy of %q, %v: %d", x.text, x.path, e)
			continue
		}
		foot, _ := scratch.Foot(p, x.path, x.a, false)
		written, _ := scratch.Foot(p, x.path, x.a, true)
		want := x.want
		for word, s := range map[string]api.Set{"FOOT": foot, "WRITTEN": written} {
			space := slices.Clone(spaceOf(t, q, x.path))
			for k := range x.low {
				space = append(space, loopNames(q)[k])
			}
			text, e := settext.Print(space, s)
			if e != api.OK {
				t.Fatal(e)
			}
			want = strings.ReplaceAll(want, word, text)
		}
		if r := parse(t, want); !lang.Same(q, r) {
			text, _ := source.Print(q)
			t.Errorf("Copy of %q, %v: %s; want %s", x.text, x.path, text, want)
		}
		if !lang.Same(p, parse(t, x.text)) {
			t.Error("the argument was changed")
		}
	}
}

func spaceOf(t *testing.T, p api.Program, path []int) []string {
	t.Helper()
	names, e := lang.Space(p, path)
	if e != api.OK {
		t.Fatal(e)
	}
	return names
}

// loopNames returns the names of the loops that begin with a c and are not in use elsewhere in the tests.
func loopNames(p api.Program) []string {
	var l []string
	var walk func(body []api.Stmt)
	walk = func(body []api.Stmt) {
		for _, s := range body {
			if s.Kind == api.For && (s.Name == "c1" || s.Name == "c2") && !slices.Contains(l, s.Name) {
				l = append(l, s.Name)
			}
			walk(s.Body)
			walk(s.Else)
		}
	}
	walk(p.Body)
	return l
}

// P30.3: the errors, in their order.
func TestCopyErrors(t *testing.T) {
	deep := "array A[2]; "
	for i := range 9 {
		deep += "for v" + string(rune('a'+i)) + " = 0 to 0 { "
	}
	for _, x := range []struct {
		text string
		path []int
		a    int
		low  []api.Lin
		size []int
		want api.Errno
	}{
		{window, []int{1}, 9, nil, nil, api.ErrNone}, {window, []int{0, 0, 0, 0, 1}, 0, nil, nil, api.ErrNone}, {window, []int{0, 1, 0}, 0, nil, nil, api.ErrNone}, {window, []int{-1}, 0, nil, nil, api.ErrNone}, {window, []int{0}, 2, nil, nil, api.ErrRange}, {window, []int{0}, -1, nil, nil, api.ErrRange},
		{window, []int{0}, 1, nil, []int{1}, api.ErrDim}, {window, []int{0}, 1, list(l(most + 1)), nil, api.ErrDim}, {window, []int{0}, 1, list(l(most+1), l(0)), []int{1}, api.ErrDim}, {window, []int{0}, 1, list(l(most + 1)), []int{1, 2}, api.ErrDim}, {window, []int{0}, 1, list(l(most + 1)), []int{0}, api.ErrArg}, {window, []int{0}, 1, list(l(0)), []int{0}, api.ErrDim}, {window, []int{0}, 1, list(l(0, 1, 0)), []int{0}, api.ErrDim},
		{window, []int{0}, 1, list(l(0, 0)), []int{0}, api.ErrRange}, {window, []int{0}, 1, list(l(0, 0)), []int{65}, api.ErrRange}, {window, []int{0}, 1, list(l(0, 0)), []int{math.MinInt}, api.ErrRange}, {window, []int{0}, 1, list(l(0, 0)), []int{64}, api.ErrOrder}, {"array A[64][64][64]; A[0][0][0] = 1;", []int{0}, 0, list(l(0), l(0), l(0)), []int{64, 64, 1}, api.OK}, {"array A[64][64][64]; A[0][0][0] = 1;", []int{0}, 0, list(l(0), l(0), l(0)), []int{64, 64, 2}, api.ErrRange}, {"array A[64][64][64]; A[0][0][0] = 1;", []int{0}, 0, list(l(0), l(0), l(0)), []int{64, 64, 64}, api.ErrRange}, {"array A[64][64][64]; A[0][0][0] = 1;", []int{0}, 0, list(l(0), l(0), l(0)), []int{64, 64, math.MaxInt}, api.ErrRange}, {"array A[64][64][64]; A[0][0][0] = 1;", []int{0}, 0, list(l(1), l(0), l(0)), []int{64, 64, 2}, api.ErrRange},
		{window, []int{0, 0, 0}, 1, list(l(0, 0, 1)), []int{3}, api.OK}, {window, []int{0, 0, 0}, 1, list(l(0, 0, 1)), []int{2}, api.ErrOrder}, {window, []int{0, 0, 0}, 1, list(l(1, 0, 1)), []int{3}, api.ErrOrder}, {window, []int{0, 0, 0}, 1, list(l(-61, 0, 1)), []int{64}, api.OK},
		// The result is beyond a limit: a bound, the depth, the arrays, the statements, the coefficients.
		{"array S; array A[9]; S = 1;", []int{0}, 1, list(l(most)), []int{1}, api.OK}, {"array S; array A[9]; S = 1;", []int{0}, 1, list(l(most)), []int{2}, api.ErrFull}, {deep + "A[0] = 1; " + strings.Repeat("}", 9), slices.Repeat([]int{0}, 19), 0, list(l(0, 0, 0, 0, 0, 0, 0, 0, 0, 0)), []int{1}, api.OK}, {deep + "for vz = 0 to 0 { A[0] = 1; } " + strings.Repeat("}", 9), slices.Repeat([]int{0}, 21), 0, list(l(0, 0, 0, 0, 0, 0, 0, 0, 0, 0, 0)), []int{1}, api.ErrFull},
		{"array A; array B; array C; array D; array E; array F; array G; A = 1;", []int{0}, 0, nil, nil, api.OK}, {"array A; array B; array C; array D; array E; array F; array G; array H; A = 1;", []int{0}, 0, nil, nil, api.ErrFull}, {"array A; " + strings.Repeat("A = 1; ", 252), []int{9}, 0, nil, nil, api.OK}, {"array A; " + strings.Repeat("A = 1; ", 253), []int{9}, 0, nil, nil, api.ErrFull},
		{"array A[9]; for i = 0 to 0 { A[600000 i] = 1; }", []int{0, 0, 0}, 0, list(l(0, -600000)), []int{1}, api.ErrFull}, {"array A[9]; for i = 0 to 0 { A[600000 i] = 1; }", []int{0, 0, 0}, 0, list(l(0, 600000)), []int{1}, api.OK},
		// Too many variables for the footprint.
		{"param n; param m; array A[2][2][2]; for a = 0 to 0 { for b = 0 to 0 { for c = 0 to 0 { for d = 0 to 0 { for e = 0 to 0 { for f = 0 to 0 { for g = 0 to 0 { for h = 0 to 0 { A[0][0][0] = 1; } } } } } } } }", []int{0, 0, 0, 0, 0, 0, 0, 0, 0, 0, 0, 0, 0, 0, 0, 0, 0}, 0, list(l(0, make([]int, 10)...), l(0, make([]int, 10)...), l(0, make([]int, 10)...)), []int{1, 1, 1}, api.ErrFull},
	} {
		q, e := scratch.Copy(parse(t, x.text), x.path, x.a, x.low, x.size)
		if e != x.want || e != api.OK && !lang.Same(q, api.Program{}) {
			t.Errorf("Copy of %q, %v, %v, %v: %d, want %d", x.text, x.path, x.low, x.size, e, x.want)
		}
	}
	bad := api.Program{Params: []string{"to"}}
	_, e1 := scratch.Foot(bad, nil, 9, true)
	_, e2 := scratch.Box(bad, nil, 9, nil)
	_, e3 := scratch.Copy(bad, nil, 9, nil, nil)
	_, e4 := scratch.Use(bad, nil, nil, []int{1})
	_, e5 := scratch.Foot(parse(t, window), []int{7}, 9, true)
	_, e6 := scratch.Foot(parse(t, window), []int{0}, 2, true)
	if got := []api.Errno{e1, e2, e3, e4, e5, e6}; !slices.Equal(got, []api.Errno{1, 1, 1, 1, 5, 6}) {
		t.Errorf("errors: %v", got)
	}
}

// P30.1: footprints that are too large.
func TestFull(t *testing.T) {
	many := "param n; param m; array A[2][2][2]; array B[2][2]; for a = 0 to 0 { for b = 0 to 0 { for c = 0 to 0 { for d = 0 to 0 { for e = 0 to 0 { for f = 0 to 0 { for g = 0 to 0 { for h = 0 to 0 { B[0][0] = A[0][0][0]; } } } } } } } }"
	path := slices.Repeat([]int{0}, 17)
	for _, x := range []struct {
		text string
		path []int
		a    int
		want api.Errno
	}{
		{many, path, 0, api.ErrFull}, {many, path, 1, api.OK},
		// The loops inside count as well, because they are eliminated afterwards.
		{many, path[:1], 0, api.ErrFull}, {many, path[:1], 1, api.OK}, {"array S[9]; for i = 0 to 9 { if { i : 509 | i } { S[0] = 1; } else { S[1] = 2; } }", []int{0}, 0, api.ErrFull}, {"array S[9]; for i = 0 to 99999 { for j = 0 to 99999 { if { i, j : 600 i = 601 j } { S[i] = 1; } } }", []int{0}, 0, api.ErrFull},
	} {
		for _, writes := range []bool{false, true} {
			want := x.want
			if writes && x.a == 0 && x.text == many {
				want = api.OK
				if len(x.path) == 17 {
					want = api.ErrFull
				}
			}
			if s, e := scratch.Foot(parse(t, x.text), x.path, x.a, writes); e != want || e != api.OK && (s.Dim != 0 || len(s.Pieces) != 0) {
				t.Errorf("Foot of %q, %v, %d, %v: %d, want %d", x.text, x.path, x.a, writes, e, want)
			}
		}
	}
}

// paths returns the paths of all statements.
func paths(p api.Program) (all [][]int) {
	var walk func(l []api.Stmt, path []int)
	walk = func(l []api.Stmt, path []int) {
		for i, s := range l {
			here := append(slices.Clone(path), i)
			all = append(all, here)
			walk(s.Body, append(slices.Clone(here), 0))
			walk(s.Else, append(slices.Clone(here), 1))
		}
	}
	walk(p.Body, nil)
	return all
}

func value(l api.Lin, x []int) int {
	v := l.K
	for i, c := range l.C {
		v += c * x[i]
	}
	return v
}

// touched returns the cells that the assignments of a statement access, for all values of the outer variables, from the instances that are executed.
func touched(t *testing.T, p api.Program, path, params []int, a int, writes bool) (cells [][]int) {
	t.Helper()
	insts, e := run.Insts(p, params)
	infos, f := lang.Assigns(p)
	uses, g := lang.Uses(p)
	if e+f+g != api.OK {
		t.Fatal(e, f, g)
	}
	outer := len(spaceOf(t, p, path)) - len(params)
	for _, x := range insts {
		if at := infos[x.Stmt].Path; len(at) < len(path) || !slices.Equal(at[:len(path)], path) {
			continue
		}
		for _, u := range uses {
			if u.Stmt != x.Stmt || u.R.Array != a || writes && !u.Write {
				continue
			}
			c := slices.Clone(x.At[:outer])
			for _, sub := range u.R.Subs {
				c = append(c, value(sub, slices.Concat(params, x.At)))
			}
			cells = append(cells, c)
		}
	}
	slices.SortFunc(cells, slices.Compare[[]int])
	return slices.CompactFunc(cells, slices.Equal[[]int])
}

// P30.4, P30.7.
func TestTouched(t *testing.T) {
	for _, text := range []string{window, mixed, grid, bands} {
		p := parse(t, text)
		for _, path := range paths(p) {
			outer := len(spaceOf(t, p, path)) - 1
			for n := range 6 {
				counts := map[string]int{}
				for a := range p.Arrays {
					for _, writes := range []bool{false, true} {
						foot, e := scratch.Foot(p, path, a, writes)
						if e != api.OK {
							t.Fatalf("Foot of %q, %v, %d: %d", text, path, a, e)
						}
						fixed, e := set.Fix(foot, 0, n)
						got, f := point.Points(fixed)
						want := touched(t, p, path, []int{n}, a, writes)
						if e+f != api.OK || !same(got, want) {
							t.Errorf("%q, %v, %d, n = %d: %v, want %v", text, path, a, n, got, want)
						}
						if !writes {
							for _, c := range want {
								counts[word(c[:outer])]++
							}
						}
					}
				}
				checkUse(t, p, path, n, outer, counts)
			}
		}
	}
}

func word(l []int) string {
	var b strings.Builder
	for _, n := range l {
		b.WriteByte(byte('a' + n + 5))
	}
	return b.String()
}

// checkUse compares Use with counted cells, for all values of the outer variables from -1 to 7.
func checkUse(t *testing.T, p api.Program, path []int, n, outer int, counts map[string]int) {
	t.Helper()
	at := make([]int, outer)
	var check func(i int)
	check = func(i int) {
		if i == outer {
			if got, e := scratch.Use(p, path, []int{n}, at); e != api.OK || got != counts[word(at)] {
				t.Errorf("Use of %v, %d, %v: %d, %d; want %d", path, n, at, got, e, counts[word(at)])
			}
			return
		}
		for at[i] = -1; at[i] <= 7; at[i]++ {
			check(i + 1)
		}
	}
	check(0)
}

// P30.4.
func TestUse(t *testing.T) {
	scalars := "array S; array T; array U; for i = 0 to 3 { S = T; S = 1; }"
	for _, x := range []struct {
		text             string
		path, params, at []int
		want             int
		e                api.Errno
	}{
		{window, []int{0, 0, 0}, []int{5}, []int{1}, 4, api.OK}, {window, []int{0, 0, 0}, []int{5}, []int{3}, 0, api.OK}, {window, []int{0}, []int{5}, nil, 8, api.OK}, {window, []int{0}, []int{1000}, nil, 1998, api.OK}, {window, []int{0, 0, 0, 0, 0}, []int{5}, []int{1, 2}, 2, api.OK}, {scalars, []int{0}, nil, nil, 2, api.OK}, {scalars, []int{0, 0, 1}, nil, []int{3}, 1, api.OK}, {scalars, []int{0, 0, 1}, nil, []int{4}, 0, api.OK},
		{window, []int{0, 0, 1}, nil, nil, 0, api.ErrNone}, {window, []int{0, 0, 0}, nil, []int{0}, 0, api.ErrDim}, {window, []int{0, 0, 0}, []int{5}, nil, 0, api.ErrDim}, {window, []int{0, 0, 0}, []int{-1}, nil, 0, api.ErrDim}, {window, []int{0, 0, 0}, []int{5}, []int{0, 0}, 0, api.ErrDim}, {window, []int{0, 0, 0}, []int{5, 5}, []int{0}, 0, api.ErrDim}, {window, []int{0, 0, 0}, []int{-1}, []int{0}, 0, api.ErrRange}, {window, []int{0, 0, 0}, []int{1001}, []int{0}, 0, api.ErrRange}, {window, []int{0, 0, 0}, []int{5}, []int{api.MaxCoord + 1}, 0, api.ErrRange}, {window, []int{0, 0, 0}, []int{5}, []int{-api.MaxCoord - 1}, 0, api.ErrRange}, {window, []int{0, 0, 0}, []int{5}, []int{math.MinInt}, 0, api.ErrRange}, {window, []int{0, 0, 0}, []int{0}, []int{-5}, 0, api.OK}, {window, []int{0, 0, 0}, []int{0}, []int{-api.MaxCoord}, 0, api.OK}, {window, []int{0, 0, 0}, []int{1000}, []int{api.MaxCoord}, 0, api.OK}, {"array S[9]; for i = 0 to 9 { for j = 0 to 9 { S[0] = 1; } }", []int{0, 0, 0, 0, 0}, nil, []int{0, -api.MaxCoord - 1}, 0, api.ErrRange}, {"array S[9]; for i = 0 to 9 { for j = 0 to 9 { S[0] = 1; } }", []int{0, 0, 0, 0, 0}, nil, []int{0, api.MaxCoord}, 0, api.OK},
		// The variables are checked before a footprint that cannot be computed.
		{"array S[9]; for k = 0 to 1 { for i = 0 to 99999 { for j = 0 to 99999 { if { k, i, j : 600 i = 601 j } { S[i] = 1; } } } }", []int{0, 0, 0}, nil, []int{api.MaxCoord + 1}, 0, api.ErrRange},
		// Too many cells for Count, and a footprint that cannot be computed.
		{"array A[5000]; for i = 0 to 4095 { A[i] = 1; }", []int{0}, nil, nil, 4096, api.OK}, {"array A[5000]; for i = 0 to 999999 { A[i] = 1; }", []int{0}, nil, nil, 0, api.ErrFull}, {"array S[9]; for i = 0 to 99999 { for j = 0 to 99999 { if { i, j : 600 i = 601 j } { S[i] = 1; } } }", []int{0}, nil, nil, 0, api.ErrFull},
	} {
		if n, e := scratch.Use(parse(t, x.text), x.path, x.params, x.at); n != x.want || e != x.e {
			t.Errorf("Use of %q, %v, %v, %v: %d, %d; want %d, %d", x.text, x.path, x.params, x.at, n, e, x.want, x.e)
		}
	}
}

// P30.5.
func TestCopied(t *testing.T) {
	const small = "param n; array A[20]; array S; for i = 0 to 5 { if { n, i : 2 | i } { A[i] = A[i + 1] * S; } else { for j = i to 8 step 2 { A[j + 3] = A[j]; S = S + A[3]; } } A[2 i] = <i + n>; }"
	const square = "param n; array A[8][8]; array B[8]; for i = 0 to 6 { for j = 0 to i { A[i][j] = A[j][i + 1] + B[i]; B[j] = A[i][j] * 2; } } B[0] = A[0][0];"
	copies := 0
	for _, text := range []string{window, bands, small, square} {
		p := parse(t, text)
		for _, path := range paths(p) {
			space := len(spaceOf(t, p, path))
			for a, array := range p.Arrays {
				for first := 0; first <= space; first++ {
					low := lows(space, first, len(array.Sizes))
					size, e := scratch.Box(p, path, a, low)
					if e != api.OK {
						continue
					}
					q, e := scratch.Copy(p, path, a, low, size)
					if e != api.OK {
						t.Fatalf("Copy of %q, %v, %v, %v: %d", text, path, low, size, e)
					}
					copies++
					checkSame(t, p, q)
				}
			}
		}
	}
	if copies < 60 {
		t.Errorf("only %d copies", copies)
	}
}

// lows returns boxes that begin below a variable, or at 0.
func lows(space, v, count int) (low []api.Lin) {
	for range count {
		l := api.Lin{C: make([]int, space)}
		if v < space && v > 0 {
			l.C[v], l.K = 1, -v
		}
		low = append(low, l)
	}
	return low
}

// checkSame executes a program and the one with a buffer.
func checkSame(t *testing.T, p, q api.Program) {
	t.Helper()
	for n := range 7 {
		m, e := run.Fresh(p, []int{n}, n)
		more, f := run.Fresh(q, []int{n}, 99-n)
		if e+f != api.OK {
			t.Fatal(e, f)
		}
		copy(more, m)
		want, _, e := run.Run(p, []int{n}, m)
		got, _, f := run.Run(q, []int{n}, more)
		if e+f != api.OK {
			t.Fatal(e, f)
		}
		if !same(got[:len(want)], want) {
			text, _ := source.Print(q)
			t.Errorf("n = %d: %v, want %v, for %s", n, got, want, text)
		}
	}
}
