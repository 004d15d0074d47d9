package scop_test

import (
	"headland/api"
	"headland/elim"
	"headland/point"
	"headland/run"
	"headland/scop"
	"headland/set"
	"headland/settext"
	"headland/source"
	"math"
	"slices"
	"strings"
	"testing"
)

func parse(t *testing.T, text string) api.Program {
	t.Helper()
	p, e := source.Parse(text)
	if e != api.OK {
		t.Fatalf("Parse(%q): %d", text, e)
	}
	return p
}

func same(a, b api.Set) bool {
	return a.Dim == b.Dim && slices.EqualFunc(a.Pieces, b.Pieces, func(p, q []api.Cond) bool {
		return slices.EqualFunc(p, q, func(a, b api.Cond) bool {
			return a.Kind == b.Kind && a.M == b.M && a.L.K == b.L.K && slices.Equal(a.L.C, b.L.C)
		})
	})
}

// of parses a set, and normalizes it.
func of(t *testing.T, text string) api.Set {
	t.Helper()
	_, s, e := settext.Parse(text)
	if e != api.OK {
		t.Fatalf("Parse(%q): %d", text, e)
	}
	s, e = set.Normal(s)
	if e != api.OK {
		t.Fatal(e)
	}
	return s
}

func check(t *testing.T, what string, s api.Set, e api.Errno, want api.Set) {
	t.Helper()
	if e != api.OK || !same(s, want) {
		t.Errorf("%s: %v, %d; want %v", what, s, e, want)
	}
}

const shift = "param n; array A[n + 1]; for i = 0 to n - 1 { A[i] = A[i + 1] + 1; }"

// P13.1, P13.5.
func TestDomain(t *testing.T) {
	for _, x := range []struct {
		text    string
		domains []string
	}{
		{shift, []string{"{ n, i : n >= 0 and 1000 - n >= 0 and i >= 0 and n - 1 - i >= 0 }"}},
		{"array S; S = 1;", []string{"{ : true }"}}, {"param n; param m; array S; S = 1;", []string{"{ n, m : n >= 0 and n <= 1000 and m >= 0 and m <= 1000 }"}}, {"", nil},
		{"param n; array S; for i = min(max(1, ceil(n, 3)), 5) to max(9, min(n, floor(2 n + 1, 4))) { S = 1; }", []string{"{ n, i : n >= 0 and n <= 1000 and i >= 1 and 3 i >= n and i <= 9 or n >= 0 and n <= 1000 and i >= 1 and 3 i >= n and i <= n and 4 i <= 2 n + 1 or n >= 0 and n <= 1000 and i >= 5 and i <= 9 or n >= 0 and n <= 1000 and i >= 5 and i <= n and 4 i <= 2 n + 1 }"}},
		{"param n; array S; for i = n + 1 to 9 step 3 { S = 1; }", []string{"{ n, i : n >= 0 and n <= 1000 and i >= n + 1 and i <= 9 and 3 | i - n - 1 }"}},
		{"param n; array S; for i = 0 to n { if { n, i : 2 | i } { S = 1; for j = i to n { S = 2; } } else { S = 3; } S = 4; }", []string{"{ n, i : n >= 0 and n <= 1000 and i >= 0 and i <= n and 2 | i }", "{ n, i, j : n >= 0 and n <= 1000 and i >= 0 and i <= n and 2 | i and j >= i and j <= n }", "{ n, i : n >= 0 and n <= 1000 and i >= 0 and i <= n and 2 | i + 1 }", "{ n, i : n >= 0 and n <= 1000 and i >= 0 and i <= n }"}},
		{"param n; array S; if { n : n = 3 } { S = 1; } else { if { n : n >= 5 or n = 1 } { } else { S = 2; } }", []string{"{ n : n = 3 }", "{ n : n = 4 or n = 2 or n = 0 }"}},
		{"param n; array S; for i = 0 to n { if { n, i : false } { S = 1; } else { S = 2; } if { n, i : true } { S = 3; } else { S = 4; } }", []string{"{ n, i : false }", "{ n, i : n >= 0 and n <= 1000 and i >= 0 and i <= n }", "{ n, i : n >= 0 and n <= 1000 and i >= 0 and i <= n }", "{ n, i : false }"}},
		{"array S; for i = 3 to 2 { S = 1; }", []string{"{ i : false }"}}, {"array S; for i = 3 to 3 { S = 1; }", []string{"{ i : i = 3 }"}}, {"array S; for i = -1048576 to 1048576 { for j = 1048576 i to 1048576 i { S = 1; } }", []string{"{ i, j : -1048576 i + j = 0 and i >= -1048576 and i <= 1048576 }"}},
	} {
		p := parse(t, x.text)
		all, e := scop.Domains(p)
		if e != api.OK || len(all) != len(x.domains) {
			t.Errorf("Domains of %q: %d of them, %d", x.text, len(all), e)
			continue
		}
		for k, text := range x.domains {
			want := of(t, text)
			check(t, x.text, all[k], api.OK, want)
			s, e := scop.Domain(p, k)
			check(t, x.text, s, e, want)
		}
	}
}

func TestErrors(t *testing.T) {
	p := parse(t, shift)
	for _, s := range []int{-1, 1, math.MinInt, math.MaxInt} {
		_, e1 := scop.Domain(p, s)
		_, e2 := scop.Common(p, s, 0)
		_, e3 := scop.Common(p, 0, s)
		_, e4 := scop.Before(p, s, 0)
		_, e5 := scop.Before(p, 0, s)
		_, e6 := scop.Cell(p, s, 0)
		_, e7 := scop.Outside(p, s, 0)
		pos := s
		if s == 1 {
			pos = 2
		}
		_, e8 := scop.Cell(p, 0, pos)
		_, e9 := scop.Outside(p, 0, pos)
		if l := []api.Errno{e1, e2, e3, e4, e5, e6, e7, e8, e9}; !slices.Equal(l, slices.Repeat([]api.Errno{api.ErrNone}, 9)) {
			t.Errorf("%d: %v", s, l)
		}
	}
	bad := api.Program{Params: []string{"to"}}
	_, e1 := scop.Domain(bad, 5)
	_, e2 := scop.Common(bad, 5, 0)
	_, e3 := scop.Before(bad, 5, 0)
	_, e4 := scop.Cell(bad, 5, 0)
	_, e5 := scop.Domains(bad)
	_, e6 := scop.Outside(bad, 5, 0)
	if l := []api.Errno{e1, e2, e3, e4, e5, e6}; !slices.Equal(l, slices.Repeat([]api.Errno{api.ErrArg}, 6)) {
		t.Errorf("an invalid program: %v", l)
	}
	// The rest of a test with 512 remainders is refused, wherever it stands.
	q := parse(t, "array S; S = 1; for i = 0 to 9 { if { i : 509 | i } { S = 2; } else { S = 3; } }")
	if s, e := scop.Domain(q, 2); e != api.ErrFull || s.Dim != 0 {
		t.Errorf("Domain: %v, %d", s, e)
	}
	if _, e := scop.Domain(q, 1); e != api.OK {
		t.Errorf("Domain: %d", e)
	}
	if l, e := scop.Domains(q); e != api.ErrFull || len(l) != 0 {
		t.Errorf("Domains: %v, %d", l, e)
	}
	if s, e := scop.Outside(q, 2, 0); e != api.ErrFull || s.Dim != 0 {
		t.Errorf("Outside: %v, %d", s, e)
	}
	// 21 low parts and 20 high parts are too many pieces.
	var low, high []string
	for i := range 21 {
		low, high = append(low, "i"+strings.Repeat(" + i", i)), append(high, "i"+strings.Repeat(" + i", 30+i))
	}
	text := func(n, m int) string {
		return "array S; for i = 0 to 9 { for j = min(" + strings.Join(low[:n], ", ") + ") to max(" + strings.Join(high[:m], ", ") + ") { S = 1; } }"
	}
	if s, e := scop.Domain(parse(t, text(20, 20)), 0); e != api.OK || len(s.Pieces) != 400 {
		t.Errorf("400 pieces: %d, %d", len(s.Pieces), e)
	}
	if _, e := scop.Domain(parse(t, text(21, 20)), 0); e != api.ErrFull {
		t.Errorf("420 pieces: %d", e)
	}
}

// nest has assignments at many places:
//
//	0 | i: 1 | j: 2 | if: 3 else 4 | j: 5, k: 6 | i: 7
const nest = "param n; array A[9]; A[0] = 0; for i = 0 to 2 { A[1] = 0; for j = 0 to 1 { A[2] = 0; } if { n, i : i = 1 } { A[3] = 0; for j = 0 to 1 { A[4] = 0; A[8] = 0; } } else { A[5] = 0; } for j = 0 to 1 { A[6] = 0; for k = 0 to 1 { A[7] = 0; } } } for i = 0 to 1 { A[8] = 0; }"

// P13.2, P13.3.
func TestCommonBefore(t *testing.T) {
	p := parse(t, nest)
	common := [][]int{
		{0, 0, 0, 0, 0, 0, 0, 0, 0, 0}, {0, 1, 1, 1, 1, 1, 1, 1, 1, 0}, {0, 1, 2, 1, 1, 1, 1, 1, 1, 0}, {0, 1, 1, 1, 1, 1, 1, 1, 1, 0}, {0, 1, 1, 1, 2, 2, 1, 1, 1, 0},
		{0, 1, 1, 1, 2, 2, 1, 1, 1, 0}, {0, 1, 1, 1, 1, 1, 1, 1, 1, 0}, {0, 1, 1, 1, 1, 1, 1, 2, 2, 0}, {0, 1, 1, 1, 1, 1, 1, 2, 3, 0}, {0, 0, 0, 0, 0, 0, 0, 0, 0, 1},
	}
	for s := range common {
		for u, want := range common[s] {
			if c, e := scop.Common(p, s, u); c != want || e != api.OK {
				t.Errorf("Common(%d, %d) = %d, %d", s, u, c, e)
			}
		}
	}
	for _, x := range []struct {
		s, t int
		text string
	}{
		{0, 0, "{ n : false }"}, {0, 1, "{ n, i : true }"}, {1, 0, "{ n, i : false }"}, {1, 1, "{ n, i, j : j > i }"}, {1, 2, "{ n, i, k, l : k > i or k = i }"}, {2, 1, "{ n, i, j, k : k > i }"}, {2, 2, "{ n, i, j, k, l : k > i or k = i and l > j }"},
		{4, 5, "{ n, i, j, k, l : k > i or k = i and l > j or k = i and l = j }"}, {5, 4, "{ n, i, j, k, l : k > i or k = i and l > j }"}, {8, 7, "{ n, i, j, k, x, y : x > i or x = i and y > j }"}, {7, 8, "{ n, i, j, x, y, z : x > i or x = i and y > j or x = i and y = j }"}, {8, 9, "{ n, i, j, k, x : true }"}, {9, 8, "{ n, i, j, k, x : false }"},
	} {
		s, e := scop.Before(p, x.s, x.t)
		check(t, "Before", s, e, of(t, x.text))
	}
	// Loops on the two sides of a test are different, and those in an Else count.
	sides := parse(t, "array A[9]; if { : true } { for j = 0 to 1 { A[0] = 0; } } else { for j = 0 to 1 { A[1] = 0; A[2] = 0; } for k = 0 to 1 { A[3] = 0; } }")
	for i, want := range []int{1, 0, 0, 0, 0, 1, 1, 0, 0, 1, 1, 0, 0, 0, 0, 1} {
		if c, e := scop.Common(sides, i/4, i%4); c != want || e != api.OK {
			t.Errorf("Common(%d, %d) of the sides = %d, %d", i/4, i%4, c, e)
		}
	}
	example := parse(t, shift)
	s, e := scop.Before(example, 0, 0)
	check(t, "example 1", s, e, of(t, "{ n, i, j : j - i - 1 >= 0 }"))
	deep := parse(t, "param n; array S; for a = 0 to 1 { for b = 0 to 1 { for c = 0 to 1 { for d = 0 to 1 { for e = 0 to 1 { S = 1; for f = 0 to 1 { S = 2; } } } } } }")
	if s, e := scop.Before(deep, 0, 1); s.Dim != 12 || e != api.OK {
		t.Errorf("12 variables: %d, %d", s.Dim, e)
	}
	if s, e := scop.Before(deep, 1, 1); s.Dim != 0 || e != api.ErrFull {
		t.Errorf("13 variables: %d, %d", s.Dim, e)
	}
}

// P13.4.
func TestCell(t *testing.T) {
	p := parse(t, "param n; array A[n][n]; array S; for i = 0 to n { for j = 0 to i { A[2 i - n + 3][j] = A[j][5] + S; } }")
	for pos, text := range []string{"{ n, i, j -> x, y : x = 2 i - n + 3 and y = j }", "{ n, i, j -> x, y : x = j and y = 5 }", "{ n, i, j -> : true }"} {
		_, want, e := settext.ParseRel(text)
		if e != api.OK {
			t.Fatal(e)
		}
		r, e := scop.Cell(p, 0, pos)
		n, _ := set.Normal(api.Set{Dim: want.In + want.Out, Pieces: want.Pieces})
		if e != api.OK || r.In != want.In || r.Out != want.Out || !same(api.Set{Dim: n.Dim, Pieces: r.Pieces}, n) {
			t.Errorf("Cell(%d) = %v, %d; want %v", pos, r, e, n)
		}
	}
	if r, e := scop.Cell(p, 0, 3); e != api.ErrNone || r.In != 0 {
		t.Errorf("Cell: %v, %d", r, e)
	}
	loops := func(n int) string {
		text, end := "", ""
		for i := range n {
			text += "for " + string(rune('a'+i)) + " = 0 to 0 { "
			end += "}"
		}
		return "param n; array A[1][1][1]; array B[1][1]; " + text + "A[0][0][0] = B[0][0];" + end
	}
	deep := parse(t, loops(9))
	if r, e := scop.Cell(deep, 0, 0); e != api.ErrFull || r.In != 0 {
		t.Errorf("13 variables: %v, %d", r, e)
	}
	if r, e := scop.Cell(deep, 0, 1); e != api.OK || r.In != 10 || r.Out != 2 {
		t.Errorf("12 variables: %v, %d", r, e)
	}
	if r, e := scop.Cell(deep, 0, 2); e != api.ErrNone || r.In != 0 {
		t.Errorf("no access: %v, %d", r, e)
	}
}

// P13.6.
func TestOutside(t *testing.T) {
	for _, x := range []struct {
		text string
		pos  int
		want string
	}{
		{shift, 0, "{ n, i : false }"}, {shift, 1, "{ n, i : false }"}, {"array S; S = 1;", 0, "{ : false }"},
		{"param n; array A[n]; for i = 0 to n { A[i] = 1; }", 0, "{ n, i : n >= 0 and n <= 1000 and i = n and i >= 0 }"},
		{"param n; array A[n]; for i = -1 to n { A[i] = 1; }", 0, "{ n, i : n >= 0 and n <= 1000 and i = -1 and n >= i or n >= 0 and n <= 1000 and i = n and i >= -1 }"},
		{"param n; array A[n][5]; for i = 0 to n { A[i - 1][2 i] = 1; }", 0, "{ n, i : n >= 0 and n <= 1000 and i = 0 and n >= i or n <= 1000 and n >= i and n >= 0 and i >= 3 }"},
		{"param n; param m; array A[m]; for i = 0 to n { A[0] = A[n]; }", 1, "{ n, m, i : n <= 1000 and m >= 0 and m <= 1000 and n >= m and i >= 0 and i <= n and n >= 0 }"},
		{"param n; param m; array A[m]; for i = 0 to n { A[0] = A[n]; }", 0, "{ n, m, i : n <= 1000 and m = 0 and i >= 0 and i <= n and n >= 0 }"},
	} {
		s, e := scop.Outside(parse(t, x.text), 0, x.pos)
		check(t, x.text, s, e, of(t, x.want))
	}
	// A size that is just within the limits.
	far := parse(t, "array A[1048576]; A[-1048576] = A[1048576];")
	s, e := scop.Outside(far, 0, 0)
	check(t, "far below", s, e, of(t, "{ : true }"))
	s, e = scop.Outside(far, 0, 1)
	check(t, "far above", s, e, of(t, "{ : true }"))
	beyond := parse(t, "array A[9]; for i = 0 to 1 { for j = 0 to 1 { A[i + j + 1048576] = A[i + 1048576]; } }")
	if s, e := scop.Outside(beyond, 0, 0); e != api.ErrFull || s.Dim != 0 {
		t.Errorf("beyond: %v, %d", s, e)
	}
	s, e = scop.Outside(beyond, 0, 1)
	check(t, "beyond, but void", s, e, of(t, "{ i, j : i >= 0 and i <= 1 and j >= 0 and j <= 1 }"))
	wide := parse(t, "array A[1048576]; for i = -1 to 1 { A[i - 1048575] = A[i + 1048575]; }")
	if s, e := scop.Outside(wide, 0, 0); e != api.OK || len(s.Pieces) != 1 {
		t.Errorf("wide: %v, %d", s, e)
	}
}

// programs are some whose cells exist for n up to 5.
func programs() []string {
	return []string{
		shift, nest,
		"param n; array A[40]; for i = 0 to n { A[i] = 1; if { n, i : 2 | i + n } { for j = i to n step 2 { A[i + j] = A[j]; } } else { A[2 i] = 3; } } for i = n to 2 n { A[i] = 2; }",
		"param n; array A[40]; for i = ceil(n, 2) to max(min(n, 4), floor(n + 3, 3)) { for j = min(max(0, i - 2), n - 3) to n { A[i + j + 4] = A[i] + A[j + 4]; } }",
		"param n; array A[40]; for i = -3 to 3 step 3 { for j = 0 to i { for k = j to i { A[i + j + k] = 1; } A[j] = 1; } }",
	}
}

// P13.7.
func TestInstances(t *testing.T) {
	for _, text := range programs() {
		p := parse(t, text)
		domains, e := scop.Domains(p)
		if e != api.OK {
			t.Fatal(e)
		}
		for n := range 6 {
			insts, e := run.Insts(p, []int{n})
			if e != api.OK {
				t.Fatal(e)
			}
			counts := make([]int, len(domains))
			for i, x := range insts {
				counts[x.Stmt]++
				at := append([]int{n}, x.At...)
				if in, e := set.Has(domains[x.Stmt], at); !in || e != api.OK {
					t.Fatalf("%q: %v is not in its domain", text, x)
				}
				for _, y := range insts[i:] {
					ahead, _ := scop.Before(p, x.Stmt, y.Stmt)
					behind, _ := scop.Before(p, y.Stmt, x.Stmt)
					a, _ := set.Has(ahead, slices.Concat(at, y.At))
					b, _ := set.Has(behind, slices.Concat([]int{n}, y.At, x.At))
					self := x.Stmt == y.Stmt && slices.Equal(x.At, y.At)
					if a == self || b {
						t.Fatalf("%q: %v before %v: %v, %v", text, x, y, a, b)
					}
				}
			}
			for k, d := range domains {
				f, _ := set.Fix(d, 0, n)
				if c, e := point.Count(f); c != counts[k] || e != api.OK {
					t.Errorf("%q, n = %d: assignment %d has %d instances and %d points", text, n, k, counts[k], c)
				}
			}
		}
	}
}

// P13.8.
func TestBounds(t *testing.T) {
	texts := append(programs(), "param n; array A[n]; for i = 0 to n - 1 { if { n, i : i >= 1 } { A[i] = A[i - 1]; } }", "param n; array A[n + 1][3]; for i = 0 to n { for j = 0 to 2 { A[i][j] = A[i][2 - j]; } }", "param n; array A[5]; for i = 0 to n { A[i] = 1; }", "param n; array A[n]; for i = 0 to n - 1 { A[i] = A[i - 1]; }")
	safe := 0
	for _, text := range texts {
		p := parse(t, text)
		sets := []api.Set{}
		for k := 0; ; k++ {
			if _, e := scop.Domain(p, k); e != api.OK {
				break
			}
			for pos := 0; ; pos++ {
				s, e := scop.Outside(p, k, pos)
				if e == api.ErrNone {
					break
				}
				if e != api.OK {
					t.Fatal(e)
				}
				sets = append(sets, s)
			}
		}
		all := true
		for n := range 8 {
			within := true
			for _, s := range sets {
				f, _ := set.Fix(s, 0, n)
				none, e := elim.Empty(f)
				if e != api.OK {
					t.Fatal(e)
				}
				within = within && none
			}
			m, _ := run.Fresh(p, []int{n}, 0)
			if _, _, e := run.Run(p, []int{n}, m); (e == api.OK) != within {
				t.Errorf("%q, n = %d: %d, %v", text, n, e, within)
			}
			all = all && within
		}
		if all {
			safe++
		}
	}
	if safe < 3 || safe == len(texts) {
		t.Errorf("%d of %d programs are safe", safe, len(texts))
	}
}
