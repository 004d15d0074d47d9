package search_test

import (
	"headland/api"
	"headland/dep"
	"headland/lang"
	"headland/legal"
	"headland/point"
	"headland/sched"
	"headland/search"
	"headland/set"
	"headland/settext"
	"headland/source"
	"math"
	"math/rand"
	"slices"
	"strings"
	"testing"
)

func parse(t *testing.T, text string) api.Program {
	t.Helper()
	p, e := source.Parse(text)
	if e != api.OK {
		t.Fatalf("Parse(%q): %d", text, e)
	}
	return p
}

func deps(t *testing.T, p api.Program) []api.Dep {
	t.Helper()
	l, e := dep.All(p)
	if e != api.OK {
		t.Fatal(e)
	}
	return l
}

// none is the schedule of p without rows.
func none(t *testing.T, p api.Program) api.Sched {
	t.Helper()
	infos, e := lang.Assigns(p)
	if e != api.OK {
		t.Fatal(e)
	}
	return api.Sched{Rows: make([][]api.Row, len(infos))}
}

func of(t *testing.T, text string) api.Set {
	t.Helper()
	_, s, e := settext.Parse(text)
	if e != api.OK {
		t.Fatalf("Parse(%q): %d", text, e)
	}
	if s, e = set.Normal(s); e != api.OK {
		t.Fatal(e)
	}
	return s
}

func schedule(t *testing.T, p api.Program, text string) api.Sched {
	t.Helper()
	s, e := sched.Parse(p, text)
	if e != api.OK {
		t.Fatalf("Parse(%q): %d", text, e)
	}
	return s
}

const (
	shift = "param n; array A[n + 1]; for i = 0 to n - 1 { A[i] = A[i + 1] + 1; }"
	grid  = "param n; array A[n + 1][n + 1]; for i = 1 to n { for j = 1 to n { A[i][j] = A[i - 1][j] + A[i][j - 1]; } }"
	ahead = "param n; array A[n + 3]; array B[n + 1]; for i = 0 to n + 2 { A[i] = 1; } for i = 0 to n { B[i] = A[i + 2]; }"
	apart = "param n; array A[n]; array B[n]; for i = 0 to n - 1 { A[i] = 1; } for i = 0 to n - 1 { B[i] = A[n - 1 - i]; }"
	back  = "param n; array A[n + 1]; for i = 1 to n { A[n - i] = A[n - i + 1] + 1; }"
	sum   = "param n; array S; array A[n][n]; S = 0; for i = 0 to n - 1 { for j = 0 to n - 1 { S = S + A[i][j]; } } A[0][0] = S;"
	three = "param n; array C[n][n]; array A[n][n]; array B[n][n]; for i = 0 to n - 1 { for j = 0 to n - 1 { C[i][j] = 0; for k = 0 to n - 1 { C[i][j] = C[i][j] + A[i][k] * B[k][j]; } } }"
	cycle = "param n; array A[n + 9]; array B[n + 9]; for i = 0 to n { A[i + 3] = B[i]; B[i + 4] = A[i] + 1; }"
	step  = "param n; array A[n + 9]; for i = 0 to n { A[i + 1] = A[i]; } for i = 0 to n { A[i] = A[i + 2] * 2; }"
)

// P19.1.
func TestTry(t *testing.T) {
	for _, x := range []struct {
		text   string
		mode   int
		c      []int
		shifts []int
		cost   int
		e      api.Errno
	}{
		{shift, 0, []int{1}, []int{0}, 1, api.OK}, {shift, 1, []int{1}, []int{0}, 0, api.OK}, {shift, 0, []int{-1}, nil, 0, api.ErrOrder},
		{grid, 0, []int{1, 0}, []int{0}, 1, api.OK}, {grid, 0, []int{0, 1}, []int{0}, 1, api.OK}, {grid, 0, []int{1, 1}, []int{0}, 2, api.OK}, {grid, 1, []int{1, 1}, []int{0}, 0, api.OK}, {grid, 1, []int{1, 0}, []int{0}, 1, api.OK}, {grid, 0, []int{1, -1}, nil, 0, api.ErrOrder}, {grid, 1, []int{0, -1}, nil, 0, api.ErrOrder},
		{ahead, 0, []int{1}, []int{0, 2}, 0, api.OK}, {ahead, 1, []int{1}, []int{0, 2}, 1, api.OK}, {ahead, 0, []int{-1}, []int{0, 0}, 1, api.OK}, {ahead, 1, []int{-1}, []int{0, 0}, 0, api.OK}, {apart, 0, []int{1}, nil, 0, api.ErrOrder},
		// A shift of 8, and of 9.
		{strings.ReplaceAll(ahead, "2", "8"), 0, []int{1}, []int{0, 8}, 0, api.OK}, {strings.ReplaceAll(ahead, "2", "9"), 0, []int{1}, nil, 0, api.ErrOrder},
		{cycle, 0, []int{1}, []int{0, 0}, 2, api.OK}, {cycle, 1, []int{1}, []int{0, 0}, 0, api.OK}, {cycle, 0, []int{-1}, nil, 0, api.ErrOrder}, {step, 0, []int{1}, []int{0, 2}, 5, api.OK},
		{three, 0, []int{1, 0, 0}, []int{0, 0}, 0, api.OK}, {three, 0, []int{0, 0, 1}, []int{0, 0}, 5, api.OK}, {three, 0, []int{0, 0, -1}, nil, 0, api.ErrOrder},
		{grid, 0, []int{1}, nil, 0, api.ErrDim}, {grid, 0, nil, nil, 0, api.ErrDim}, {grid, 0, []int{2, 0, 0}, nil, 0, api.ErrDim}, {grid, 0, []int{0, 0}, nil, 0, api.ErrRange}, {grid, 0, []int{2, 0}, nil, 0, api.ErrRange}, {grid, 0, []int{0, -2}, nil, 0, api.ErrRange}, {grid, 0, []int{math.MinInt, 1}, nil, 0, api.ErrRange}, {"array S; S = 1;", 0, nil, nil, 0, api.ErrRange},
	} {
		p := parse(t, x.text)
		shifts, cost, e := search.Try(p, deps(t, p), none(t, p), x.mode, x.c)
		if x.text == step && e == api.OK {
			checkStep(t, p, shifts, cost)
			continue
		}
		if !slices.Equal(shifts, x.shifts) || cost != x.cost || e != x.e {
			t.Errorf("Try of %q, mode %d, %v: %v, %d, %d", x.text, x.mode, x.c, shifts, cost, e)
		}
	}
}

// checkStep works out the cost from the definition.
func checkStep(t *testing.T, p api.Program, shifts []int, cost int) {
	t.Helper()
	want := 0
	for _, d := range deps(t, p) {
		l := api.Lin{C: make([]int, d.Pairs.Dim)}
		l.C[1], l.C[2] = -1, 1
		lo, e := point.Min(d.Pairs, l)
		hi, f := point.Max(d.Pairs, l)
		if e != api.OK || f != api.OK {
			t.Fatal(e, f)
		}
		if lo+shifts[d.To]-shifts[d.From] < 0 {
			t.Errorf("the shifts %v are too small", shifts)
		}
		if hi+shifts[d.To]-shifts[d.From] > 0 {
			want++
		}
	}
	if cost != want {
		t.Errorf("the cost is %d, not %d", cost, want)
	}
}

// The rounds of the shifts, with dependences that are made up.
func TestShifts(t *testing.T) {
	p := parse(t, "param n; array A[9]; for i = 0 to n { A[0] = 0; A[1] = 1; A[2] = 2; A[3] = 3; }")
	pair := func(from, to, distance int) api.Dep {
		s := of(t, "{ n, i, j : i >= 0 and i <= n and n <= 9 }")
		s, e := set.Where(s, []api.Cond{{Kind: api.Eq, L: api.Lin{C: []int{0, 1, -1}, K: distance}}})
		if e != api.OK {
			t.Fatal(e)
		}
		return api.Dep{From: from, To: to, Pairs: s}
	}
	for _, x := range []struct {
		what   string
		deps   []api.Dep
		shifts []int
		cost   [2]int
	}{
		{"none", nil, []int{0, 0, 0, 0}, [2]int{0, 0}},
		{"a chain in order", []api.Dep{pair(0, 1, -2), pair(1, 2, -2), pair(2, 3, -2)}, []int{0, 2, 4, 6}, [2]int{0, 3}},
		{"a chain against the order", []api.Dep{pair(2, 3, -2), pair(1, 2, -2), pair(0, 1, -2)}, []int{0, 2, 4, 6}, [2]int{0, 3}},
		{"a chain that is too long", []api.Dep{pair(2, 3, -3), pair(1, 2, -3), pair(0, 1, -3)}, nil, [2]int{}},
		{"a cycle of 0", []api.Dep{pair(0, 1, -2), pair(1, 0, 2)}, []int{0, 2, 0, 0}, [2]int{0, 2}},
		{"a cycle of 1", []api.Dep{pair(0, 1, -2), pair(1, 0, 3)}, []int{0, 2, 0, 0}, [2]int{1, 1}},
		{"a cycle of -1", []api.Dep{pair(0, 1, -2), pair(1, 0, 1)}, nil, [2]int{}},
		{"a long cycle of 0", []api.Dep{pair(3, 0, 6), pair(2, 3, -2), pair(1, 2, -2), pair(0, 1, -2)}, []int{0, 2, 4, 6}, [2]int{0, 4}},
		{"a long cycle of -1", []api.Dep{pair(3, 0, 5), pair(2, 3, -2), pair(1, 2, -2), pair(0, 1, -2)}, nil, [2]int{}},
		{"the greatest of two", []api.Dep{pair(0, 2, -1), pair(1, 2, -3), pair(0, 1, -1)}, []int{0, 1, 4, 0}, [2]int{1, 2}},
		{"itself, forth", []api.Dep{pair(1, 1, 3)}, []int{0, 0, 0, 0}, [2]int{1, 0}},
		{"itself, at once", []api.Dep{pair(1, 1, 0)}, []int{0, 0, 0, 0}, [2]int{0, 1}},
		{"itself, back", []api.Dep{pair(1, 1, -1)}, nil, [2]int{}},
		{"no pairs", []api.Dep{{From: 1, To: 0, Pairs: of(t, "{ n, i, j : i > j and j > i }")}}, []int{0, 0, 0, 0}, [2]int{0, 0}},
		{"no greatest difference", []api.Dep{{From: 0, To: 1, Pairs: of(t, "{ n, i, j : i = 0 and j >= 0 }")}}, nil, [2]int{}},
		{"no least difference", []api.Dep{{From: 0, To: 1, Pairs: of(t, "{ n, i, j : i >= 0 and j = 0 }")}}, nil, [2]int{}},
	} {
		for mode, cost := range x.cost {
			shifts, c, e := search.Try(p, x.deps, none(t, p), mode, []int{1})
			if x.shifts == nil {
				if e != api.ErrOrder || len(shifts) != 0 || c != 0 {
					t.Errorf("%s: %v, %d, %d", x.what, shifts, c, e)
				}
			} else if e != api.OK || !slices.Equal(shifts, x.shifts) || c != cost {
				t.Errorf("%s, mode %d: %v, %d, %d; want %v, %d", x.what, mode, shifts, c, e, x.shifts, cost)
			}
		}
	}
}

// P19.2.
func TestRow(t *testing.T) {
	for _, x := range []struct {
		text   string
		mode   int
		chosen [][]int
		c      []int
		shifts []int
		e      api.Errno
	}{
		{shift, 0, nil, []int{1}, []int{0}, api.OK}, {shift, 0, [][]int{{1}}, nil, nil, api.ErrNone}, {shift, 0, [][]int{{0}}, []int{1}, []int{0}, api.OK},
		{grid, 0, nil, []int{1, 0}, []int{0}, api.OK}, {grid, 0, [][]int{{1, 0}}, []int{0, 1}, []int{0}, api.OK}, {grid, 1, nil, []int{1, 1}, []int{0}, api.OK}, {grid, 1, [][]int{{1, 1}}, []int{1, 0}, []int{0}, api.OK}, {grid, 0, [][]int{{1, 1}, {1, 0}}, nil, nil, api.ErrNone}, {grid, 0, [][]int{{1, 1}, {-1, -1}}, []int{1, 0}, []int{0}, api.OK},
		{ahead, 0, nil, []int{1}, []int{0, 2}, api.OK}, {ahead, 1, nil, []int{-1}, []int{0, 0}, api.OK}, {apart, 0, nil, nil, nil, api.ErrNone}, {back, 0, nil, []int{1}, []int{0}, api.OK},
		{three, 0, nil, []int{1, 0, 0}, []int{0, 0}, api.OK}, {three, 0, [][]int{{1, 0, 0}}, []int{0, 1, 0}, []int{0, 0}, api.OK}, {sum, 0, nil, nil, nil, api.ErrNone}, {"array S; S = 1;", 0, nil, nil, nil, api.ErrNone}, {"", 0, nil, nil, nil, api.ErrNone},
		{grid, 0, [][]int{{1}}, nil, nil, api.ErrDim}, {grid, 0, [][]int{{1, 0}, {1, 0, 0}}, nil, nil, api.ErrDim}, {grid, 0, slices.Repeat([][]int{{9}}, 13), nil, nil, api.ErrDim}, {grid, 0, slices.Repeat([][]int{{9, 0}}, 13), nil, nil, api.ErrFull}, {grid, 0, slices.Repeat([][]int{{1, 0}}, 12), []int{0, 1}, []int{0}, api.OK}, {grid, 0, [][]int{{1, 0}, {0, 2}}, nil, nil, api.ErrRange}, {grid, 0, [][]int{{-2, 0}}, nil, nil, api.ErrRange},
	} {
		p := parse(t, x.text)
		c, shifts, e := search.Row(p, deps(t, p), none(t, p), x.mode, x.chosen)
		if !slices.Equal(c, x.c) || !slices.Equal(shifts, x.shifts) || e != x.e {
			t.Errorf("Row of %q, mode %d, %v: %v, %v, %d", x.text, x.mode, x.chosen, c, shifts, e)
		}
	}
	deep := func(n int) api.Program {
		text, end := "", ""
		for i := range n {
			text += "for " + string(rune('a'+i)) + " = 0 to 1 { "
			end += "}"
		}
		return parse(t, "array S; array T; "+text+"T = S;"+end)
	}
	five, six := deep(5), deep(6)
	if c, _, e := search.Row(five, nil, none(t, five), 0, nil); e != api.OK || !slices.Equal(c, []int{1, 0, 0, 0, 0}) {
		t.Errorf("5 loops: %v, %d", c, e)
	}
	if c, shifts, e := search.Row(six, nil, none(t, six), 0, nil); e != api.ErrFull || len(c) != 0 || len(shifts) != 0 {
		t.Errorf("6 loops: %v, %d", c, e)
	}
	if _, _, e := search.Row(six, nil, none(t, six), 0, [][]int{{2, 0, 0, 0, 0, 0}}); e != api.ErrRange {
		t.Errorf("6 loops: %d", e)
	}
	if s, e := search.Search(six, nil, 0); e != api.ErrFull || len(s.Rows) != 0 {
		t.Errorf("6 loops: %v, %d", s, e)
	}
	if _, _, e := search.Try(six, nil, none(t, six), 0, []int{0, 0, 0, 0, 0, -1}); e != api.OK {
		t.Errorf("6 loops: %d", e)
	}
}

// P19.2: the best one has the least cost; then the fewest nonzero elements, the smallest shifts, and it is the greatest.
func TestBest(t *testing.T) {
	for _, text := range []string{shift, grid, ahead, back, sum, three, cycle, step, apart, "param n; array A[n + 9][n + 9]; for i = 0 to n { for j = 0 to n { A[i + 1][j + 2] = A[i][j + 3] + A[i + 2][j]; } } for i = 0 to n { A[i][0] = A[i + 1][1]; }"} {
		p := parse(t, text)
		l := deps(t, p)
		depth := 0
		infos, _ := lang.Assigns(p)
		for _, x := range infos {
			depth = max(depth, len(x.Names)-len(p.Params))
		}
		for mode := range 2 {
			for _, chosen := range [][][]int{nil, {append([]int{1}, make([]int, depth-1)...)}} {
				var best, bestShifts []int
				var key []int
				total := 1
				for range depth {
					total *= 3
				}
				for k := range total {
					c := make([]int, depth)
					for i, r := 0, k; i < depth; i, r = i+1, r/3 {
						c[i] = r%3 - 1
					}
					shifts, cost, e := search.Try(p, l, none(t, p), mode, c)
					rank, _ := search.Rank(append(slices.Clone(chosen), c))
					if e != api.OK || rank != len(chosen)+1 {
						continue
					}
					now := []int{cost, 0, 0}
					for _, n := range c {
						now[1] += n * n
					}
					for _, n := range shifts {
						now[2] += n
					}
					for _, n := range c {
						now = append(now, -n)
					}
					if best == nil || slices.Compare(now, key) < 0 {
						best, bestShifts, key = c, shifts, now
					}
				}
				c, shifts, e := search.Row(p, l, none(t, p), mode, chosen)
				if best == nil && e != api.ErrNone || best != nil && (e != api.OK || !slices.Equal(c, best) || !slices.Equal(shifts, bestShifts)) {
					t.Errorf("Row of %q, mode %d, %v: %v, %v, %d; want %v, %v", text, mode, chosen, c, shifts, e, best, bestShifts)
				}
			}
		}
	}
}

// P19.3, P19.9.
func TestParts(t *testing.T) {
	p := parse(t, "array S; S = 0; S = 1; S = 2; S = 3; S = 4;")
	whole := api.Set{Pieces: [][]api.Cond{nil}}
	for _, x := range []struct {
		edges string
		parts []int
	}{
		{"", []int{0, 1, 2, 3, 4}}, {"01 12 23 34", []int{0, 1, 2, 3, 4}}, {"43 32 21 10", []int{4, 3, 2, 1, 0}}, {"01 10", []int{0, 0, 1, 2, 3}}, {"40", []int{4, 0, 1, 2, 3}}, {"31 13 20", []int{2, 0, 1, 0, 3}}, {"01 12 20 34 43", []int{0, 0, 0, 1, 1}}, {"01 12 20 34 43 41", []int{1, 1, 1, 0, 0}}, {"02 24 40 13", []int{0, 1, 0, 2, 0}}, {"10 31 03 42", []int{0, 0, 2, 0, 1}}, {"11 22 00", []int{0, 1, 2, 3, 4}}, {"04 43 32 21 10", []int{0, 0, 0, 0, 0}}, {"30 21", []int{3, 1, 0, 2, 4}},
	} {
		var l []api.Dep
		for _, e := range strings.Fields(x.edges) {
			l = append(l, api.Dep{From: int(e[0] - '0'), To: int(e[1] - '0'), Pairs: whole})
		}
		parts, e := search.Parts(p, l, none(t, p))
		if e != api.OK || !slices.Equal(parts, x.parts) {
			t.Errorf("Parts of %s: %v, %d; want %v", x.edges, parts, e, x.parts)
		}
		for _, d := range l {
			if parts[d.From] > parts[d.To] {
				t.Errorf("Parts of %s: %v", x.edges, parts)
			}
		}
	}
	// A dependence that is not open does not count.
	l := []api.Dep{{From: 4, To: 0, Pairs: whole}, {From: 3, To: 1, Pairs: api.Set{}}}
	if parts, e := search.Parts(p, l, schedule(t, p, "S0: (1)\nS1: (0)\nS2: (0)\nS3: (0)\nS4: (0)\n")); e != api.OK || !slices.Equal(parts, []int{0, 1, 2, 3, 4}) {
		t.Errorf("Parts: %v, %d", parts, e)
	}
	if parts, e := search.Parts(api.Program{}, nil, api.Sched{}); e != api.OK || len(parts) != 0 {
		t.Errorf("Parts of nothing: %v, %d", parts, e)
	}
}

// P19.4.
func TestRank(t *testing.T) {
	for _, x := range []struct {
		rows [][]int
		n    int
		e    api.Errno
	}{
		{nil, 0, api.OK}, {[][]int{nil, nil}, 0, api.OK}, {[][]int{{0, 0}}, 0, api.OK}, {[][]int{{1, 0}, {0, 1}, {1, 1}}, 2, api.OK}, {[][]int{{2, 4}, {1, 2}, {-3, -6}}, 1, api.OK}, {[][]int{{8, -8, 3}, {1, 1, 1}, {0, 5, 7}}, 3, api.OK}, {[][]int{{1, 2, 3}, {4, 5, 6}, {7, 8, 8}}, 3, api.OK}, {[][]int{{1, 2, 3}, {2, 3, 4}, {3, 5, 7}}, 2, api.OK}, {[][]int{{0, 1}, {1, 0}}, 2, api.OK}, {[][]int{{0, 0, 1}, {0, 1, 1}, {0, 2, 1}}, 2, api.OK}, {[][]int{{1, 1}, {1, -1}}, 2, api.OK},
		{make([][]int, 13), 0, api.ErrFull}, {make([][]int, 12), 0, api.OK}, {[][]int{{1}, {1, 2}}, 0, api.ErrDim}, {[][]int{{9}, {1, 2}}, 0, api.ErrDim}, {[][]int{make([]int, 13)}, 0, api.ErrFull}, {[][]int{make([]int, 12)}, 0, api.OK}, {[][]int{append(make([]int, 12), 9)}, 0, api.ErrFull}, {[][]int{{9}}, 0, api.ErrRange}, {[][]int{{0, 1}, {-9, 1}}, 0, api.ErrRange}, {[][]int{{math.MinInt}}, 0, api.ErrRange}, {[][]int{{8, -8}}, 1, api.OK},
	} {
		if n, e := search.Rank(x.rows); n != x.n || e != x.e {
			t.Errorf("Rank(%v) = %d, %d", x.rows, n, e)
		}
	}
	// k random rows, and sums of them that stay in the range.
	r := rand.New(rand.NewSource(21))
	for range 200 {
		k := r.Intn(6) + 1
		var rows [][]int
		for i := range k {
			l := make([]int, 12)
			for j := range l {
				l[j] = r.Intn(9) - 4
			}
			for j := range k {
				l[j] = 0
			}
			l[i] = []int{1, -3, 4}[r.Intn(3)]
			rows = append(rows, l)
		}
		for range 12 - k {
			a, b := rows[r.Intn(k)], rows[r.Intn(k)]
			sign := r.Intn(3) - 1
			l := make([]int, 12)
			for j := range l {
				l[j] = a[j] + sign*b[j]
			}
			rows = append(rows, l)
		}
		r.Shuffle(len(rows), func(i, j int) { rows[i], rows[j] = rows[j], rows[i] })
		n, e := search.Rank(rows)
		if e != api.OK || n > k {
			t.Fatalf("Rank(%v) = %d, %d, of %d", rows, n, e, k)
		}
		distinct := 0
		for i := range k {
			if slices.ContainsFunc(rows, func(l []int) bool { return l[i] != 0 }) {
				distinct++
			}
		}
		if n != distinct {
			t.Fatalf("Rank(%v) = %d, want %d", rows, n, distinct)
		}
	}
}

// P19.5, P19.6.
func TestSearch(t *testing.T) {
	for _, x := range []struct {
		text string
		mode int
		want string
		e    api.Errno
	}{
		{grid, 0, "S0: (0 1 0 0) (0 0 1 0)\n", api.OK}, {grid, 1, "S0: (0 1 1 0) (0 1 0 0)\n", api.OK}, {shift, 0, "S0: (0 1 0)\n", api.OK}, {shift, 1, "S0: (0 1 0)\n", api.OK},
		{ahead, 0, "S0: (0 1 0)\nS1: (0 1 2)\n", api.OK}, {ahead, 1, "S0: (0 -1 0)\nS1: (0 -1 0)\n", api.OK},
		// A cut, because no candidate is possible.
		{apart, 0, "S0: (0 0 0) (0 1 0)\nS1: (0 0 1) (0 1 0)\n", api.OK}, {sum, 0, "S0: (0 0) (0 0) (0 0)\nS1: (0 0 0 1) (0 1 0 0) (0 0 1 0)\nS2: (0 2) (0 0) (0 0)\n", api.OK},
		// A last cut, because equal times would be ordered wrongly.
		{"array S; array T; S = 1; T = S;", 0, "S0:\nS1:\n", api.OK}, {"", 0, "", api.OK}, {"param n; array A[n]; for i = 0 to n - 1 { A[i] = 1; }", 0, "S0: (0 1 0)\n", api.OK},
		{three, 0, "S0: (0 1 0 0) (0 0 1 0) (0 0 0 0)\nS1: (0 1 0 0 0) (0 0 1 0 0) (0 0 0 1 0)\n", api.OK},
	} {
		p := parse(t, x.text)
		l := deps(t, p)
		s, e := search.Search(p, l, x.mode)
		if e != x.e {
			t.Errorf("Search of %q, mode %d: %d", x.text, x.mode, e)
			continue
		}
		text, _ := sched.Text(p, s)
		if text != x.want {
			t.Errorf("Search of %q, mode %d: %q, want %q", x.text, x.mode, text, x.want)
		}
	}
}

func TestSearchCuts(t *testing.T) {
	// Dependences against the order of the assignments.
	p := parse(t, "array S; S = 0; S = 1; S = 2;")
	whole := api.Set{Pieces: [][]api.Cond{nil}}
	for _, x := range []struct {
		edges string
		want  string
		e     api.Errno
	}{
		{"", "S0:\nS1:\nS2:\n", api.OK}, {"01 12", "S0:\nS1:\nS2:\n", api.OK}, {"10", "S0: (1)\nS1: (0)\nS2: (2)\n", api.OK}, {"20 21", "S0: (1)\nS1: (2)\nS2: (0)\n", api.OK}, {"01 10", "", api.ErrNone}, {"00", "S0:\nS1:\nS2:\n", api.OK}, {"01 10 12", "", api.ErrNone}, {"01 10 20", "", api.ErrNone},
	} {
		var l []api.Dep
		for _, e := range strings.Fields(x.edges) {
			l = append(l, api.Dep{From: int(e[0] - '0'), To: int(e[1] - '0'), Pairs: whole})
		}
		s, e := search.Search(p, l, 0)
		text, _ := sched.Text(p, s)
		if e != x.e || e == api.OK && text != x.want || e != api.OK && len(s.Rows) != 0 {
			t.Errorf("Search of %s: %q, %d; want %q, %d", x.edges, text, e, x.want, x.e)
		}
	}
	// No candidate, and no cut: a loop whose instances depend on each other both ways.
	q := parse(t, "param n; array A[9]; for i = 0 to n { A[0] = 0; }")
	l := []api.Dep{{Pairs: of(t, "{ n, i, j : i = 0 and j = 1 or i = 1 and j = 0 }")}}
	for mode := range 2 {
		if s, e := search.Search(q, l, mode); e != api.ErrNone || len(s.Rows) != 0 {
			t.Errorf("both ways: %v, %d", s, e)
		}
	}
}

// A last cut orders what three rows leave open; sets that are refused end the search.
func TestLastCut(t *testing.T) {
	p := parse(t, "array S; for a = 0 to 1 { for b = 0 to 1 { for c = 0 to 1 { S = 0; S = 1; S = 2; S = 3; S = 4; S = 5; S = 6; S = 7; } } }")
	// From k to k - 1 with the difference 0 in each loop: 3 rows, then one cut orders all.
	var l []api.Dep
	for k := 7; k > 0; k-- {
		l = append(l, api.Dep{From: k, To: k - 1, Pairs: of(t, "{ a, b, c, x, y, z : a = x and b = y and c = z and a = 0 and b = 0 and c = 0 }")})
	}
	s, e := search.Search(p, l, 0)
	if e != api.OK || len(s.Rows[0]) != 4 || s.Rows[0][3].L.K != 7 || s.Rows[7][3].L.K != 0 {
		t.Errorf("%v, %d", s, e)
	}
	refused := []api.Dep{{From: 0, To: 0, Pairs: of(t, "{ a, b, c, x, y, z : 600 a = 601 b }")}}
	_, e1 := search.Search(p, refused, 0)
	_, _, e2 := search.Try(p, refused, none(t, p), 0, []int{1, 0, 0})
	_, _, e3 := search.Row(p, refused, none(t, p), 0, nil)
	_, e4 := search.Parts(p, refused, none(t, p))
	if got := []api.Errno{e1, e2, e3, e4}; !slices.Equal(got, slices.Repeat([]api.Errno{api.ErrFull}, 4)) {
		t.Errorf("refused: %v", got)
	}
}

func TestErrors(t *testing.T) {
	p := parse(t, grid)
	l := deps(t, p)
	s := none(t, p)
	change := func(f func(d *api.Dep)) []api.Dep {
		d := l[0]
		f(&d)
		return []api.Dep{l[0], d}
	}
	all := func(p api.Program, l []api.Dep, s api.Sched, mode int) []api.Errno {
		_, _, e1 := search.Try(p, l, s, mode, []int{7})
		_, _, e2 := search.Row(p, l, s, mode, [][]int{{7}})
		_, e3 := search.Parts(p, l, s)
		_, e4 := search.Search(p, l, mode)
		return []api.Errno{e1, e2, e3, e4}
	}
	bad := api.Program{Params: []string{"to"}}
	for i, x := range []struct {
		got  []api.Errno
		want []api.Errno
	}{
		{all(bad, change(func(d *api.Dep) { d.From = 9 }), api.Sched{}, 2), []api.Errno{1, 1, 1, 1}}, {all(p, change(func(d *api.Dep) { d.From = 9 }), api.Sched{}, 2), []api.Errno{2, 2, 2, 5}}, {all(p, change(func(d *api.Dep) { d.From = 9 }), s, 2), []api.Errno{5, 5, 5, 5}}, {all(p, change(func(d *api.Dep) { d.Pairs.Dim = -1 }), s, 2), []api.Errno{1, 1, 1, 1}}, {all(p, change(func(d *api.Dep) { d.Pairs = api.Set{Dim: 4} }), s, 2), []api.Errno{2, 2, 2, 2}},
		{all(p, l, s, 2), []api.Errno{6, 6, 0, 6}}, {all(p, l, s, -1), []api.Errno{6, 6, 0, 6}}, {all(p, l, s, math.MaxInt), []api.Errno{6, 6, 0, 6}}, {all(p, l, s, 1), []api.Errno{2, 2, 0, 0}},
	} {
		if !slices.Equal(x.got, x.want) {
			t.Errorf("%d: %v, want %v", i, x.got, x.want)
		}
	}
}

// P19.6, P19.7, P19.8 for dependences of programs.
func TestRows(t *testing.T) {
	for _, text := range []string{shift, grid, ahead, back, sum, three, cycle, step, apart, "param n; array A[n + 9][n + 9]; array B[n + 9]; for i = 0 to n { B[i] = A[i][i]; for j = 0 to i { A[i + 1][j + 2] = A[i][j + 3] + B[j]; } }"} {
		p := parse(t, text)
		l := deps(t, p)
		for mode := range 2 {
			s, e := search.Search(p, l, mode)
			if e != api.OK {
				t.Errorf("Search of %q: %d", text, e)
				continue
			}
			if ok, w, e := legal.Legal(p, l, s); !ok || e != api.OK {
				t.Errorf("Search of %q, mode %d: %v, %v, %d", text, mode, s, w, e)
			}
		}
		checkRow(t, p, l, text)
	}
}

// checkRow follows the rows of a legal schedule without cuts.
func checkRow(t *testing.T, p api.Program, l []api.Dep, text string) {
	t.Helper()
	infos, _ := lang.Assigns(p)
	for mode := range 2 {
		c, shifts, e := search.Row(p, l, none(t, p), mode, nil)
		if e == api.ErrNone {
			continue
		}
		if e != api.OK {
			t.Fatal(e)
		}
		_, cost, _ := search.Try(p, l, none(t, p), mode, c)
		s := none(t, p)
		for k, x := range infos {
			r := api.Row{L: api.Lin{C: make([]int, len(x.Names)), K: shifts[k]}, Div: 1}
			copy(r.L.C[len(p.Params):], c)
			s.Rows[k] = []api.Row{r}
		}
		open := 0
		for _, d := range l {
			b, e := legal.Turned(p, d, s, 0)
			tied, f := legal.Tied(p, d, s, 1)
			if e != api.OK || f != api.OK || len(b.Pieces) > 0 {
				t.Errorf("%q, mode %d: row %v, %v breaks %v", text, mode, c, shifts, d)
			}
			if len(tied.Pieces) > 0 {
				open++
			}
		}
		if mode == 1 && open > cost {
			t.Errorf("%q: %d dependences are open, the cost is %d", text, open, cost)
		}
	}
}
