package lanes_test

import (
	"headland/api"
	"headland/dep"
	"headland/lanes"
	"headland/lang"
	"headland/par"
	"headland/run"
	"headland/scan"
	"headland/search"
	"headland/source"
	"math"
	"math/rand"
	"slices"
	"strings"
	"testing"
)

func parse(t *testing.T, text string) api.Program {
	t.Helper()
	p, e := source.Parse(text)
	if e != api.OK {
		t.Fatalf("Parse(%q): %d", text, e)
	}
	return p
}

func inst(s int, at ...int) api.Inst { return api.Inst{Stmt: s, At: at} }

func sameInst(a, b api.Inst) bool { return a.Stmt == b.Stmt && slices.Equal(a.At, b.At) }

func sameGroup(a, b []api.Inst) bool { return slices.EqualFunc(a, b, sameInst) }

func same(a, b [][]int) bool { return slices.EqualFunc(a, b, slices.Equal[[]int]) }

// of returns the instances of assignment s with the given values of its last loop.
func of(s int, l ...int) (g []api.Inst) {
	for _, i := range l {
		g = append(g, inst(s, i))
	}
	return g
}

// P29.1.
func TestGroups(t *testing.T) {
	type groups = [][]api.Inst
	for _, x := range []struct {
		text  string
		width int
		want  groups
	}{
		{"array A[5]; array B[5]; array C[5]; for i = 0 to 4 vector { A[i] = B[i] + 1; C[i] = A[i]; }", 4, groups{of(0, 0, 1, 2, 3), of(1, 0, 1, 2, 3), of(0, 4), of(1, 4)}}, {"array A[5]; for i = 0 to 4 vector { A[i] = 1; }", 16, groups{of(0, 0, 1, 2, 3, 4)}}, {"array A[5]; for i = 0 to 4 vector { A[i] = 1; }", 5, groups{of(0, 0, 1, 2, 3, 4)}}, {"array A[9]; for i = 1 to 8 step 3 vector { A[i] = 1; }", 2, groups{of(0, 1, 4), of(0, 7)}}, {"array A[5]; for i = 0 to 2 parallel { A[i] = 1; }", 4, groups{of(0, 0), of(0, 1), of(0, 2)}}, {"array S; S = 1; for i = 1 to 0 vector { S = 2; } S = 3;", 4, groups{{inst(0)}, {inst(2)}}},
		// A test: the lanes for which it holds, then the others; a side without lanes is not executed.
		{"array S; for i = 0 to 3 vector { if { i : 2 | i } { S = 1; S = 2; } else { S = 3; } S = 4; }", 4, groups{of(0, 0, 2), of(1, 0, 2), of(2, 1, 3), of(3, 0, 1, 2, 3)}}, {"array S; for i = 0 to 3 vector { if { i : i >= 2 } { S = 1; } else { S = 3; } }", 2, groups{of(1, 0, 1), of(0, 2, 3)}}, {"array S; for i = 0 to 3 vector { if { i : i >= 1 } { if { i : i >= 2 } { S = 1; } else { S = 2; } } }", 4, groups{of(0, 2, 3), of(1, 1)}},
		// A loop: each lane has its own bounds, and its own values.
		{"array S; for i = 0 to 2 vector { for j = i to 2 i { S = 1; } S = 2; }", 4, groups{{inst(0, 0, 0), inst(0, 1, 1), inst(0, 2, 2)}, {inst(0, 1, 2), inst(0, 2, 3)}, {inst(0, 2, 4)}, of(1, 0, 1, 2)}}, {"array S; for i = 0 to 2 vector { for j = 3 - i to 4 step 2 { S = 1; } }", 3, groups{{inst(0, 0, 3), inst(0, 1, 2), inst(0, 2, 1)}, {inst(0, 1, 4), inst(0, 2, 3)}}}, {"array S; for i = 0 to 2 vector { for j = 1 to i { S = 1; } }", 3, groups{{inst(0, 1, 1), inst(0, 2, 1)}, {inst(0, 2, 2)}}},
		// A vector loop in another one is an ordinary loop; one in an ordinary loop is not.
		{"array S; for i = 0 to 1 vector { for j = 0 to 1 vector { S = 1; } }", 4, groups{{inst(0, 0, 0), inst(0, 1, 0)}, {inst(0, 0, 1), inst(0, 1, 1)}}}, {"array S; for i = 0 to 1 { for j = 0 to 2 vector { S = 1; } }", 2, groups{{inst(0, 0, 0), inst(0, 0, 1)}, {inst(0, 0, 2)}, {inst(0, 1, 0), inst(0, 1, 1)}, {inst(0, 1, 2)}}}, {"", 1, nil},
		{"array S; for i = 0 to 3 vector { if { i : i >= 1 } { for j = i to 3 { if { i, j : i + j >= 5 } { S = 1; } else { S = 2; } } } }", 4, groups{{inst(0, 3, 3)}, {inst(1, 1, 1), inst(1, 2, 2)}, {inst(0, 2, 3)}, {inst(1, 1, 2)}, {inst(1, 1, 3)}}},
	} {
		l, e := lanes.Groups(parse(t, x.text), nil, x.width)
		if e != api.OK || !slices.EqualFunc(l, x.want, sameGroup) {
			t.Errorf("Groups of %q, %d: %v, %d; want %v", x.text, x.width, l, e, x.want)
		}
		for _, g := range l {
			for i := range g {
				g[i].At = append(g[i].At, 99)
			}
		}
	}
}

// P29.2.
func TestRun(t *testing.T) {
	for _, x := range []struct {
		text   string
		width  int
		memory [][]int
		want   [][]int
		e      api.Errno
	}{
		{"array A[5]; for i = 0 to 3 vector { A[i] = A[i + 1]; }", 4, [][]int{{1, 2, 3, 4, 5}}, [][]int{{2, 3, 4, 5, 5}}, api.OK}, {"array A[5]; for i = 0 to 3 vector { A[i + 1] = A[i]; }", 4, [][]int{{1, 2, 3, 4, 5}}, [][]int{{1, 1, 2, 3, 4}}, api.OK}, {"array A[5]; for i = 0 to 3 vector { A[i + 1] = A[i]; }", 2, [][]int{{1, 2, 3, 4, 5}}, [][]int{{1, 1, 2, 2, 4}}, api.OK}, {"array A[5]; for i = 0 to 3 vector { A[i + 1] = A[i]; }", 1, [][]int{{1, 2, 3, 4, 5}}, [][]int{{1, 1, 1, 1, 1}}, api.OK},
		// The later lane's value stays.
		{"array S; for i = 0 to 3 vector { S = S + <i>; }", 4, [][]int{{10}}, [][]int{{13}}, api.OK}, {"array S; for i = 0 to 3 vector { S = S + <i>; }", 2, [][]int{{10}}, [][]int{{14}}, api.OK}, {"array S; for i = 0 to 3 { S = S + <i>; }", 4, [][]int{{10}}, [][]int{{16}}, api.OK},
		{"array A[4]; for i = 0 to 4 vector { A[i] = 1; }", 4, [][]int{{1, 2, 3, 4}}, nil, api.ErrRange}, {"array A[4]; for i = 0 to 3 vector { A[i] = A[i - 1]; }", 4, [][]int{{1, 2, 3, 4}}, nil, api.ErrRange}, {"array A[4]; A[4] = 1;", 4, [][]int{{1, 2, 3, 4}}, nil, api.ErrRange},
	} {
		keep := slices.Clone(x.memory[0])
		after, e := lanes.Run(parse(t, x.text), nil, x.memory, x.width)
		if e != x.e || !same(after, x.want) || !slices.Equal(keep, x.memory[0]) {
			t.Errorf("Run of %q, %d: %v, %d", x.text, x.width, after, e)
		}
	}
}

func sameClash(a, b lanes.Clash) bool {
	return sameInst(a.First, b.First) && sameInst(a.Second, b.Second) && a.Array == b.Array && a.Cell == b.Cell
}

// P29.3.
func TestClashes(t *testing.T) {
	c := func(s, i, u, j, array, cell int) lanes.Clash { return lanes.Clash{inst(s, i), inst(u, j), array, cell} }
	type clashes = []lanes.Clash
	for _, x := range []struct {
		text  string
		width int
		want  clashes
	}{
		{"array A[5]; for i = 0 to 3 vector { A[i] = A[i + 1]; }", 4, nil}, {"array A[5]; for i = 0 to 3 vector { A[i + 1] = A[i]; }", 4, clashes{c(0, 0, 0, 1, 0, 1), c(0, 1, 0, 2, 0, 2), c(0, 2, 0, 3, 0, 3)}}, {"array A[5]; for i = 0 to 3 vector { A[i + 1] = A[i]; }", 2, clashes{c(0, 0, 0, 1, 0, 1), c(0, 2, 0, 3, 0, 3)}}, {"array A[5]; for i = 0 to 3 vector { A[i + 1] = A[i]; }", 1, nil}, {"array A[5]; for i = 0 to 3 parallel { A[i + 1] = A[i]; }", 4, nil},
		// In one group: the first one's target, which the second one accesses. Its read of what the second one writes is harmless.
		{"array A[5]; for i = 0 to 1 vector { A[0] = A[i + 1] + A[0]; }", 2, clashes{c(0, 0, 0, 1, 0, 0)}}, {"array A[5]; for i = 0 to 1 vector { A[i] = A[1] + A[2]; }", 2, nil}, {"array A[5]; for i = 0 to 1 vector { A[0] = 1; }", 2, clashes{c(0, 0, 0, 1, 0, 0)}},
		// The second one in an earlier group.
		{"array A[5]; array B[5]; for i = 0 to 1 vector { A[i] = B[i + 1]; B[i] = A[i]; }", 2, nil}, {"array A[5]; array B[5]; for i = 0 to 1 vector { A[i] = 1; B[i] = A[i + 1]; }", 2, clashes{c(1, 0, 0, 1, 0, 1)}}, {"array A[5]; array B[5]; for i = 0 to 1 vector { B[i] = A[i]; A[i + 1] = 1; }", 2, clashes{c(1, 0, 0, 1, 0, 1)}}, {"array A[5]; for i = 0 to 1 vector { A[2 - i] = 1; A[i + 1] = 2; }", 2, clashes{c(1, 0, 0, 1, 0, 1)}}, {"array A[5]; array B[5]; for i = 0 to 1 vector { B[i] = A[0]; B[i + 2] = A[0]; }", 2, nil},
		// The order: by the second instance, the first one, the array and the cell.
		{"array A[5]; array B[5]; for i = 0 to 1 vector { B[i] = A[1] + A[2]; A[1] = B[1]; A[2] = B[0]; }", 2, clashes{c(1, 0, 0, 1, 0, 1), c(1, 0, 0, 1, 1, 1), c(2, 0, 0, 1, 0, 2), c(1, 0, 1, 1, 0, 1), c(2, 0, 2, 1, 0, 2)}},
		// Different executions of a vector loop, and the instances outside, do not conflict.
		{"array S; for i = 0 to 1 { S = 1; for j = 0 to 0 vector { S = S + 1; } }", 4, nil},
	} {
		l, e := lanes.Clashes(parse(t, x.text), nil, x.width)
		if e != api.OK || !slices.EqualFunc(l, x.want, sameClash) {
			t.Errorf("Clashes of %q, %d: %v, %d; want %v", x.text, x.width, l, e, x.want)
		}
	}
	// 16 lanes have 120 pairs: 34 blocks make 4080, and with 6 lanes more 4095; with 7 lanes 4101.
	for text, want := range map[string]int{"array S; for i = 1 to 544 vector { S = 1; }": 4080, "array S; for i = 1 to 550 vector { S = 1; }": 4095, "array S; for i = 1 to 551 vector { S = 1; }": -1, "array S; for i = 1 to 550 vector { S = 1; } for i = 0 to 1 vector { S = 1; }": 4096} {
		l, e := lanes.Clashes(parse(t, text), nil, 16)
		if want >= 0 && (e != api.OK || len(l) != want) || want < 0 && (e != api.ErrFull || len(l) != 0) {
			t.Errorf("Clashes of %q: %d, %d", text, len(l), e)
		}
	}
	for _, text := range []string{"array A[4]; A[0] = A[4];", "array A[4]; for i = 0 to 4 vector { A[i] = 1; }", "array A[4]; for i = 0 to 3 vector { A[i] = A[i] + A[3 - 2 i]; }"} {
		if l, e := lanes.Clashes(parse(t, text), nil, 4); e != api.ErrRange || len(l) != 0 {
			t.Errorf("Clashes of %q: %v, %d", text, l, e)
		}
	}
}

// P29.4.
func TestFilled(t *testing.T) {
	for _, x := range []struct {
		text                 string
		width, groups, lanes int
	}{{"array A[5]; array B[5]; array C[5]; for i = 0 to 4 vector { A[i] = B[i] + 1; C[i] = A[i]; }", 4, 4, 10}, {"array S; S = 1; for i = 0 to 4 { S = 1; }", 4, 0, 0}, {"array S; S = 1; for i = 0 to 2 vector { for j = 0 to i { S = 1; } }", 16, 3, 6}, {"array S; for i = 0 to 3 vector { if { i : i = 1 } { S = 1; } }", 2, 1, 1}} {
		if g, n, e := lanes.Filled(parse(t, x.text), nil, x.width); g != x.groups || n != x.lanes || e != api.OK {
			t.Errorf("Filled of %q, %d: %d, %d, %d", x.text, x.width, g, n, e)
		}
	}
}

func TestErrors(t *testing.T) {
	all := func(p api.Program, params []int, memory [][]int, width int) []api.Errno {
		g, e1 := lanes.Groups(p, params, width)
		m, e2 := lanes.Run(p, params, memory, width)
		c, e3 := lanes.Clashes(p, params, width)
		a, b, e4 := lanes.Filled(p, params, width)
		if e1 != api.OK && len(g)+len(m)+len(c)+a+b != 0 {
			t.Error("a result with an error")
		}
		return []api.Errno{e1, e2, e3, e4}
	}
	p := parse(t, "param n; array A[n]; for i = 0 to n vector { A[0] = 1; }")
	many, long := parse(t, "array S; for i = 0 to 4096 vector { S = 1; }"), parse(t, "array S; for i = 0 to 65536 vector { }")
	far := parse(t, "array S; for i = 4097 to 4097 { for j = 1048576 i to 0 vector { } }")
	one := [][]int{{1}}
	for i, x := range []struct{ got, want []api.Errno }{
		{all(api.Program{Params: []string{"to"}}, nil, nil, 0), []api.Errno{1, 1, 1, 1}}, {all(p, nil, nil, 0), []api.Errno{2, 2, 2, 2}}, {all(p, []int{1001}, nil, 0), []api.Errno{6, 6, 6, 6}}, {all(parse(t, "array A[4097];"), nil, nil, 0), []api.Errno{3, 3, 3, 3}}, {all(p, []int{1}, nil, 0), []api.Errno{6, 1, 6, 6}}, {all(many, nil, nil, 0), []api.Errno{3, 1, 3, 3}}, {all(many, nil, one, 0), []api.Errno{3, 3, 3, 3}}, {all(long, nil, [][]int{{1 << 31}}, 0), []api.Errno{3, 1, 3, 3}}, {all(long, nil, one, 0), []api.Errno{3, 3, 3, 3}}, {all(far, nil, one, 0), []api.Errno{6, 6, 6, 6}}, {all(far, nil, nil, 4), []api.Errno{6, 1, 6, 6}},
	} {
		if !slices.Equal(x.got, x.want) {
			t.Errorf("%d: %v, want %v", i, x.got, x.want)
		}
	}
	for _, w := range []int{0, 17, -1, math.MinInt, math.MaxInt} {
		if got := all(p, []int{1}, one, w); !slices.Equal(got, []api.Errno{6, 6, 6, 6}) {
			t.Errorf("width %d: %v", w, got)
		}
	}
	for w := 1; w <= 16; w++ {
		if got := all(p, []int{1}, one, w); !slices.Equal(got, []api.Errno{0, 0, 0, 0}) {
			t.Errorf("width %d: %v", w, got)
		}
	}
}

// marked returns a random program with random marks, whose cells exist for n up to 4.
func marked(t *testing.T, r *rand.Rand) api.Program {
	t.Helper()
	p := parse(t, []string{
		"param n; array A[n + 9]; array B[n + 9]; for i = 0 to n { A[i] = B[i] + 1; for j = i to n { B[j] = A[i] * <i + j>; } } for i = 0 to n { A[i] = A[i + 1] + B[i]; }",
		"param n; array A[n + 9]; array S; S = 1; for i = 0 to n { if { n, i : 2 | i } { for j = i to n step 2 { A[j] = S + A[i]; } } else { for k = 0 to 2 { A[i] = A[i] * 3 + <k>; } } S = S + A[i]; }",
		"param n; array A[n + 9][n + 9]; for i = 0 to n { for j = 0 to n { A[i][j] = <i - j>; for k = 0 to j { A[i][j] = A[i][j] + A[i][k]; } } }",
	}[r.Intn(3)])
	var mark func(l []api.Stmt)
	mark = func(l []api.Stmt) {
		for i := range l {
			if l[i].Kind == api.For {
				l[i].Mark = r.Intn(3)
			}
			mark(l[i].Body)
			mark(l[i].Else)
		}
	}
	mark(p.Body)
	return p
}

// P29.5, P29.6, P29.7, P29.9.
func TestExecutions(t *testing.T) {
	r := rand.New(rand.NewSource(32))
	clear, clashing := 0, 0
	for range 200 {
		p := marked(t, r)
		params := []int{r.Intn(5)}
		m, _ := run.Fresh(p, params, r.Intn(99))
		insts, _ := run.Insts(p, params)
		want, _, e := run.Run(p, params, m)
		single, e1 := lanes.Run(p, params, m, 1)
		ones, e2 := lanes.Groups(p, params, 1)
		if e+e1+e2 != 0 || !same(single, want) || len(ones) != len(insts) {
			t.Fatalf("one lane: %d, %d, %d", e, e1, e2)
		}
		for i, g := range ones {
			if len(g) != 1 || !sameInst(g[0], insts[i]) {
				t.Fatalf("one lane: %v", g)
			}
		}
		w := r.Intn(16) + 1
		after, e := lanes.Run(p, params, m, w)
		clashes, f := lanes.Clashes(p, params, w)
		if e+f != 0 {
			t.Fatal(e, f)
		}
		if len(clashes) == 0 {
			clear++
			if !same(after, want) {
				t.Fatalf("width %d: %v, want %v", w, after, want)
			}
		} else {
			clashing++
		}
		checkGroups(t, p, params, w, insts)
	}
	if clear < 20 || clashing < 20 {
		t.Errorf("%d clear, %d clashing", clear, clashing)
	}
}

// lane returns the path of the outermost vector loop around an instance, with the values of the loops up to it.
func lane(p api.Program, x api.Inst) (outside []int, value int, in bool) {
	infos, _ := lang.Assigns(p)
	path := infos[x.Stmt].Path
	l, d := p.Body, 0
	for k := 0; k+1 < len(path); k += 2 {
		s := l[path[k]]
		if s.Kind == api.For {
			if s.Mark == api.Vector {
				return append(slices.Clone(path[:k+1]), x.At[:d]...), x.At[d], true
			}
			d++
		}
		l = s.Body
		if path[k+1] == 1 {
			l = s.Else
		}
	}
	return nil, 0, false
}

func checkGroups(t *testing.T, p api.Program, params []int, w int, insts []api.Inst) {
	t.Helper()
	groups, e := lanes.Groups(p, params, w)
	count, filled, f := lanes.Filled(p, params, w)
	if e+f != 0 {
		t.Fatal(e, f)
	}
	var flat []api.Inst
	vectors, inside := 0, 0
	for _, g := range groups {
		flat = append(flat, g...)
		if _, _, in := lane(p, g[0]); in {
			vectors++
			inside += len(g)
		}
	}
	if len(flat) != len(insts) || vectors != count || inside != filled || filled > w*count {
		t.Fatalf("%d instances in %d groups, %d in %d of vector loops; Filled %d, %d", len(flat), len(groups), inside, vectors, filled, count)
	}
	last := -1
	seen := map[string]int{}
	for _, x := range flat {
		i := slices.IndexFunc(insts, func(y api.Inst) bool { return sameInst(x, y) })
		if i < 0 {
			t.Fatalf("%v is not executed", x)
		}
		outside, v, in := lane(p, x)
		if !in {
			if i < last {
				t.Fatalf("%v comes too late", x)
			}
			last = i
			continue
		}
		key := ""
		for _, n := range append(outside, v) {
			key += string(rune(n + 200))
		}
		if before, ok := seen[key]; ok && before > i {
			t.Fatalf("%v comes too late in its lane", x)
		}
		seen[key] = i
	}
}

// P29.3: clashes are found as they are defined.
func TestDefined(t *testing.T) {
	r := rand.New(rand.NewSource(33))
	for range 80 {
		p := marked(t, r)
		params, w := []int{r.Intn(4)}, r.Intn(4)+1
		m, _ := run.Fresh(p, params, 1)
		events, e := run.Trace(p, params, m)
		insts, _ := run.Insts(p, params)
		groups, f := lanes.Groups(p, params, w)
		if e+f != 0 {
			t.Fatal(e, f)
		}
		index := func(x api.Inst) int {
			return slices.IndexFunc(insts, func(y api.Inst) bool { return sameInst(x, y) })
		}
		group := make([]int, len(insts))
		for k, g := range groups {
			for _, x := range g {
				group[index(x)] = k
			}
		}
		found := map[[4]int]bool{}
		for i, x := range events {
			for _, y := range events[i+1:] {
				a, b := index(x.Inst), index(y.Inst)
				if a == b || x.Array != y.Array || x.Cell != y.Cell || !sameBlock(p, params, w, x.Inst, y.Inst) {
					continue
				}
				if group[a] == group[b] && x.Pos == 0 || group[b] < group[a] && (x.Pos == 0 || y.Pos == 0) {
					found[[4]int{b, a, x.Array, x.Cell}] = true
				}
			}
		}
		var want, got [][4]int
		for k := range found {
			want = append(want, k)
		}
		slices.SortFunc(want, func(a, b [4]int) int { return slices.Compare(a[:], b[:]) })
		clashes, e := lanes.Clashes(p, params, w)
		for _, x := range clashes {
			got = append(got, [4]int{index(x.Second), index(x.First), x.Array, x.Cell})
		}
		if e != api.OK || !slices.Equal(got, want) {
			t.Fatalf("width %d: %v, %d; want %v", w, got, e, want)
		}
	}
}

// sameBlock reports whether two instances belong to one block. All vector loops here begin at 0, or at the value of the loop outside.
func sameBlock(p api.Program, params []int, w int, x, y api.Inst) bool {
	a, i, in := lane(p, x)
	b, j, also := lane(p, y)
	if !in || !also || !slices.Equal(a, b) {
		return false
	}
	low, step := 0, 1
	infos, _ := lang.Assigns(p)
	k := 1
	for {
		s, e := lang.At(p, infos[x.Stmt].Path[:k])
		if e == api.OK && s.Kind == api.For && s.Mark == api.Vector {
			l := s.Low.Parts[0][0].L
			low, step = l.K, s.Step
			for v, c := range l.C {
				low += c * append(slices.Clone(params), x.At...)[v]
			}
			break
		}
		k += 2
	}
	return (i-low)/step/w == (j-low)/step/w
}

// P29.8.
func TestSound(t *testing.T) {
	for _, text := range []string{
		"param n; array A[n + 2][n + 2]; for i = 1 to n { for j = 1 to n { A[i][j] = A[i - 1][j] + A[i][j - 1]; } }", "param n; array C[n][n]; array A[n][n]; for i = 0 to n - 1 { for j = 0 to n - 1 { C[i][j] = A[i][j] + A[j][i]; } }", "param n; array A[n + 3]; array B[n + 3]; for i = 0 to n { B[i] = A[i] + A[i + 1]; } for i = 0 to n { A[i] = B[n - i]; }",
	} {
		p := parse(t, text)
		l, e := dep.All(p)
		if e != api.OK {
			t.Fatal(e)
		}
		vectors := 0
		for mode := range 2 {
			s, e := search.Search(p, l, mode)
			if e != api.OK {
				t.Fatal(e)
			}
			free, e := par.Free(p, l, s, nil)
			if e != api.OK {
				t.Fatal(e)
			}
			marks := make([]int, len(free))
			for k, f := range free {
				if f {
					marks[k] = api.Vector
				}
			}
			q, e := scan.Scan(p, s, marks)
			if e != api.OK {
				t.Fatal(e)
			}
			if text, _ := source.Print(q); strings.Contains(text, "vector") {
				vectors++
			}
			for n := range 6 {
				for _, w := range []int{2, 3, 16} {
					if clashes, e := lanes.Clashes(q, []int{n}, w); e != api.OK || len(clashes) != 0 {
						t.Errorf("%q, mode %d, n = %d, width %d: %v, %d", text, mode, n, w, clashes, e)
					}
				}
			}
		}
		if vectors == 0 {
			t.Errorf("%q: no vector loops", text)
		}
	}
}
