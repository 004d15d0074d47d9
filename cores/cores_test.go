package cores_test

import (
	"headland/api"
	"headland/cores"
	"headland/dep"
	"headland/lang"
	"headland/par"
	"headland/run"
	"headland/scan"
	"headland/search"
	"headland/source"
	"math"
	"math/rand"
	"slices"
	"strings"
	"testing"
)

func parse(t *testing.T, text string) api.Program {
	t.Helper()
	p, e := source.Parse(text)
	if e != api.OK {
		t.Fatalf("Parse(%q): %d", text, e)
	}
	return p
}

func inst(s int, at ...int) api.Inst { return api.Inst{Stmt: s, At: at} }

func sameInst(a, b api.Inst) bool { return a.Stmt == b.Stmt && slices.Equal(a.At, b.At) }

func same(a, b [][]int) bool { return slices.EqualFunc(a, b, slices.Equal[[]int]) }

const (
	pairs = "array A[4]; array B[4]; for i = 0 to 3 parallel { A[i] = 1; B[i] = A[i]; }"
	mixed = "param n; array A[n + 9]; array S; S = 1; for j = 0 to n { A[0] = S; for i = j to n parallel { A[i] = 2; for k = 0 to i parallel { A[k + 1] = 3; } } S = 4; for i = 1 to 0 parallel { S = 5; } }"
)

// P28.1.
func TestOrder(t *testing.T) {
	p := parse(t, pairs)
	s0, s1 := func(i int) api.Inst { return inst(0, i) }, func(i int) api.Inst { return inst(1, i) }
	for _, x := range []struct {
		cores   int
		choices []int
		want    []api.Inst
	}{
		{2, []int{0, 1}, []api.Inst{s0(0), s0(1), s1(0), s1(1), s0(2), s0(3), s1(2), s1(3)}}, {2, nil, []api.Inst{s0(0), s1(0), s0(2), s1(2), s0(1), s1(1), s0(3), s1(3)}}, {2, []int{1}, []api.Inst{s0(1), s1(1), s0(3), s1(3), s0(0), s1(0), s0(2), s1(2)}}, {2, []int{0, 0, 1}, []api.Inst{s0(0), s1(0), s0(1), s0(2), s1(2), s1(1), s0(3), s1(3)}}, {1, []int{5, -9, 3}, []api.Inst{s0(0), s1(0), s0(1), s1(1), s0(2), s1(2), s0(3), s1(3)}}, {3, []int{2, 1, 0}, []api.Inst{s0(2), s0(1), s0(0), s1(2), s1(1), s1(0), s0(3), s1(3)}}, {16, []int{3}, []api.Inst{s0(3), s1(3), s0(0), s1(0), s0(2), s1(2), s0(1), s1(1)}},
		// Choices are taken modulo the number of cores that are left, also if they are negative.
		{4, []int{-1}, []api.Inst{s0(3), s1(3), s0(2), s1(2), s0(1), s1(1), s0(0), s1(0)}}, {4, []int{7, math.MinInt}, []api.Inst{s0(3), s0(0), s1(3), s0(1), s1(1), s1(0), s0(2), s1(2)}}, {2, []int{math.MaxInt, 0}, []api.Inst{s0(1), s0(0), s1(1), s1(0), s0(3), s0(2), s1(3), s1(2)}},
	} {
		l, e := cores.Order(p, nil, x.cores, x.choices)
		if e != api.OK || !slices.EqualFunc(l, x.want, sameInst) {
			t.Errorf("Order on %d, %v: %v, %d; want %v", x.cores, x.choices, l, e, x.want)
		}
	}
	// The choices go on through all gangs, and only instances of gangs use them.
	q := parse(t, "array A[9]; for i = 0 to 1 parallel { A[i] = 1; } A[5] = 2; for i = 0 to 1 { for j = 0 to 2 parallel { A[j] = 3; } } ")
	l, e := cores.Order(q, nil, 3, []int{1, 0, 0, 1, 2})
	want := []api.Inst{inst(0, 1), inst(0, 0), inst(1), inst(2, 0, 0), inst(2, 0, 2), inst(2, 0, 1), inst(2, 1, 1), inst(2, 1, 0), inst(2, 1, 2)}
	if e != api.OK || !slices.EqualFunc(l, want, sameInst) {
		t.Errorf("Order: %v, %d; want %v", l, e, want)
	}
	l[0].At[0] = 77
	l[0].At = append(l[0].At, 78)
	if l[1].At[0] != 0 {
		t.Error("shared memory")
	}
}

// P28.4, P28.5.
func TestGangsSpan(t *testing.T) {
	for _, x := range []struct {
		text   string
		params []int
		gangs  []int
		spans  map[int]int
	}{
		{pairs, nil, []int{4}, map[int]int{1: 8, 2: 4, 3: 4, 4: 2, 16: 2}}, {"array S; S = 1; S = 2;", nil, nil, map[int]int{1: 2, 16: 2}}, {"", nil, nil, map[int]int{1: 0}},
		{mixed, []int{2}, []int{3, 0, 2, 0, 1, 0}, map[int]int{1: 1 + 6 + 9 + 7 + 4, 2: 1 + 6 + 6 + 4 + 4, 3: 1 + 6 + 4 + 4 + 4}},
		{"array S; for i = 0 to 3 parallel { if { i : 2 | i } { S = 1; } }", nil, []int{4}, map[int]int{1: 2, 2: 2, 3: 1}}, {"array S; for i = 0 to 2 vector { for j = 0 to 4 step 2 parallel { S = 1; } }", nil, []int{3, 3, 3}, map[int]int{1: 9, 2: 6, 3: 3}},
	} {
		p := parse(t, x.text)
		g, e := cores.Gangs(p, x.params)
		if e != api.OK || !slices.Equal(g, x.gangs) {
			t.Errorf("Gangs of %q: %v, %d", x.text, g, e)
		}
		for c, want := range x.spans {
			if n, e := cores.Span(p, x.params, c); e != api.OK || n != want {
				t.Errorf("Span of %q on %d: %d, %d; want %d", x.text, c, n, e, want)
			}
		}
	}
}

// P28.2.
func TestRun(t *testing.T) {
	p := parse(t, "array A[4]; for i = 1 to 3 parallel { A[i] = A[i - 1] + 1; }")
	for _, x := range []struct {
		cores   int
		choices []int
		want    []int
	}{{1, nil, []int{5, 6, 7, 8}}, {3, []int{2, 1, 0}, []int{5, 6, 1, 1}}, {3, []int{0}, []int{5, 6, 7, 8}}, {2, []int{1}, []int{5, 6, 1, 2}}} {
		m := [][]int{{5, 0, 0, 0}}
		after, e := cores.Run(p, nil, m, x.cores, x.choices)
		if e != api.OK || !slices.Equal(after[0], x.want) || m[0][1] != 0 {
			t.Errorf("Run on %d, %v: %v, %d", x.cores, x.choices, after, e)
		}
	}
	// An access outside an array, which a schedule may not avoid.
	q := parse(t, "array A[4]; for i = 0 to 3 parallel { A[i + 1] = A[i]; }")
	if after, e := cores.Run(q, nil, [][]int{{1, 2, 3, 4}}, 2, nil); e != api.ErrRange || len(after) != 0 {
		t.Errorf("%v, %d", after, e)
	}
	if l, e := cores.Order(q, nil, 2, nil); e != api.OK || len(l) != 4 {
		t.Errorf("%v, %d", l, e)
	}
	for _, text := range []string{"array A[4]; A[0] = A[-1];", "array A[4]; A[4] = 1;"} {
		if after, e := cores.Run(parse(t, text), nil, [][]int{{1, 2, 3, 4}}, 2, nil); e != api.ErrRange || len(after) != 0 {
			t.Errorf("%q: %v, %d", text, after, e)
		}
	}
}

func sameRace(a, b cores.Race) bool {
	return sameInst(a.First, b.First) && sameInst(a.Second, b.Second) && a.Array == b.Array && a.Cell == b.Cell
}

// P28.3.
func TestRaces(t *testing.T) {
	for _, x := range []struct {
		text string
		want []cores.Race
	}{
		{pairs, nil}, {"array A[3]; for i = 1 to 2 parallel { A[i] = A[i - 1]; }", []cores.Race{{inst(0, 1), inst(0, 2), 0, 1}}}, {"array A[3]; for i = 1 to 2 { A[i] = A[i - 1]; }", nil}, {"array A[3]; for i = 1 to 2 vector { A[i] = A[i - 1]; }", nil},
		// Reads do not race; an instance that reads and writes a cell counts once.
		{"array A[3]; array S; for i = 0 to 2 parallel { A[i] = S + S; }", nil}, {"array S; for i = 0 to 2 parallel { S = S + 1; }", []cores.Race{{inst(0, 0), inst(0, 1), 0, 0}, {inst(0, 0), inst(0, 2), 0, 0}, {inst(0, 1), inst(0, 2), 0, 0}}},
		// Instances of one thread do not race, nor those of different gangs, nor single ones.
		{"array S; for j = 0 to 1 { for i = 0 to 0 parallel { S = S + 1; S = 2; } S = 3; }", nil}, {"array A[2]; for i = 0 to 1 parallel { for k = 0 to 2 { A[i] = A[i] + 1; } }", nil},
		// A nested shared loop belongs to the thread of the outer one.
		{"array A[2]; for i = 0 to 1 parallel { for k = 0 to 2 parallel { A[i] = <k>; } }", nil},
		// The order: by the second instance, the first one, the array, the cell.
		{"array A[3]; array B[3]; for i = 0 to 1 parallel { A[0] = B[1] + A[1]; B[i] = A[i]; A[1] = B[0]; }", []cores.Race{
			{inst(0, 0), inst(0, 1), 0, 0}, {inst(1, 0), inst(0, 1), 0, 0}, {inst(2, 0), inst(0, 1), 0, 1}, {inst(0, 0), inst(1, 1), 1, 1}, {inst(2, 0), inst(1, 1), 0, 1}, {inst(0, 0), inst(2, 1), 0, 1}, {inst(1, 0), inst(2, 1), 1, 0}, {inst(2, 0), inst(2, 1), 0, 1},
		}},
		{"array A[2]; array B[2]; array S; for i = 0 to 1 parallel { B[1] = A[1] + B[0] + A[0] + S; }", []cores.Race{{inst(0, 0), inst(0, 1), 1, 1}}},
		{"array A[4]; for i = 0 to 3 step 3 parallel { for j = 0 to 1 { A[j] = A[j + 2]; } }", []cores.Race{{inst(0, 0, 0), inst(0, 3, 0), 0, 0}, {inst(0, 0, 1), inst(0, 3, 1), 0, 1}}},
	} {
		l, e := cores.Races(parse(t, x.text), nil)
		if e != api.OK || !slices.EqualFunc(l, x.want, sameRace) {
			t.Errorf("Races of %q: %v, %d; want %v", x.text, l, e, x.want)
		}
	}
	// 91 * 90 / 2 = 4095 races, and 92 * 91 / 2 = 4186.
	for text, want := range map[string]int{"array S; for i = 1 to 91 parallel { S = 1; }": 4095, "array S; for i = 1 to 92 parallel { S = 1; }": -1, "array S; array T; for i = 1 to 64 parallel { S = 1; T = 2; } for i = 0 to 8 parallel { S = 1; } for i = 0 to 7 parallel { S = 2; }": 4096, "array S; array T; for i = 1 to 64 parallel { S = 1; T = 2; } for i = 0 to 8 parallel { S = 1; } for i = 0 to 7 parallel { S = 2; } for i = 0 to 1 parallel { S = 3; }": -1} {
		l, e := cores.Races(parse(t, text), nil)
		if want >= 0 && (e != api.OK || len(l) != want) || want < 0 && (e != api.ErrFull || len(l) != 0) {
			t.Errorf("Races of %q: %d, %d", text, len(l), e)
		}
	}
	for _, text := range []string{"array A[4]; A[0] = A[4];", "array A[4]; A[-1] = 1;", "array A[4]; for i = 0 to 9 parallel { A[i] = 1; }", "array S; array A[4]; for i = 1 to 99 parallel { S = 1; } A[4] = 1;"} {
		if l, e := cores.Races(parse(t, text), nil); e != api.ErrRange || len(l) != 0 {
			t.Errorf("Races of %q: %v, %d", text, l, e)
		}
	}
	if l, e := cores.Races(parse(t, "array A[2]; for i = 0 to 9 parallel { if { i : i >= 8 } { A[i - 8] = 1; } }"), nil); e != api.OK || len(l) != 0 {
		t.Errorf("%v, %d", l, e)
	}
}

func TestErrors(t *testing.T) {
	all := func(p api.Program, params []int, memory [][]int, n int) []api.Errno {
		l, e1 := cores.Order(p, params, n, nil)
		m, e2 := cores.Run(p, params, memory, n, nil)
		r, e3 := cores.Races(p, params)
		g, e4 := cores.Gangs(p, params)
		s, e5 := cores.Span(p, params, n)
		if e5 != api.OK && len(l)+len(m)+s != 0 || e4 != api.OK && len(r)+len(g) != 0 {
			t.Error("a result with an error")
		}
		return []api.Errno{e1, e2, e3, e4, e5}
	}
	p := parse(t, "param n; array A[n]; for i = 0 to n parallel { A[0] = 1; }")
	many := parse(t, "array S; for i = 0 to 4096 parallel { S = 1; }")
	long := parse(t, "array S; for i = 0 to 65536 parallel { }")
	far := parse(t, "array S; for i = 4097 to 4097 { for j = 1048576 i to 0 parallel { } }")
	one := [][]int{{1}}
	for i, x := range []struct{ got, want []api.Errno }{
		{all(api.Program{Params: []string{"to"}}, nil, nil, 0), []api.Errno{1, 1, 1, 1, 1}}, {all(p, nil, nil, 0), []api.Errno{2, 2, 2, 2, 2}}, {all(p, []int{1001}, nil, 0), []api.Errno{6, 6, 6, 6, 6}}, {all(p, []int{-1}, nil, 0), []api.Errno{6, 6, 6, 6, 6}}, {all(parse(t, "array A[4097];"), nil, nil, 0), []api.Errno{3, 3, 3, 3, 3}},
		{all(p, []int{1}, nil, 0), []api.Errno{6, 1, 0, 0, 6}}, {all(many, nil, nil, 0), []api.Errno{3, 1, 3, 3, 3}}, {all(many, nil, one, 0), []api.Errno{3, 3, 3, 3, 3}}, {all(long, nil, [][]int{{1 << 31}}, 0), []api.Errno{3, 1, 3, 3, 3}}, {all(long, nil, one, 0), []api.Errno{3, 3, 3, 3, 3}}, {all(far, nil, one, 0), []api.Errno{6, 6, 6, 6, 6}}, {all(far, nil, [][]int{{1, 2}}, 0), []api.Errno{6, 1, 6, 6, 6}},
	} {
		if !slices.Equal(x.got, x.want) {
			t.Errorf("%d: %v, want %v", i, x.got, x.want)
		}
	}
	q := parse(t, pairs)
	m, _ := run.Fresh(q, nil, 1)
	for _, n := range []int{0, 17, -1, math.MinInt, math.MaxInt} {
		if got := all(q, nil, m, n); !slices.Equal(got, []api.Errno{6, 6, 0, 0, 6}) {
			t.Errorf("%d cores: %v", n, got)
		}
	}
	// The number of cores is checked before an access.
	out := parse(t, "array A[1]; A[1] = 1;")
	if _, e := cores.Run(out, nil, one, 99, nil); e != api.ErrRange {
		t.Errorf("%d", e)
	}
	// 65536 gangs without instances.
	if g, e := cores.Gangs(parse(t, "array S; for i = 1 to 65536 { for j = 1 to 0 parallel { } }"), nil); e != api.OK || len(g) != 65536 {
		t.Errorf("%d gangs, %d", len(g), e)
	}
	if l, e := cores.Order(parse(t, "array S; for i = 1 to 4096 parallel { S = 1; }"), nil, 16, []int{5, 3}); e != api.OK || len(l) != 4096 {
		t.Errorf("%d instances, %d", len(l), e)
	}
}

// programs are some with cells that exist for n up to 4, and marks at random.
func programs(t *testing.T, r *rand.Rand) api.Program {
	t.Helper()
	p := parse(t, []string{
		"param n; array A[n + 9]; array B[n + 9]; for i = 0 to n { A[i] = B[i] + 1; for j = 0 to n { B[j] = A[i] * <i + j>; } } for i = 0 to n { A[i + 1] = A[i] + B[i]; }",
		"param n; array A[n + 9]; array S; S = 1; for i = 0 to n { if { n, i : 2 | i } { for j = i to n step 2 { A[j] = S + A[i]; } } else { for k = 0 to 2 { A[i] = A[i] * 3 + <k>; } } S = S + A[i]; }",
		"param n; array A[n + 9][n + 9]; for i = 0 to n { for j = 0 to n { A[i][j] = <i - j>; for k = 0 to j { A[i][j] = A[i][j] + A[i][k]; } } }",
	}[r.Intn(3)])
	var mark func(l []api.Stmt)
	mark = func(l []api.Stmt) {
		for i := range l {
			if l[i].Kind == api.For {
				l[i].Mark = r.Intn(3)
			}
			mark(l[i].Body)
			mark(l[i].Else)
		}
	}
	mark(p.Body)
	return p
}

// P28.6, P28.7, P28.8, P28.10.
func TestExecutions(t *testing.T) {
	r := rand.New(rand.NewSource(30))
	free, racing := 0, 0
	for range 200 {
		p := programs(t, r)
		params := []int{r.Intn(5)}
		m, _ := run.Fresh(p, params, r.Intn(99))
		insts, e := run.Insts(p, params)
		want, _, f := run.Run(p, params, m)
		races, g := cores.Races(p, params)
		if e+f+g != 0 {
			t.Fatal(e, f, g)
		}
		one, e := cores.Order(p, params, 1, []int{3})
		alone, f := cores.Run(p, params, m, 1, []int{3})
		if e+f != 0 || !slices.EqualFunc(one, insts, sameInst) || !same(alone, want) {
			t.Fatalf("one core: %d, %d", e, f)
		}
		n := r.Intn(16) + 1
		var choices []int
		for range r.Intn(9) {
			choices = append(choices, r.Intn(99)-49)
		}
		order, e := cores.Order(p, params, n, choices)
		after, f := cores.Run(p, params, m, n, choices)
		if e+f != 0 {
			t.Fatal(e, f)
		}
		if len(races) == 0 {
			free++
			if !same(after, want) {
				t.Fatalf("%d cores: %v, want %v", n, after, want)
			}
		} else {
			racing++
		}
		checkOrder(t, p, params, insts, order)
		span, e := cores.Span(p, params, n)
		if e != api.OK || span > len(insts) || span < (len(insts)+n-1)/n {
			t.Fatalf("the span of %d instances on %d cores is %d", len(insts), n, span)
		}
	}
	if free < 20 || racing < 20 {
		t.Errorf("%d free, %d racing", free, racing)
	}
}

// home returns the values of the loops up to the first one that is marked Parallel, and with its own one: the gang and the thread. The gang alone is nil for single instances.
func home(p api.Program, x api.Inst) (gang, thread []int) {
	infos, _ := lang.Assigns(p)
	path := infos[x.Stmt].Path
	l, d := p.Body, 0
	for k := 0; k+1 < len(path); k += 2 {
		s := l[path[k]]
		if s.Kind == api.For {
			if s.Mark == api.Parallel {
				gang = append(slices.Clone(path[:k+1]), x.At[:d]...)
				return gang, append(slices.Clone(gang), x.At[d])
			}
			d++
		}
		l = s.Body
		if path[k+1] == 1 {
			l = s.Else
		}
	}
	return nil, nil
}

// checkOrder checks that only instances of different threads of one gang have changed their order.
func checkOrder(t *testing.T, p api.Program, params []int, insts, order []api.Inst) {
	t.Helper()
	if len(insts) != len(order) {
		t.Fatalf("%d instances, not %d", len(order), len(insts))
	}
	at := make([]int, len(insts))
	used := make([]bool, len(insts))
	for i, x := range insts {
		at[i] = slices.IndexFunc(order, func(y api.Inst) bool { return sameInst(x, y) })
		if at[i] < 0 || used[at[i]] {
			t.Fatalf("%v is not executed once", x)
		}
		used[at[i]] = true
	}
	for i, x := range insts {
		g, a := home(p, x)
		for j := i + 1; j < len(insts); j++ {
			h, b := home(p, insts[j])
			if at[i] > at[j] && (g == nil || !slices.Equal(g, h) || slices.Equal(a, b)) {
				t.Fatalf("%v comes after %v", x, insts[j])
			}
		}
	}
}

// P28.3: races are found as they are defined.
func TestRacesDefined(t *testing.T) {
	r := rand.New(rand.NewSource(31))
	for range 60 {
		p := programs(t, r)
		params := []int{r.Intn(4)}
		m, _ := run.Fresh(p, params, 1)
		events, e := run.Trace(p, params, m)
		insts, _ := run.Insts(p, params)
		if e != api.OK {
			t.Fatal(e)
		}
		index := func(x api.Inst) int {
			return slices.IndexFunc(insts, func(y api.Inst) bool { return sameInst(x, y) })
		}
		found := map[[4]int]bool{}
		for i, x := range events {
			g, a := home(p, x.Inst)
			for _, y := range events[i+1:] {
				h, b := home(p, y.Inst)
				if g != nil && slices.Equal(g, h) && !slices.Equal(a, b) && x.Array == y.Array && x.Cell == y.Cell && (x.Pos == 0 || y.Pos == 0) {
					found[[4]int{index(y.Inst), index(x.Inst), x.Array, x.Cell}] = true
				}
			}
		}
		var want [][4]int
		for k := range found {
			want = append(want, k)
		}
		slices.SortFunc(want, func(a, b [4]int) int { return slices.Compare(a[:], b[:]) })
		races, e := cores.Races(p, params)
		var got [][4]int
		for _, x := range races {
			got = append(got, [4]int{index(x.Second), index(x.First), x.Array, x.Cell})
		}
		if e != api.OK || !slices.Equal(got, want) {
			t.Fatalf("%v, %d; want %v", got, e, want)
		}
	}
}

// P28.9.
func TestSound(t *testing.T) {
	for _, text := range []string{
		"param n; array A[n + 2][n + 2]; for i = 1 to n { for j = 1 to n { A[i][j] = A[i - 1][j] + A[i][j - 1]; } }", "param n; array C[n][n]; array A[n][n]; for i = 0 to n - 1 { for j = 0 to n - 1 { C[i][j] = 0; for k = 0 to n - 1 { C[i][j] = C[i][j] + A[i][k] * A[k][j]; } } }", "param n; array A[n + 3]; array B[n + 3]; for i = 0 to n { B[i] = A[i] + A[i + 1]; } for i = 0 to n { A[i] = B[n - i]; }",
	} {
		p := parse(t, text)
		l, e := dep.All(p)
		if e != api.OK {
			t.Fatal(e)
		}
		for mode := range 2 {
			s, e := search.Search(p, l, mode)
			if e != api.OK {
				t.Fatal(e)
			}
			marks, e := par.Choose(p, l, s, nil)
			if e != api.OK {
				t.Fatal(e)
			}
			q, e := scan.Scan(p, s, marks)
			if e != api.OK {
				t.Fatal(e)
			}
			if text, _ := source.Print(q); slices.Contains(marks, api.Parallel) != strings.Contains(text, "parallel") {
				t.Errorf("%v: %s", marks, text)
			}
			for n := range 6 {
				if races, e := cores.Races(q, []int{n}); e != api.OK || len(races) != 0 {
					t.Errorf("%q, mode %d, n = %d: %v, %d", text, mode, n, races, e)
				}
			}
		}
	}
}
