package run_test

import (
	"headland/api"
	"headland/run"
	"headland/source"
	"math"
	"math/rand"
	"slices"
	"strconv"
	"strings"
	"testing"
)

func parse(t *testing.T, text string) api.Program {
	t.Helper()
	p, e := source.Parse(text)
	if e != api.OK {
		t.Fatalf("Parse(%q): %d", text, e)
	}
	return p
}

func same(a, b [][]int) bool { return slices.EqualFunc(a, b, slices.Equal[[]int]) }

// head is the part of all errors: what the program, the parameters and the sizes cause.
func TestHeads(t *testing.T) {
	square := "param n; param m; array A[n][m]; array S; array B[m - 3][4096][n];"
	for _, x := range []struct {
		text   string
		params []int
		e      api.Errno
	}{
		{square, []int{5, 2}, api.OK}, {square, []int{0, 0}, api.OK}, {square, []int{1000, 4}, api.ErrFull}, {square, []int{1, 4}, api.ErrFull}, {square, []int{0, 4}, api.OK}, {square, nil, api.ErrDim}, {square, []int{1}, api.ErrDim}, {square, []int{1, 2, 3}, api.ErrDim}, {square, []int{1, -1}, api.ErrRange}, {square, []int{1001, 1}, api.ErrRange}, {square, []int{-1}, api.ErrDim}, {square, []int{math.MinInt, math.MaxInt}, api.ErrRange},
		{"array A[4096];", nil, api.OK}, {"array A[4096]; array S;", nil, api.ErrFull}, {"array A[4097];", nil, api.ErrFull}, {"array A[0][4097];", nil, api.ErrFull}, {"array A[4097][0];", nil, api.ErrFull}, {"array A[64][64];", nil, api.OK}, {"array A[64][65];", nil, api.ErrFull}, {"array A[-5][4096][4096];", nil, api.OK}, {"array A[4096][4096][4096];", nil, api.ErrFull}, {"array A[2048]; array B[2048];", nil, api.OK}, {"array A[2048]; array B[2049];", nil, api.ErrFull}, {"array A[-5][-5];", nil, api.OK}, {"param n; array A[1048576 n];", []int{1000}, api.ErrFull}, {"", nil, api.OK}, {"", []int{1}, api.ErrDim},
	} {
		p := parse(t, x.text)
		m, e := run.Fresh(p, x.params, 1)
		_, e1 := run.Insts(p, x.params)
		if e != x.e || e1 != x.e || e != api.OK && len(m) != 0 {
			t.Errorf("%q with %v: %d, %d, want %d", x.text, x.params, e, e1, x.e)
		}
		after, steps, e2 := run.Run(p, x.params, m)
		l, e3 := run.Trace(p, x.params, m)
		if e2 != x.e || e3 != x.e || steps != 0 || !same(after, m) || len(l) != 0 {
			t.Errorf("%q with %v: %d, %d, want %d", x.text, x.params, e2, e3, x.e)
		}
	}
	for _, p := range []api.Program{{Params: []string{"to"}}, {Body: []api.Stmt{{}}}} {
		_, e := run.Fresh(p, []int{1, 2, 3}, 0)
		_, _, f := run.Run(p, []int{1, 2, 3}, nil)
		_, g := run.Trace(p, []int{1, 2, 3}, nil)
		_, h := run.Insts(p, []int{1, 2, 3})
		if e != api.ErrArg || f != api.ErrArg || g != api.ErrArg || h != api.ErrArg {
			t.Errorf("%v: %d, %d, %d, %d", p, e, f, g, h)
		}
	}
}

// P12.1.
func TestFresh(t *testing.T) {
	p := parse(t, "param n; array A[n][2]; array S; array B[n - 9]; array C[3];")
	for _, seed := range []int{0, 1, -1, 1000002, 1000003, 1000004, -1000003, math.MaxInt, math.MinInt} {
		m, e := run.Fresh(p, []int{5}, seed)
		base := (seed%1000003 + 1000003) % 1000003
		if e != api.OK || len(m) != 4 || len(m[0]) != 10 || len(m[1]) != 1 || len(m[2]) != 0 || len(m[3]) != 3 {
			t.Fatalf("Fresh(%d): %v, %d", seed, m, e)
		}
		for a := range m {
			for k, v := range m[a] {
				if v != (base+7919*a+104729*k)%2001-1000 {
					t.Errorf("seed %d: cell %d of %d is %d", seed, k, a, v)
				}
			}
		}
	}
}

// P12.2.
func TestRun(t *testing.T) {
	for _, x := range []struct {
		text   string
		params []int
		memory [][]int
		after  [][]int
		steps  int
		e      api.Errno
	}{
		{"param n; array A[n + 1]; for i = 0 to n - 1 { A[i] = A[i + 1] + 1; }", []int{2}, [][]int{{5, 6, 7}}, [][]int{{7, 8, 7}}, 4, api.OK},
		{"param n; array A[n]; for i = 0 to n - 1 { A[i] = A[i + 1] + 1; }", []int{2}, [][]int{{5, 6}}, nil, 0, api.ErrRange},
		{"array S; S = 7;", nil, [][]int{{0}}, [][]int{{7}}, 1, api.OK},
		// Operators, and wrapped values.
		{"array A[9]; A[0] = A[1] + A[2]; A[3] = A[1] - A[2]; A[4] = A[1] * A[2]; A[5] = min(A[1], A[2]); A[6] = max(A[1], A[2]);", nil, [][]int{{0, 7, -3, 0, 0, 0, 0, 0, 0}}, [][]int{{4, 7, -3, 10, -21, -3, 7, 0, 0}}, 5, api.OK},
		{"array A[6]; A[0] = A[4] + 1; A[1] = A[5] - 1; A[2] = A[4] * A[4]; A[3] = A[5] * A[5];", nil, [][]int{{0, 0, 0, 0, 1<<31 - 1, -1 << 31}}, [][]int{{-1 << 31, 1<<31 - 1, 1, 0, 1<<31 - 1, -1 << 31}}, 4, api.OK},
		{"array A[3]; A[0] = min(A[2], A[1]); A[1] = max(A[1], A[2]) - min(0, -2147483648);", nil, [][]int{{0, 1<<31 - 1, -1 << 31}}, [][]int{{-1 << 31, -1, -1 << 31}}, 2, api.OK},
		{"param n; array S; for i = 0 to 4096 { for j = 1048576 i to 1048576 i { S = <j + 2 n - 1>; } }", []int{3}, [][]int{{0}}, [][]int{{5}}, 4097 * 3, api.OK},
		{"array S; for j = 4096 to 4096 { for k = 1048575 j to 1048575 j { S = <k + 1>; } }", nil, [][]int{{0}}, [][]int{{-4095}}, 3, api.OK},
		// Loops.
		{"array S; for i = 3 to 2 { S = 1; }", nil, [][]int{{0}}, [][]int{{0}}, 0, api.OK},
		{"array S; for i = -3 to 3 step 2 { S = S * 10 + <i + 5>; }", nil, [][]int{{0}}, [][]int{{2468}}, 8, api.OK},
		{"array S; for i = 0 to 7 step 3 { S = S * 10 + <i>; } for i = 0 to 6 step 3 { S = S * 10 + <i>; }", nil, [][]int{{0}}, [][]int{{36036}}, 12, api.OK},
		{"array S; for i = min(max(2, ceil(9, 2)), 7) to max(1, min(8, floor(15, 2))) { S = S * 10 + <i>; }", nil, [][]int{{0}}, [][]int{{567}}, 6, api.OK},
		{"array S; for i = ceil(-9, 2) to floor(-3, 2) { S = S * 10 - <i>; }", nil, [][]int{{0}}, [][]int{{432}}, 6, api.OK},
		{"array S; for i = ceil(-9, 9) to floor(3, 4) { S = S * 10 - <i>; }", nil, [][]int{{0}}, [][]int{{10}}, 4, api.OK},
		{"array S; for i = min(5, max(1, 3)) to max(min(9, 4), 2) { S = S * 10 + <i>; } for i = 0 to 3 { for j = i to 3 - i { S = S + 1000; } }", nil, [][]int{{0}}, [][]int{{34 + 6000}}, 4 + 4 + 12, api.OK},
		{"array A[3]; for i = 0 to 2 { for j = 0 to i { A[i] = A[i] + <10 i + j>; } }", nil, [][]int{{0, 0, 0}}, [][]int{{0, 21, 63}}, 3 + 12, api.OK},
		// The bounds are evaluated at the beginning.
		{"array S; for i = 0 to 2 { for j = i to i { S = S + 1; } }", nil, [][]int{{0}}, [][]int{{3}}, 9, api.OK},
		// Tests.
		{"param n; array A[n]; for i = 0 to n - 1 { if { n, i : 2 | i and i > 1 or i = 3 } { A[i] = 1; } else { A[i] = 2; A[i] = A[i] * 2; } }", []int{6}, [][]int{{0, 0, 0, 0, 0, 0}}, [][]int{{4, 4, 1, 1, 1, 4}}, 6 + 3 + 6, api.OK},
		{"array S; if { : false } { S = 1; } if { : true } { S = S + 2; } else { S = 9; } if { : 3 | 4 } { S = 9; } if { : 3 | -6 } { S = S + 3; } if { : 1 = 0 } { S = 9; } if { : -1 >= 0 } { S = 9; }", nil, [][]int{{0}}, [][]int{{5}}, 2, api.OK},
		// Row-major order, and the subscripts' ranges.
		{"array A[2][3][2]; A[1][2][0] = 1; A[0][2][1] = 2; A[1][0][1] = 3;", nil, [][]int{make([]int, 12)}, [][]int{{0, 0, 0, 0, 0, 2, 0, 3, 0, 0, 1, 0}}, 3, api.OK},
		{"array A[2][3]; A[0][3] = 1;", nil, [][]int{make([]int, 6)}, nil, 0, api.ErrRange}, {"array A[2][3]; A[1][-1] = 1;", nil, [][]int{make([]int, 6)}, nil, 0, api.ErrRange}, {"array A[2][3]; A[2][0] = 1;", nil, [][]int{make([]int, 6)}, nil, 0, api.ErrRange}, {"array A[2][3]; A[1][2] = A[-1][0];", nil, [][]int{make([]int, 6)}, nil, 0, api.ErrRange}, {"array A[0]; A[0] = 1;", nil, [][]int{nil}, nil, 0, api.ErrRange}, {"array A[-1][-1]; A[0][0] = 1;", nil, [][]int{nil}, nil, 0, api.ErrRange}, {"array A[1]; if { : false } { A[1] = 1; }", nil, [][]int{{3}}, [][]int{{3}}, 0, api.OK},
	} {
		keep := make([][]int, len(x.memory))
		for i := range keep {
			keep[i] = slices.Clone(x.memory[i])
		}
		after, steps, e := run.Run(parse(t, x.text), x.params, x.memory)
		if !same(after, x.after) || steps != x.steps || e != x.e {
			t.Errorf("%q: %v, %d, %d; want %v, %d, %d", x.text, after, steps, e, x.after, x.steps, x.e)
		}
		if !same(keep, x.memory) {
			t.Errorf("%q changed its argument", x.text)
		}
	}
}

func TestMemoryErrors(t *testing.T) {
	p := parse(t, "array A[2]; array S; A[9] = 1;")
	for _, m := range [][][]int{nil, {{1, 2}}, {{1, 2}, {3}, {4}}, {{1}, {3}}, {{1, 2, 3}, {3}}, {{1, 2}, nil}, {{1, 1 << 31}, {3}}, {{-1<<31 - 1, 1}, {3}}, {{1, 2}, {math.MaxInt}}, {{3}, {1, 2}}} {
		after, steps, e := run.Run(p, nil, m)
		l, f := run.Trace(p, nil, m)
		if len(after) != 0 || steps != 0 || e != api.ErrArg || len(l) != 0 || f != api.ErrArg {
			t.Errorf("%v: %v, %d, %d, %v, %d", m, after, steps, e, l, f)
		}
	}
	if _, _, e := run.Run(p, nil, [][]int{{1<<31 - 1, -1 << 31}, {3}}); e != api.ErrRange {
		t.Errorf("the greatest values: %d", e)
	}
	if _, _, e := run.Run(parse(t, "array A[-1]; array S; S = 1;"), nil, [][]int{{}, {3}}); e != api.OK {
		t.Errorf("no cells: %d", e)
	}
}

// P12.2: the errors with which an execution ends, and their order.
func TestEnds(t *testing.T) {
	for _, x := range []struct {
		text  string
		run   api.Errno
		steps int
		insts api.Errno
		n     int
	}{
		{"for i = 1 to 65536 { }", api.OK, 65536, api.OK, 0}, {"for i = 1 to 65537 { }", api.ErrFull, 0, api.ErrFull, 0}, {"for i = 0 to 1048576 { }", api.ErrFull, 0, api.ErrFull, 0}, {"array S; for i = 1 to 32768 { S = 1; }", api.OK, 65536, api.ErrFull, 0}, {"array S; for i = 1 to 32768 { S = 1; } S = 1;", api.ErrFull, 0, api.ErrFull, 0}, {"array S; for i = 1 to 65536 { } S = 1;", api.ErrFull, 0, api.ErrFull, 0}, {"for i = 1 to 32768 { for j = 1 to 1 { } }", api.OK, 65536, api.OK, 0},
		{"array S; for i = 1 to 4096 { S = 1; }", api.OK, 8192, api.OK, 4096}, {"array S; for i = 1 to 4096 { S = 1; } S = 1;", api.OK, 8193, api.ErrFull, 0},
		// A cell that does not exist at the last step, and just after the last step.
		{"array A[1]; for i = 1 to 65535 { } A[1] = 1;", api.ErrRange, 0, api.OK, 1}, {"array A[1]; for i = 1 to 65536 { } A[1] = 1;", api.ErrFull, 0, api.ErrFull, 0},
		// Bounds and variables that are no coordinates: 4096 1048576 is 2^32.
		{"for i = 4096 to 4096 { for j = 1048576 i to 1048576 i { } }", api.OK, 2, api.OK, 0}, {"for i = 4097 to 4097 { for j = 1048576 i to 0 { } }", api.ErrRange, 0, api.ErrRange, 0}, {"for i = -4097 to -4097 { for j = 0 to 1048576 i { } }", api.ErrRange, 0, api.ErrRange, 0}, {"for i = 4096 to 4096 { for j = 1048576 i + 1 to 0 { } }", api.ErrRange, 0, api.ErrRange, 0}, {"for i = -4096 to -4096 { for j = 0 to 1048576 i { } for k = 0 to 1048576 i - 1 { } }", api.ErrRange, 0, api.ErrRange, 0}, {"for i = -4096 to -4096 { for j = 1048576 i to 1048576 i + 3 { } }", api.OK, 5, api.OK, 0},
		// Only the bound counts, not each of its rows.
		{"for i = 4097 to 4097 { for j = min(1048576 i, 3) to max(-1048576 i, 3) { } }", api.OK, 2, api.OK, 0}, {"for i = 4097 to 4097 { for j = max(-1048576 i, 3) to min(1048576 i, 3) { } }", api.OK, 2, api.OK, 0}, {"for i = 4097 to 4097 { for j = ceil(1048576 i, 2) to 0 { } }", api.OK, 1, api.OK, 0},
		// An error of the execution counts more than too many instances or events.
		{"array S; for i = 1 to 5000 { S = 1; } for i = 4097 to 4097 { for j = 1048576 i to 0 { } }", api.ErrRange, 0, api.ErrRange, 0}, {"array S; array A[1]; for i = 1 to 5000 { S = 1; } A[1] = 1;", api.ErrRange, 0, api.ErrFull, 0},
	} {
		p := parse(t, x.text)
		m, e := run.Fresh(p, nil, 1)
		if e != api.OK {
			t.Fatal(e)
		}
		after, steps, e := run.Run(p, nil, m)
		if e != x.run || steps != x.steps || e != api.OK && len(after) != 0 {
			t.Errorf("Run of %q: %d, %d; want %d, %d", x.text, steps, e, x.steps, x.run)
		}
		l, e := run.Insts(p, nil)
		if e != x.insts || len(l) != x.n {
			t.Errorf("Insts of %q: %d, %d; want %d, %d", x.text, len(l), e, x.n, x.insts)
		}
		events, e := run.Trace(p, nil, m)
		want := x.run
		if want == api.OK && x.insts != api.OK {
			want = api.ErrFull
		}
		if e != want || e != api.OK && len(events) != 0 {
			t.Errorf("Trace of %q: %d, want %d", x.text, e, want)
		}
	}
}

// P12.3, P12.4.
func TestTrace(t *testing.T) {
	p := parse(t, "param n; array A[n]; array S; for i = 0 to n - 1 { S = A[i] + min(S, A[0]) * <i>; if { n, i : i = 1 } { A[i] = 5; } }")
	l, e := run.Trace(p, []int{2}, [][]int{{10, 20}, {3}})
	at := func(s int, i int) api.Inst { return api.Inst{Stmt: s, At: []int{i}} }
	want := []run.Event{
		{at(0, 0), 1, 0, 0, 10}, {at(0, 0), 2, 1, 0, 3}, {at(0, 0), 3, 0, 0, 10}, {at(0, 0), 0, 1, 0, 10},
		{at(0, 1), 1, 0, 1, 20}, {at(0, 1), 2, 1, 0, 10}, {at(0, 1), 3, 0, 0, 10}, {at(0, 1), 0, 1, 0, 30}, {at(1, 1), 0, 0, 1, 5},
	}
	if e != api.OK || !slices.EqualFunc(l, want, sameEvent) {
		t.Errorf("Trace: %v, %d", l, e)
	}
	insts, e := run.Insts(p, []int{2})
	if e != api.OK || !slices.EqualFunc(insts, []api.Inst{at(0, 0), at(0, 1), at(1, 1)}, sameInst) {
		t.Errorf("Insts: %v, %d", insts, e)
	}
	insts[0].At = append(insts[0].At, 9)
	insts[0].At[0] = 8
	if insts[1].At[0] != 1 {
		t.Error("shared memory")
	}
	// 4096 events and 4097.
	q := parse(t, "array S; for i = 1 to 2048 { S = S; }")
	if l, e := run.Trace(q, nil, [][]int{{1}}); len(l) != 4096 || e != api.OK {
		t.Errorf("%d events, %d", len(l), e)
	}
	q = parse(t, "array S; for i = 1 to 2048 { S = S; } S = 1;")
	if l, e := run.Trace(q, nil, [][]int{{1}}); len(l) != 0 || e != api.ErrFull {
		t.Errorf("%d events, %d", len(l), e)
	}
}

func sameInst(a, b api.Inst) bool { return a.Stmt == b.Stmt && slices.Equal(a.At, b.At) }

func sameEvent(a, b run.Event) bool {
	return sameInst(a.Inst, b.Inst) && a.Pos == b.Pos && a.Array == b.Array && a.Cell == b.Cell && a.Value == b.Value
}

// random returns the text of a random program with cells that exist.
func random(r *rand.Rand) string {
	var b strings.Builder
	b.WriteString("param n; array A[12]; array B[4][4]; array S;")
	var stmts func(depth int, names []string)
	index := func(names []string, most int) string {
		if len(names) == 0 || r.Intn(3) == 0 {
			return strconv.Itoa(r.Intn(most))
		}
		return names[r.Intn(len(names))]
	}
	cell := func(names []string) string {
		switch r.Intn(3) {
		case 0:
			return "A[" + index(names, 12) + "]"
		case 1:
			return "B[" + index(names, 4) + "][" + index(names, 4) + "]"
		}
		return "S"
	}
	stmts = func(depth int, names []string) {
		for range r.Intn(3) + 1 {
			switch k := r.Intn(5); {
			case k == 0 && depth < 3:
				name := "i" + strconv.Itoa(depth)
				b.WriteString("for " + name + " = " + strconv.Itoa(r.Intn(3)) + " to " + index(names, 4) + []string{"", " step 2"}[r.Intn(2)])
				b.WriteString(" {")
				stmts(depth+1, append(names[:len(names):len(names)], name))
				b.WriteString("}")
			case k == 1 && depth < 3:
				b.WriteString("if { n")
				for _, name := range names {
					b.WriteString(", " + name)
				}
				b.WriteString(" : 2 | n + " + index(names, 4) + "} {")
				stmts(depth+1, names)
				b.WriteString("} else {")
				stmts(depth+1, names)
				b.WriteString("}")
			default:
				b.WriteString(cell(names) + " = " + []string{cell(names) + " + " + cell(names), cell(names) + " * 3 - <" + index(names, 9) + ">", "max(" + cell(names) + ", 5)"}[r.Intn(3)] + ";")
			}
		}
	}
	stmts(0, nil)
	return b.String()
}

// P12.5, P12.6, P12.7.
func TestEvents(t *testing.T) {
	r := rand.New(rand.NewSource(14))
	for range 300 {
		seed := r.Int63()
		p := parse(t, random(rand.New(rand.NewSource(seed))))
		params := []int{r.Intn(4)}
		m, e := run.Fresh(p, params, r.Intn(1000))
		if e != api.OK {
			t.Fatal(e)
		}
		after, steps, e := run.Run(p, params, m)
		if e != api.OK {
			t.Fatalf("Run: %d", e)
		}
		events, e := run.Trace(p, params, m)
		insts, f := run.Insts(p, params)
		if e != api.OK || f != api.OK {
			t.Fatalf("%d, %d", e, f)
		}
		now := make([][]int, len(m))
		for a := range m {
			now[a] = slices.Clone(m[a])
		}
		var done []api.Inst
		for _, x := range events {
			if x.Pos == 0 {
				now[x.Array][x.Cell] = x.Value
				done = append(done, x.Inst)
			} else if now[x.Array][x.Cell] != x.Value {
				t.Fatalf("the event %v reads another value", x)
			}
		}
		if !same(now, after) || !slices.EqualFunc(done, insts, sameInst) || steps < len(insts) {
			t.Fatalf("the events of %v do not fit", p)
		}
		// The same program, with marks.
		var mark func(l []api.Stmt)
		mark = func(l []api.Stmt) {
			for i := range l {
				if l[i].Kind == api.For {
					l[i].Mark = r.Intn(3)
				}
				mark(l[i].Body)
				mark(l[i].Else)
			}
		}
		mark(p.Body)
		after2, steps2, _ := run.Run(p, params, m)
		events2, _ := run.Trace(p, params, m)
		insts2, _ := run.Insts(p, params)
		m2, _ := run.Fresh(p, params, 7)
		m3, _ := run.Fresh(parse(t, random(rand.New(rand.NewSource(seed)))), params, 7)
		if !same(after, after2) || steps != steps2 || !slices.EqualFunc(events, events2, sameEvent) || !slices.EqualFunc(insts, insts2, sameInst) || !same(m2, m3) {
			t.Fatal("marks affect a result")
		}
	}
}
