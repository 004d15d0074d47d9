package flow_test

import (
	"headland/api"
	"headland/elim"
	"headland/flow"
	"headland/lang"
	"headland/run"
	"headland/set"
	"headland/settext"
	"headland/source"
	"math"
	"slices"
	"strings"
	"testing"
)

func parse(t *testing.T, text string) api.Program {
	t.Helper()
	p, e := source.Parse(text)
	if e != api.OK {
		t.Fatalf("Parse(%q): %d", text, e)
	}
	return p
}

func of(t *testing.T, text string) api.Set {
	t.Helper()
	_, s, e := settext.Parse(text)
	if e != api.OK {
		t.Fatalf("Parse(%q): %d", text, e)
	}
	return s
}

// equal reports whether two sets have the same points.
func equal(t *testing.T, a, b api.Set) bool {
	t.Helper()
	same, e := elim.Same(a, b)
	if e != api.OK {
		t.Fatalf("Same(%v, %v): %d", a, b, e)
	}
	return same
}

func reads(t *testing.T, p api.Program) (l []api.Access) {
	t.Helper()
	uses, e := lang.Uses(p)
	if e != api.OK {
		t.Fatal(e)
	}
	for _, a := range uses {
		if !a.Write {
			l = append(l, a)
		}
	}
	return l
}

const (
	turned = "param n; array A[n + 1]; array B[n + 1]; for i = 0 to n { A[i] = 1; } for i = 0 to n { B[i] = A[n - i]; }"
	shift  = "param n; array A[n + 1]; for i = 0 to n - 1 { A[i] = A[i + 1] + 1; }"
	chain  = "param n; array A[n + 1]; for i = 1 to n { A[i] = A[i - 1] + 1; }"
	sum    = "param n; array S; array A[n]; S = 0; for i = 0 to n - 1 { S = S + A[i]; }"
	twice  = "param n; array S; array B[n + 1]; for i = 0 to n { S = 1; S = 2; B[i] = S; if { n, i : 2 | i } { S = 3; } }"
	later  = "param n; array A[10]; array B[10]; for i = 0 to n { B[i] = A[3]; A[i] = 1; }"
)

type source2 struct {
	from  int
	pairs string
}

// P15.1, P15.2.
func TestSources(t *testing.T) {
	const box = "n >= 0 and n <= 1000"
	for _, x := range []struct {
		text    string
		read    int
		sources []source2
		initial string
	}{
		{turned, 0, []source2{{0, "{ n, i, j : " + box + " and i = n - j and j >= 0 and j <= n }"}}, "{ n, j : false }"},
		{shift, 0, nil, "{ n, i : n <= 1000 and i >= 0 and i <= n - 1 }"},
		{chain, 0, []source2{{0, "{ n, i, j : n <= 1000 and j = i + 1 and i >= 1 and j <= n }"}}, "{ n, i : n >= 1 and n <= 1000 and i = 1 }"},
		{sum, 0, []source2{{0, "{ n, i : n >= 1 and n <= 1000 and i = 0 }"}, {1, "{ n, i, j : n <= 1000 and j = i + 1 and i >= 0 and j <= n - 1 }"}}, "{ n, i : false }"},
		{sum, 1, nil, "{ n, i : n <= 1000 and i >= 0 and i <= n - 1 }"},
		{twice, 0, []source2{{1, "{ n, i, j : n <= 1000 and i = j and i >= 0 and i <= n }"}}, "{ n, i : false }"},
		{later, 0, []source2{{1, "{ n, i, j : n <= 1000 and i = 3 and j > 3 and j <= n }"}}, "{ n, i : n <= 1000 and i >= 0 and i <= 3 and i <= n }"},
		{"array S; array T; if { : false } { S = 1; } T = S;", 0, nil, "{ : true }"}, {"array S; array T; S = 1; S = 2; T = S;", 0, []source2{{1, "{ : true }"}}, "{ : false }"}, {"array S; S = S;", 0, nil, "{ : true }"}, {"array S; array T; T = S; S = 1;", 0, nil, "{ : true }"},
	} {
		p := parse(t, x.text)
		b := reads(t, p)[x.read]
		l, e := flow.Sources(p, b)
		if e != api.OK || len(l) != len(x.sources) {
			t.Errorf("Sources of %q: %v, %d", x.text, l, e)
			continue
		}
		for i, d := range l {
			if d.Kind != api.Flow || d.Array != b.R.Array || d.From != x.sources[i].from || d.FromPos != 0 || d.To != b.Stmt || d.ToPos != b.Pos {
				t.Errorf("Sources of %q: %v", x.text, d)
			}
			if !equal(t, d.Pairs, of(t, x.sources[i].pairs)) {
				t.Errorf("Sources of %q: %v, want %s", x.text, d.Pairs, x.sources[i].pairs)
			}
		}
		s, e := flow.Initial(p, b)
		if e != api.OK || !equal(t, s, of(t, x.initial)) {
			t.Errorf("Initial of %q: %v, %d", x.text, s, e)
		}
	}
}

// P15.3.
func TestFlow(t *testing.T) {
	for _, text := range []string{turned, shift, chain, sum, twice, later, ""} {
		p := parse(t, text)
		var want []api.Dep
		for _, b := range reads(t, p) {
			l, e := flow.Sources(p, b)
			if e != api.OK {
				t.Fatal(e)
			}
			want = append(want, l...)
		}
		l, e := flow.Flow(p)
		if e != api.OK || !slices.EqualFunc(l, want, func(a, b api.Dep) bool {
			return a.Kind == b.Kind && a.Array == b.Array && a.From == b.From && a.FromPos == b.FromPos && a.To == b.To && a.ToPos == b.ToPos && equal(t, a.Pairs, b.Pairs)
		}) {
			t.Errorf("Flow of %q: %v, %d", text, l, e)
		}
	}
}

// P15.4, P15.5.
func TestLiveFinal(t *testing.T) {
	for _, x := range []struct {
		text  string
		array int
		live  string
	}{
		{turned, 0, "{ n, x : false }"}, {turned, 1, "{ n, x : false }"}, {shift, 0, "{ n, x : n <= 1000 and x >= 1 and x <= n }"}, {chain, 0, "{ n, x : n >= 1 and n <= 1000 and x = 0 }"}, {sum, 0, "{ n : false }"}, {sum, 1, "{ n, x : n <= 1000 and x >= 0 and x <= n - 1 }"}, {later, 0, "{ n, x : n >= 0 and n <= 1000 and x = 3 }"},
		{"param n; array A[9][9]; array S; for i = 0 to n { S = A[i][i]; S = A[2][i]; A[i][2] = 1; }", 0, "{ n, x, y : n <= 1000 and x = y and x >= 0 and x <= n or n <= 1000 and x = 2 and y >= 0 and y <= n }"}, {"array S; S = S + 1; S = S;", 0, "{ : true }"}, {"array S; array T; S = 1;", 1, "{ : false }"},
	} {
		s, e := flow.Live(parse(t, x.text), x.array)
		if e != api.OK || !equal(t, s, of(t, x.live)) {
			t.Errorf("Live of %q, %d: %v, %d", x.text, x.array, s, e)
		}
	}
	for _, x := range []struct {
		text  string
		stmt  int
		final string
	}{
		{turned, 0, "{ n, i : n <= 1000 and i >= 0 and i <= n }"}, {sum, 0, "{ n : n = 0 }"}, {sum, 1, "{ n, i : n >= 1 and n <= 1000 and i = n - 1 }"}, {twice, 0, "{ n, i : false }"}, {twice, 1, "{ n, i : n <= 1000 and i = n and i >= 0 and 2 | i + 1 }"}, {twice, 2, "{ n, i : n <= 1000 and i >= 0 and i <= n }"}, {twice, 3, "{ n, i : n <= 1000 and i = n and i >= 0 and 2 | i }"}, {"array S; S = 1; if { : false } { S = 2; }", 0, "{ : true }"}, {"array S; S = 1; if { : false } { S = 2; }", 1, "{ : false }"},
	} {
		s, e := flow.Final(parse(t, x.text), x.stmt)
		if e != api.OK || !equal(t, s, of(t, x.final)) {
			t.Errorf("Final of %q, %d: %v, %d", x.text, x.stmt, s, e)
		}
	}
}

func TestErrors(t *testing.T) {
	p := parse(t, shift)
	uses, _ := lang.Uses(p)
	other := uses[1]
	other.R = api.Ref{Array: 0, Subs: []api.Lin{{C: []int{0, 1}, K: 2}}}
	for i, x := range []struct {
		b api.Access
		e api.Errno
	}{
		{uses[1], api.OK}, {uses[0], api.ErrArg}, {api.Access{}, api.ErrNone}, {other, api.ErrNone}, {api.Access{Stmt: 0, Pos: 1, Write: true, R: uses[1].R}, api.ErrNone}, {api.Access{Stmt: 0, Pos: 2, R: uses[1].R}, api.ErrNone}, {api.Access{Stmt: 1, Pos: 1, R: uses[1].R}, api.ErrNone}, {api.Access{Stmt: math.MinInt, Pos: math.MaxInt, Write: true}, api.ErrNone},
	} {
		l, e := flow.Sources(p, x.b)
		s, f := flow.Initial(p, x.b)
		if e != x.e || f != x.e || len(l) != 0 || e != api.OK && s.Dim != 0 {
			t.Errorf("%d: %d, %d, want %d", i, e, f, x.e)
		}
	}
	for _, a := range []int{-1, 1, math.MaxInt, math.MinInt} {
		s, e := flow.Live(p, a)
		r, f := flow.Final(p, a)
		if e != api.ErrRange || f != api.ErrNone || s.Dim != 0 || r.Dim != 0 {
			t.Errorf("%d: %d, %d", a, e, f)
		}
	}
	bad := api.Program{Params: []string{"to"}}
	_, e1 := flow.Sources(bad, api.Access{})
	_, e2 := flow.Initial(bad, api.Access{})
	_, e3 := flow.Flow(bad)
	_, e4 := flow.Live(bad, 9)
	_, e5 := flow.Final(bad, 9)
	if l := []api.Errno{e1, e2, e3, e4, e5}; !slices.Equal(l, slices.Repeat([]api.Errno{api.ErrArg}, 5)) {
		t.Errorf("an invalid program: %v", l)
	}
}

// The sources need the parameters and the loops of three assignments; Live needs the subscripts.
func TestFull(t *testing.T) {
	loops := func(n int, inside string) string {
		text := ""
		for i := range n {
			text += "for " + string(rune('a'+i)) + " = 0 to 1 { "
		}
		return text + inside + strings.Repeat("}", n)
	}
	for n, want := range map[int]api.Errno{3: api.OK, 4: api.ErrFull} {
		p := parse(t, "param n; param m; array S; array T; "+loops(n, "S = 1; T = S;"))
		b := reads(t, p)[0]
		_, e1 := flow.Sources(p, b)
		_, e2 := flow.Initial(p, b)
		_, e3 := flow.Flow(p)
		_, e4 := flow.Live(p, 0)
		_, e5 := flow.Final(p, 0)
		if e1 != want || e2 != want || e3 != want || e4 != want || e5 != api.OK {
			t.Errorf("%d loops: %d, %d, %d, %d, %d", n, e1, e2, e3, e4, e5)
		}
	}
	six := parse(t, "param n; array S; "+loops(6, "S = 1;"))
	if s, e := flow.Final(six, 0); e != api.ErrFull || s.Dim != 0 {
		t.Errorf("Final: %d", e)
	}
	for n, want := range map[int]api.Errno{8: api.OK, 9: api.ErrFull} {
		p := parse(t, "param n; array A[1][1][1]; array T; "+loops(n, "T = A[0][a][b];"))
		if s, e := flow.Live(p, 0); e != want || e != api.OK && s.Dim != 0 {
			t.Errorf("Live with %d loops: %d, want %d", n, e, want)
		}
	}
	refused := parse(t, "array S; array T; for i = 0 to 9 { if { i : 509 | i } { S = 1; } else { T = S; } }")
	_, e1 := flow.Sources(refused, reads(t, refused)[0])
	_, e2 := flow.Initial(refused, reads(t, refused)[0])
	_, e3 := flow.Flow(refused)
	_, e4 := flow.Live(refused, 0)
	_, e5 := flow.Final(refused, 1)
	if l := []api.Errno{e1, e2, e3, e4, e5}; !slices.Equal(l, slices.Repeat([]api.Errno{api.ErrFull}, 5)) {
		t.Errorf("a refused domain: %v", l)
	}
	// Which of them there are cannot be decided.
	open := parse(t, "array S; array T; for i = 0 to 9999 { for j = 0 to 9999 { if { i, j : 600 i = 601 j } { S = 1; } } } T = S;")
	_, e1 = flow.Sources(open, reads(t, open)[0])
	_, e2 = flow.Initial(open, reads(t, open)[0])
	if e1 != api.ErrFull || e2 != api.ErrFull {
		t.Errorf("undecided: %d, %d", e1, e2)
	}
}

// Sets that cannot be subtracted, because a condition has too many opposites, or whose variables cannot be eliminated.
func TestRefused(t *testing.T) {
	const loop = "for i = 0 to 999 { if { i : 450 | i } { A[i] = 1; } } "
	const read = "for i = 0 to 999 { B = A[i]; }"
	for _, x := range []struct {
		text                    string
		sources, initial, final api.Errno
	}{
		{"array A[1000]; array B; " + loop + loop + read, api.ErrFull, api.ErrFull, api.ErrFull},
		{"array A[1000]; array B; " + loop + read, api.OK, api.ErrFull, api.OK},
		{"array A[1000]; array B; for i = 0 to 5 { A[1001 i] = 1; } for i = 0 to 5 { B = A[500 i]; }", api.OK, api.ErrFull, api.OK},
		{"array A[1000]; array B; for i = 0 to 5 { A[500 i] = 1; } for i = 0 to 5 { A[1001 i] = 2; } B = A[7];", api.OK, api.OK, api.ErrFull},
	} {
		p := parse(t, x.text)
		b := reads(t, p)[0]
		l, e1 := flow.Sources(p, b)
		_, e2 := flow.Flow(p)
		s, e3 := flow.Initial(p, b)
		r, e4 := flow.Live(p, 0)
		f, e5 := flow.Final(p, 0)
		if e1 != x.sources || e2 != x.sources || e3 != x.initial || e4 != x.initial || e5 != x.final {
			t.Errorf("%q: %d, %d, %d, %d, %d", x.text, e1, e2, e3, e4, e5)
		}
		if e1 != api.OK && len(l) != 0 || e3 != api.OK && (s.Dim != 0 || r.Dim != 0) || e5 != api.OK && f.Dim != 0 {
			t.Errorf("%q: results with errors", x.text)
		}
	}
}

// programs are some whose cells exist for n up to 4.
func programs() []string {
	return []string{
		turned, shift, chain, sum, twice, later,
		"param n; array A[30]; array B[30]; for i = 0 to n { A[i] = B[n - i]; if { n, i : 2 | i } { B[i] = A[i] + A[0]; } else { A[i - 1] = B[2]; } } for j = 1 to n { A[j] = A[j - 1] * 2; B[j] = A[n - j]; }",
		"param n; array A[9][9]; for i = 0 to n { for j = 0 to n { A[i][j] = A[j][i] + A[i][j] + A[0][j]; } }",
		"param n; array A[30]; for i = 0 to n { for j = 0 to n { A[2 i + j] = A[i + j] + 1; } A[i] = A[2 i]; }",
		"param n; array A[30]; for i = 0 to n step 2 { A[i] = 1; A[i + 1] = A[i]; } for i = 0 to n step 3 { A[i] = A[i + 1]; } A[0] = A[1];",
	}
}

// P15.6, P15.7, P15.8.
func TestExecutions(t *testing.T) {
	for _, text := range programs() {
		p := parse(t, text)
		sources, initials := map[[2]int][]api.Dep{}, map[[2]int]api.Set{}
		for _, b := range reads(t, p) {
			key := [2]int{b.Stmt, b.Pos}
			var e, f api.Errno
			sources[key], e = flow.Sources(p, b)
			initials[key], f = flow.Initial(p, b)
			if e != api.OK || f != api.OK {
				t.Fatalf("%q: %d, %d", text, e, f)
			}
		}
		for n := range 5 {
			m, _ := run.Fresh(p, []int{n}, 1)
			events, e := run.Trace(p, []int{n}, m)
			if e != api.OK {
				t.Fatalf("%q, %d: %d", text, n, e)
			}
			last := map[[2]int]api.Inst{}
			for _, x := range events {
				cell := [2]int{x.Array, x.Cell}
				if x.Pos == 0 {
					last[cell] = x.Inst
					continue
				}
				key := [2]int{x.Inst.Stmt, x.Pos}
				writer, written := last[cell]
				first, _ := set.Has(initials[key], append([]int{n}, x.Inst.At...))
				if first == written {
					t.Fatalf("%q, %d: %v is initial: %v", text, n, x, first)
				}
				count := 0
				for _, d := range sources[key] {
					for _, y := range events {
						if y.Pos != 0 || y.Inst.Stmt != d.From {
							continue
						}
						if in, _ := set.Has(d.Pairs, slices.Concat([]int{n}, y.Inst.At, x.Inst.At)); in {
							count++
							if y.Inst.Stmt != writer.Stmt || !slices.Equal(y.Inst.At, writer.At) {
								t.Fatalf("%q, %d: %v is said to be the writer of %v", text, n, y.Inst, x)
							}
						}
					}
				}
				if count != 1 && written || count != 0 && !written {
					t.Fatalf("%q, %d: %v has %d sources", text, n, x, count)
				}
			}
			checkFinal(t, p, text, n, events, last)
		}
	}
}

func checkFinal(t *testing.T, p api.Program, text string, n int, events []run.Event, last map[[2]int]api.Inst) {
	t.Helper()
	for _, x := range events {
		if x.Pos != 0 {
			continue
		}
		f, e := flow.Final(p, x.Inst.Stmt)
		in, _ := set.Has(f, append([]int{n}, x.Inst.At...))
		w := last[[2]int{x.Array, x.Cell}]
		if e != api.OK || in != (w.Stmt == x.Inst.Stmt && slices.Equal(w.At, x.Inst.At)) {
			t.Fatalf("%q, %d: %v is final: %v, %d", text, n, x.Inst, in, e)
		}
	}
}

// Live cells are those that are read before they are written.
func TestLiveExecutions(t *testing.T) {
	for _, text := range []string{turned, shift, chain, sum, later} {
		p := parse(t, text)
		for a := range p.Arrays {
			live, e := flow.Live(p, a)
			if e != api.OK {
				t.Fatal(e)
			}
			for n := range 5 {
				m, _ := run.Fresh(p, []int{n}, 1)
				events, _ := run.Trace(p, []int{n}, m)
				written, first := map[int]bool{}, map[int]bool{}
				for _, x := range events {
					if x.Array == a && x.Pos == 0 {
						written[x.Cell] = true
					} else if x.Array == a && !written[x.Cell] {
						first[x.Cell] = true
					}
				}
				for c := range m[a] {
					x := []int{n, c}[:1+len(p.Arrays[a].Sizes)]
					if in, e := set.Has(live, x); in != first[c] || e != api.OK {
						t.Errorf("%q, array %d: cell %d is live: %v, %d", text, a, c, in, e)
					}
				}
			}
		}
	}
}
