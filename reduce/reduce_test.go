package reduce_test

import (
	"headland/api"
	"headland/dep"
	"headland/lang"
	"headland/reduce"
	"headland/run"
	"headland/set"
	"headland/source"
	"math"
	"math/rand"
	"slices"
	"strings"
	"testing"
)

func parse(t *testing.T, text string) api.Program {
	t.Helper()
	p, e := source.Parse(text)
	if e != api.OK {
		t.Fatalf("Parse(%q): %d", text, e)
	}
	return p
}

const sum = "param n; array S; array A[n]; for i = 0 to n - 1 { S = S + A[i]; }"

// P16.1.
func TestOperator(t *testing.T) {
	for _, x := range []struct {
		assign  string
		op, pos int
		e       api.Errno
	}{
		{"S = S + A[i];", api.Add, 1, api.OK}, {"S = A[i] + S;", api.Add, 2, api.OK}, {"S = S * A[i];", api.Mul, 1, api.OK}, {"S = min(A[i], S);", api.Min, 2, api.OK}, {"S = max(S, 3);", api.Max, 1, api.OK}, {"S = S + 1;", api.Add, 1, api.OK}, {"S = 1 + S;", api.Add, 1, api.OK}, {"S = <i> * S;", api.Mul, 1, api.OK}, {"S = A[i] * A[0] + 3 * A[1] + S;", api.Add, 4, api.OK}, {"S = (A[i] - A[0]) * S;", api.Mul, 3, api.OK},
		{"A[i] = A[i] + S;", api.Add, 1, api.OK}, {"A[2 i + 1] = S + A[1 + 2 i];", api.Add, 2, api.OK}, {"B[i][0] = B[i][0] * A[i];", api.Mul, 1, api.OK},
		{"S = S - A[i];", 0, 0, api.ErrNone}, {"S = A[i] - S;", 0, 0, api.ErrNone}, {"S = S + S;", 0, 0, api.ErrNone}, {"S = S;", 0, 0, api.ErrNone}, {"S = 1;", 0, 0, api.ErrNone}, {"S = <i>;", 0, 0, api.ErrNone}, {"S = A[i] + A[0];", 0, 0, api.ErrNone}, {"S = S + A[i] + 1;", 0, 0, api.ErrNone}, {"S = S + (S + 1);", 0, 0, api.ErrNone}, {"S = (1 + 2 * S) + S;", 0, 0, api.ErrNone}, {"S = 1 + 2;", 0, 0, api.ErrNone},
		{"A[i] = A[i] + A[0];", 0, 0, api.ErrNone}, {"A[i] = A[i + 1] + 1;", 0, 0, api.ErrNone}, {"A[0] = 2 * A[i];", 0, 0, api.ErrNone}, {"B[i][0] = B[0][i] + 1;", 0, 0, api.ErrNone}, {"A[i] = S * A[i] + A[i];", 0, 0, api.ErrNone}, {"S = A[i] + S * 1;", 0, 0, api.ErrNone},
	} {
		p := parse(t, "param n; array S; array A[n]; array B[n][n]; for i = 0 to n { "+x.assign+" }")
		if op, pos, e := reduce.Operator(p, 0); op != x.op || pos != x.pos || e != x.e {
			t.Errorf("Operator of %q: %d, %d, %d", x.assign, op, pos, e)
		}
	}
	p := parse(t, sum)
	for _, s := range []int{-1, 1, math.MinInt, math.MaxInt} {
		op, pos, e := reduce.Operator(p, s)
		_, f := reduce.Shuffle(p, s, nil)
		if op != 0 || pos != 0 || e != api.ErrNone || f != api.ErrNone {
			t.Errorf("%d: %d, %d, %d, %d", s, op, pos, e, f)
		}
	}
	bad := api.Program{Params: []string{"to"}}
	_, _, e1 := reduce.Operator(bad, 9)
	l, e2 := reduce.Relax(bad, []api.Dep{{From: 9}})
	_, e3 := reduce.Shuffle(bad, 9, nil)
	if e1 != api.ErrArg || e2 != api.ErrArg || e3 != api.ErrArg || len(l) != 0 {
		t.Errorf("an invalid program: %d, %d, %d", e1, e2, e3)
	}
}

// P16.2.
func TestRelax(t *testing.T) {
	for _, x := range []struct {
		text string
		want string // for each dependence, r if it is relaxed
	}{
		{sum, "rrr"}, {"array S; S = S + S;", ""}, {"param n; array S; for i = 0 to n { S = S + S; }", "....."},
		// Two assignments of one reduction; and of different ones.
		{"param n; array S; array A[n]; for i = 0 to n { S = S + A[i]; S = 2 + S; }", "rrrrrrrrrrrr"}, {"array S; S = S + 1; S = S * 2;", "..."}, {"array S; S = S + 1; S = 7 + S;", "rrr"}, {"array S; S = S + 1; S = S - 2;", "..."}, {"array A[9]; A[0] = A[0] + 1; A[0] = 5;", ".."}, {"array A[9]; A[1] = A[1] + 1; A[1] = A[1] + 2;", "rrr"},
	} {
		p := parse(t, x.text)
		deps, e := dep.All(p)
		if e != api.OK {
			t.Fatal(e)
		}
		l, e := reduce.Relax(p, deps)
		got := ""
		for _, r := range l {
			got += map[bool]string{true: "r", false: "."}[r]
		}
		if e != api.OK || got != x.want {
			t.Errorf("Relax of %q: %s, %d; want %s", x.text, got, e, x.want)
		}
	}
	// The accesses decide, not the pairs, the kind or the array.
	p := parse(t, "array S; array A[9]; S = A[0] + S; S = S + A[1]; A[0] = A[0] + 1; A[3] = A[3] * 2;")
	for _, x := range []struct {
		from, fromPos, to, toPos int
		want                     bool
	}{
		{0, 0, 0, 0, true}, {0, 2, 0, 0, true}, {0, 1, 0, 0, false}, {0, 0, 0, 1, false}, {0, 2, 1, 1, true}, {0, 2, 1, 2, false}, {1, 1, 0, 2, true}, {1, 0, 0, 0, true}, {2, 0, 2, 1, true}, {2, 0, 3, 0, false}, {0, 0, 2, 0, false}, {0, 1, 2, 0, false},
	} {
		d := api.Dep{Kind: 99, Array: -5, From: x.from, FromPos: x.fromPos, To: x.to, ToPos: x.toPos, Pairs: api.Set{Dim: -1}}
		if l, e := reduce.Relax(p, []api.Dep{d}); e != api.OK || len(l) != 1 || l[0] != x.want {
			t.Errorf("%v: %v, %d", x, l, e)
		}
	}
	good := api.Dep{}
	for _, d := range []api.Dep{{From: -1}, {From: 4}, {To: -1}, {To: 4}, {FromPos: 3}, {FromPos: -1}, {ToPos: 3}, {ToPos: -1}, {From: 2, FromPos: 2}, {From: math.MaxInt}, {ToPos: math.MinInt}} {
		if l, e := reduce.Relax(p, []api.Dep{good, d, good}); e != api.ErrNone || len(l) != 0 {
			t.Errorf("%v: %v, %d", d, l, e)
		}
	}
	if l, e := reduce.Relax(p, nil); e != api.OK || len(l) != 0 {
		t.Errorf("Relax of none: %v, %d", l, e)
	}
}

// P16.3.
func TestNeutral(t *testing.T) {
	for _, x := range []struct {
		op, n int
		e     api.Errno
	}{{api.Add, 0, api.OK}, {api.Mul, 1, api.OK}, {api.Min, 1<<31 - 1, api.OK}, {api.Max, -1 << 31, api.OK}, {api.Sub, 0, api.ErrNone}, {api.Num, 0, api.ErrNone}, {api.Aff, 0, api.ErrNone}, {api.Read, 0, api.ErrNone}, {8, 0, api.ErrNone}, {-1, 0, api.ErrNone}, {math.MinInt, 0, api.ErrNone}, {math.MaxInt, 0, api.ErrNone}} {
		if n, e := reduce.Neutral(x.op); n != x.n || e != x.e {
			t.Errorf("Neutral(%d) = %d, %d", x.op, n, e)
		}
	}
}

// P16.4.
func TestShuffle(t *testing.T) {
	for _, x := range []struct {
		text string
		stmt int
		keys []int
		want string
	}{
		{sum, 0, []int{1, 0}, "param n; array S; array A[n]; for i = 0 to n - 1 { if { n, i : 2 | i + 1 } { S = S + A[i]; } } for i = 0 to n - 1 { if { n, i : 2 | i } { S = S + A[i]; } }"},
		{"param n; array S; for j = 0 to n { for i = 2 j + n + 1 to 99 step 4 parallel { S = 3 * S; } }", 0, []int{2, 0, 1}, "param n; array S; for j = 0 to n { for i = 2 j + n + 1 to 99 step 4 parallel { if { n, j, i : 12 | 11 n + 10 j + i + 3 } { S = 3 * S; } } for i = 2 j + n + 1 to 99 step 4 parallel { if { n, j, i : 12 | 11 n + 10 j + i + 11 } { S = 3 * S; } } for i = 2 j + n + 1 to 99 step 4 parallel { if { n, j, i : 12 | 11 n + 10 j + i + 7 } { S = 3 * S; } } }"},
		{"array S; if { : true } { } else { for i = -5 to max(3, min(4, 9)) vector { S = max(S, <i>); } S = 1; }", 0, []int{0, 1}, "array S; if { : true } { } else { for i = -5 to max(3, min(4, 9)) vector { if { i : 2 | i + 1 } { S = max(S, <i>); } } for i = -5 to max(3, min(4, 9)) vector { if { i : 2 | i } { S = max(S, <i>); } } S = 1; }"},
	} {
		q, e := reduce.Shuffle(parse(t, x.text), x.stmt, x.keys)
		if text, _ := source.Print(q); e != api.OK || !lang.Same(q, parse(t, x.want)) {
			t.Errorf("Shuffle of %q: %s, %d", x.text, text, e)
		}
	}
}

func TestShuffleErrors(t *testing.T) {
	keys := func(n int) (l []int) {
		for i := range n {
			l = append(l, n-1-i)
		}
		return l
	}
	for _, x := range []struct {
		text string
		stmt int
		keys []int
		e    api.Errno
	}{
		{"array S; S = S + 1;", 0, nil, api.ErrArg}, {"array S; S = 1;", 0, nil, api.ErrNone}, {"array S; for i = 0 to 1 { S = 1; }", 0, nil, api.ErrNone}, {"array S; for i = 0 to 1 { S = S + 1; S = S + 2; }", 0, nil, api.ErrArg}, {"array S; for i = 0 to 1 { if { i : true } { S = S + 1; } }", 0, nil, api.ErrArg}, {"array S; if { : true } { S = S + 1; }", 0, nil, api.ErrArg}, {"array S; for i = 0 to 1 { if { i : true } { } else { S = S + 1; } }", 0, nil, api.ErrArg}, {"array S; for i = 0 to 1 { S = S + 1; for j = 0 to 1 { } }", 0, nil, api.ErrArg},
		{sum, 0, nil, api.ErrDim}, {sum, 0, []int{0}, api.ErrDim}, {sum, 0, keys(17), api.ErrDim}, {sum, 0, make([]int, 99), api.ErrDim}, {sum, 0, keys(16), api.OK}, {sum, 0, []int{0, 0}, api.ErrRange}, {sum, 0, []int{1, 2}, api.ErrRange}, {sum, 0, []int{-1, 0}, api.ErrRange}, {sum, 0, []int{math.MaxInt, math.MinInt}, api.ErrRange}, {sum, 0, []int{0, 2, 2}, api.ErrRange},
		{"array S; for i = max(0, 1) to 1 { S = S + 1; }", 0, []int{1, 0}, api.ErrForm}, {"array S; for i = min(0, 1) to 1 { S = S + 1; }", 0, []int{1, 0}, api.ErrForm}, {"array S; for i = ceil(1, 2) to 1 { S = S + 1; }", 0, []int{1, 0}, api.ErrForm}, {"array S; for i = ceil(1, 2) to 1 { S = S + 1; }", 0, []int{1, 1}, api.ErrRange}, {"array S; for i = 0 to min(1, 2) { S = S + 1; }", 0, []int{1, 0}, api.OK},
		{"array S; for i = 0 to 9 step 32 { S = S + 1; }", 0, keys(16), api.OK}, {"array S; for i = 0 to 9 step 33 { S = S + 1; }", 0, keys(16), api.ErrFull}, {"array S; for i = 0 to 9 step 33 { S = S + 1; }", 0, keys(15), api.OK}, {"array S; for i = 1048576 to 9 step 33 { S = S + 1; }", 0, keys(15), api.OK},
		{"array S; for i = 0 to 9 { S = S + 1; } " + strings.Repeat("S = 1; ", 208), 0, keys(16), api.OK}, {"array S; for i = 0 to 9 { S = S + 1; } " + strings.Repeat("S = 1; ", 209), 0, keys(16), api.ErrFull},
	} {
		q, e := reduce.Shuffle(parse(t, x.text), x.stmt, x.keys)
		if e != x.e || e != api.OK && !lang.Same(q, api.Program{}) {
			t.Errorf("Shuffle of %.80q, %v: %d, want %d", x.text, x.keys, e, x.e)
		}
	}
}

// P16.5.
func TestShuffled(t *testing.T) {
	r := rand.New(rand.NewSource(15))
	for _, text := range []string{
		sum, "param n; array S; array A[n]; for i = n - 1 to 2 n step 3 { S = max(S, <i>); }", "param n; array S; for i = 3 to 3 n { S = S * <i>; }", "param n; array S[n + 1]; array A[n + 1]; for j = 0 to n { for i = j to n { S[j] = A[i] + S[j]; } }",
		"param n; array S[n + 1]; array A[n + 1]; for j = 0 to n { for i = j to 2 n step 2 { S[0] = min(S[0], <i - 2 j>); } A[j] = S[0]; }", "param n; array A[2 n + 1]; for i = -2 to 2 n - 2 { A[i + 2] = A[i + 2] * 3; }",
	} {
		p := parse(t, text)
		for m := 2; m <= 5; m++ {
			keys := r.Perm(m)
			q, e := reduce.Shuffle(p, 0, keys)
			if e != api.OK {
				t.Fatalf("Shuffle of %q: %d", text, e)
			}
			for n := range 6 {
				memory, _ := run.Fresh(p, []int{n}, n)
				a, _, e := run.Run(p, []int{n}, memory)
				b, _, f := run.Run(q, []int{n}, memory)
				x, _ := run.Insts(p, []int{n})
				y, _ := run.Insts(q, []int{n})
				if e != api.OK || f != api.OK || !slices.EqualFunc(a, b, slices.Equal[[]int]) || m == 2 && len(x) > len(y) {
					t.Errorf("%q, n = %d, keys %v: %v, %v, %d, %d", text, n, keys, a, b, e, f)
				}
			}
		}
	}
}

// value evaluates an expression.
func value(x api.Expr, at []int, memory [][]int) int {
	lin := func(l api.Lin) int {
		n := l.K
		for i, c := range l.C {
			n += c * at[i]
		}
		return n
	}
	switch x.Op {
	case api.Num:
		return x.K
	case api.Aff:
		return lin(x.L)
	case api.Read:
		k := 0
		if len(x.R.Subs) == 1 {
			k = lin(x.R.Subs[0])
		}
		return memory[x.R.Array][k]
	}
	a, b := value(x.Args[0], at, memory), value(x.Args[1], at, memory)
	switch x.Op {
	case api.Add:
		a += b
	case api.Sub:
		a -= b
	case api.Mul:
		a *= b
	case api.Min:
		a = min(a, b)
	case api.Max:
		a = max(a, b)
	}
	return int(int32(a))
}

// P16.6.
func TestAnyOrder(t *testing.T) {
	r := rand.New(rand.NewSource(16))
	for _, text := range []string{
		sum, "param n; array S; array A[n + 1]; S = 1; for i = 0 to n { S = S + A[i]; S = <i> + S; A[i] = S; }", "param n; array S; array A[n + 1]; for i = 0 to n { S = S * A[i]; } A[0] = S; for i = 1 to n { S = 3 * S; A[i] = A[i - 1] + 1; }",
		"param n; array S; array A[n + 1]; for i = 0 to n { for j = 0 to i { A[i] = max(A[i], <i - j>); S = min(S, A[j]); } }", "param n; array S; array A[n + 1]; for i = 0 to n { S = S + 1; S = S * 2; }", "param n; array S; array T; for i = 0 to n { S = S + T; T = T + 3; S = S + T; }",
	} {
		p := parse(t, text)
		deps, e := dep.All(p)
		relaxed, f := reduce.Relax(p, deps)
		infos, _ := lang.Assigns(p)
		if e != api.OK || f != api.OK {
			t.Fatal(e, f)
		}
		for n := range 4 {
			params := []int{n}
			memory, _ := run.Fresh(p, params, 3)
			want, _, _ := run.Run(p, params, memory)
			insts, _ := run.Insts(p, params)
			after := func(x, y api.Inst) bool { // y must come after x
				for i, d := range deps {
					if !relaxed[i] && d.From == x.Stmt && d.To == y.Stmt {
						if in, _ := set.Has(d.Pairs, slices.Concat(params, x.At, y.At)); in {
							return true
						}
					}
				}
				return false
			}
			for range 4 {
				left := slices.Clone(insts)
				now := [][]int{slices.Clone(memory[0]), slices.Clone(memory[1])}
				for len(left) > 0 {
					var ready []int
					for k, y := range left {
						if !slices.ContainsFunc(left, func(x api.Inst) bool { return after(x, y) }) {
							ready = append(ready, k)
						}
					}
					k := ready[r.Intn(len(ready))]
					x := left[k]
					left = slices.Delete(left, k, k+1)
					at := slices.Concat(params, x.At)
					s := infos[x.Stmt].Stmt
					v := value(s.Value, at, now)
					cell := 0
					if len(s.Target.Subs) == 1 {
						cell = value(api.Expr{Op: api.Aff, L: s.Target.Subs[0]}, at, nil)
					}
					now[s.Target.Array][cell] = v
				}
				if !slices.EqualFunc(now, want, slices.Equal[[]int]) {
					t.Fatalf("%q, n = %d: %v, want %v", text, n, now, want)
				}
			}
		}
	}
}
