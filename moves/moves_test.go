package moves_test

import (
	"headland/api"
	"headland/dep"
	"headland/lang"
	"headland/legal"
	"headland/moves"
	"headland/sched"
	"headland/settext"
	"headland/source"
	"math"
	"math/rand"
	"slices"
	"strings"
	"testing"
)

const most = api.MaxCoef

func parse(t *testing.T, text string) api.Program {
	t.Helper()
	p, e := source.Parse(text)
	if e != api.OK {
		t.Fatalf("Parse(%q): %d", text, e)
	}
	return p
}

func deps(t *testing.T, p api.Program) []api.Dep {
	t.Helper()
	l, e := dep.All(p)
	if e != api.OK {
		t.Fatal(e)
	}
	return l
}

func schedule(t *testing.T, p api.Program, text string) api.Sched {
	t.Helper()
	s, e := sched.Parse(p, text)
	if e != api.OK {
		t.Fatalf("Parse(%q): %d", text, e)
	}
	return s
}

func text(t *testing.T, p api.Program, s api.Sched) string {
	t.Helper()
	text, e := sched.Text(p, s)
	if e != api.OK {
		t.Fatalf("Text(%v): %d", s, e)
	}
	return text
}

func same(a, b api.Sched) bool {
	return slices.EqualFunc(a.Rows, b.Rows, func(a, b []api.Row) bool {
		return slices.EqualFunc(a, b, func(a, b api.Row) bool {
			return a.Div == b.Div && a.L.K == b.L.K && slices.Equal(a.L.C, b.L.C)
		})
	})
}

func sameMove(a, b moves.Move) bool {
	return a.Kind == b.Kind && a.A == b.A && a.B == b.B && a.K == b.K && slices.Equal(a.List, b.List)
}

func sameWitness(a, b legal.Witness) bool {
	return a.Dep == b.Dep && a.Row == b.Row && slices.Equal(a.Params, b.Params) && slices.Equal(a.From, b.From) && slices.Equal(a.To, b.To)
}

const (
	two   = "param n; array A[n]; array B[n]; for i = 0 to n - 1 { A[i] = 1; for j = 0 to i { B[j] = A[i]; } }"
	shift = "param n; array A[n + 1]; for i = 0 to n - 1 { A[i] = A[i + 1] + 1; }"
	grid  = "param n; array A[n + 1][n + 1]; for i = 1 to n { for j = 1 to n { A[i][j] = A[i - 1][j] + A[i][j - 1]; } }"
)

const (
	swap, flip, shiftBy, skew, tile, cut, fuse = moves.Swap, moves.Flip, moves.Shift, moves.Skew, moves.Tile, moves.Cut, moves.Fuse
)

func move(kind, a, b, k int, list ...int) moves.Move {
	return moves.Move{Kind: kind, A: a, B: b, K: k, List: list}
}

// P20.1.
func TestDo(t *testing.T) {
	p := parse(t, two)
	const three = "S0: (0 1 3) (2 0 -1) (0 0 5)\nS1: (0 1 0 0) (0 -1 1 2) (0 0 0 7)\n"
	const divided = "S0: (0 1 3)/2 (2 0 -1) (0 0 5)/3\nS1: (0 1 0 0) (0 -1 1 2) (0 0 0 7)/3\n"
	for _, x := range []struct {
		s    string
		m    moves.Move
		want string
		e    api.Errno
	}{
		{three, move(swap, 0, 2, 0), "S0: (0 0 5) (2 0 -1) (0 1 3)\nS1: (0 0 0 7) (0 -1 1 2) (0 1 0 0)\n", api.OK}, {three, move(swap, 1, 1, 99), three, api.OK}, {divided, move(swap, 2, 0, 0), "S0: (0 0 5)/3 (2 0 -1) (0 1 3)/2\nS1: (0 0 0 7)/3 (0 -1 1 2) (0 1 0 0)\n", api.OK}, {three, move(swap, -1, 0, 0), "", api.ErrRange}, {three, move(swap, 0, 3, 0), "", api.ErrRange}, {three, move(swap, 3, 0, 0), "", api.ErrRange}, {three, move(swap, 0, -1, 0), "", api.ErrRange},
		{three, move(flip, 1, 99, 99), "S0: (0 1 3) (-2 0 1) (0 0 5)\nS1: (0 1 0 0) (0 1 -1 -2) (0 0 0 7)\n", api.OK}, {three, move(flip, 3, 0, 0), "", api.ErrRange}, {three, move(flip, -1, 0, 0), "", api.ErrRange}, {divided, move(flip, 0, 0, 0), "", api.ErrState}, {divided, move(flip, 2, 0, 0), "", api.ErrState}, {divided, move(flip, 1, 0, 0), "S0: (0 1 3)/2 (-2 0 1) (0 0 5)/3\nS1: (0 1 0 0) (0 1 -1 -2) (0 0 0 7)/3\n", api.OK},
		{three, move(shiftBy, 1, 0, -4), "S0: (0 1 3) (2 0 -1) (0 0 5)\nS1: (0 1 0 -4) (0 -1 1 2) (0 0 0 7)\n", api.OK}, {divided, move(shiftBy, 0, 2, 5), "S0: (0 1 3)/2 (2 0 -1) (0 0 20)/3\nS1: (0 1 0 0) (0 -1 1 2) (0 0 0 7)/3\n", api.OK}, {three, move(shiftBy, 2, 9, 0), "", api.ErrNone}, {three, move(shiftBy, -1, 9, 0), "", api.ErrNone}, {three, move(shiftBy, 0, 3, 0), "", api.ErrRange}, {three, move(shiftBy, 0, -1, 0), "", api.ErrRange}, {three, move(shiftBy, 0, 2, most-5), "S0: (0 1 3) (2 0 -1) (0 0 1048576)\nS1: (0 1 0 0) (0 -1 1 2) (0 0 0 7)\n", api.OK}, {three, move(shiftBy, 0, 2, most-4), "", api.ErrFull}, {three, move(shiftBy, 0, 2, -most-5), "S0: (0 1 3) (2 0 -1) (0 0 -1048576)\nS1: (0 1 0 0) (0 -1 1 2) (0 0 0 7)\n", api.OK}, {three, move(shiftBy, 0, 2, -most-6), "", api.ErrFull}, {divided, move(shiftBy, 0, 2, math.MaxInt), "", api.ErrFull}, {divided, move(shiftBy, 0, 0, 1<<63-1), "", api.ErrFull}, {divided, move(shiftBy, 0, 0, math.MinInt), "", api.ErrFull}, {divided, move(shiftBy, 0, 0, 1<<62), "", api.ErrFull},
		{three, move(skew, 1, 0, 2), "S0: (0 1 3) (2 2 5) (0 0 5)\nS1: (0 1 0 0) (0 1 1 2) (0 0 0 7)\n", api.OK}, {three, move(skew, 0, 2, -1), "S0: (0 1 -2) (2 0 -1) (0 0 5)\nS1: (0 1 0 -7) (0 -1 1 2) (0 0 0 7)\n", api.OK}, {three, move(skew, 1, 0, 0), three, api.OK}, {three, move(skew, 1, 1, 0), "", api.ErrRange}, {three, move(skew, 3, 1, 0), "", api.ErrRange}, {three, move(skew, 1, -1, 0), "", api.ErrRange}, {divided, move(skew, 0, 1, 1), "", api.ErrState}, {divided, move(skew, 1, 2, 1), "", api.ErrState}, {three, move(skew, 0, 1, most), "", api.ErrFull}, {three, move(skew, 1, 2, math.MinInt), "", api.ErrFull}, {three, move(skew, 1, 2, 1<<62), "", api.ErrFull}, {"S0: (0 1 3) (0 0 0)\nS1: (0 1 0 0) (0 0 0 0)\n", move(skew, 0, 1, math.MinInt), "S0: (0 1 3) (0 0 0)\nS1: (0 1 0 0) (0 0 0 0)\n", api.OK}, {"S0: (0 -1048576 0) (0 1 0)\nS1: (0 0 0 0) (0 0 0 0)\n", move(skew, 0, 1, 2*most), "S0: (0 1048576 0) (0 1 0)\nS1: (0 0 0 0) (0 0 0 0)\n", api.OK}, {"S0: (0 -1048576 0) (0 1 0)\nS1: (0 0 0 0) (0 0 0 0)\n", move(skew, 0, 1, 2*most+1), "", api.ErrFull}, {"S0: (0 0 0) (0 0 0)\nS1: (0 0 0 0) (0 0 0 1)\n", move(skew, 0, 1, most+1), "", api.ErrFull},
		// Products that are multiples of 2^64.
		{"S0: (0 1 3)/4\nS1: (0 0 0 0)/4\n", move(shiftBy, 0, 0, 1<<62), "", api.ErrFull}, {"S0: (0 1 3)/4\nS1: (0 0 0 0)/4\n", move(shiftBy, 0, 0, -1<<62), "", api.ErrFull}, {"S0: (0 1 3) (0 4 8)\nS1: (0 0 0 0) (0 0 0 16)\n", move(skew, 0, 1, 1<<62), "", api.ErrFull}, {"S0: (0 1 3) (0 4 8)\nS1: (0 0 0 0) (0 0 0 16)\n", move(skew, 0, 1, -1<<62), "", api.ErrFull},
		{three, move(tile, 0, 2, 4), "S0: (0 1 3)/4 (2 0 -1)/4 (0 1 3) (2 0 -1) (0 0 5)\nS1: (0 1 0 0)/4 (0 -1 1 2)/4 (0 1 0 0) (0 -1 1 2) (0 0 0 7)\n", api.OK}, {three, move(tile, 2, 3, 64), "S0: (0 1 3) (2 0 -1) (0 0 5)/64 (0 0 5)\nS1: (0 1 0 0) (0 -1 1 2) (0 0 0 7)/64 (0 0 0 7)\n", api.OK}, {three, move(tile, 0, 3, 2), "S0: (0 1 3)/2 (2 0 -1)/2 (0 0 5)/2 (0 1 3) (2 0 -1) (0 0 5)\nS1: (0 1 0 0)/2 (0 -1 1 2)/2 (0 0 0 7)/2 (0 1 0 0) (0 -1 1 2) (0 0 0 7)\n", api.OK}, {divided, move(tile, 1, 2, 2), "S0: (0 1 3)/2 (2 0 -1)/2 (2 0 -1) (0 0 5)/3\nS1: (0 1 0 0) (0 -1 1 2)/2 (0 -1 1 2) (0 0 0 7)/3\n", api.OK},
		{three, move(tile, -1, 2, 4), "", api.ErrRange}, {three, move(tile, 1, 1, 4), "", api.ErrRange}, {three, move(tile, 2, 1, 4), "", api.ErrRange}, {three, move(tile, 0, 4, 4), "", api.ErrRange}, {three, move(tile, 0, 2, 1), "", api.ErrRange}, {three, move(tile, 0, 2, 65), "", api.ErrRange}, {divided, move(tile, 0, 2, 65), "", api.ErrRange}, {divided, move(tile, 0, 2, 4), "", api.ErrState}, {divided, move(tile, 1, 3, 4), "", api.ErrState}, {three, move(tile, math.MinInt, math.MaxInt, 4), "", api.ErrRange},
		{three, move(cut, 1, 0, 0, 8, -9), "S0: (0 1 3) (0 0 8) (2 0 -1) (0 0 5)\nS1: (0 1 0 0) (0 0 0 -9) (0 -1 1 2) (0 0 0 7)\n", api.OK}, {three, move(cut, 3, 7, 7, 1, 1), "S0: (0 1 3) (2 0 -1) (0 0 5) (0 0 1)\nS1: (0 1 0 0) (0 -1 1 2) (0 0 0 7) (0 0 0 1)\n", api.OK}, {"S0:\nS1:\n", move(cut, 0, 0, 0, most, -most), "S0: (0 0 1048576)\nS1: (0 0 0 -1048576)\n", api.OK}, {three, move(cut, 4, 0, 0), "", api.ErrRange}, {three, move(cut, -1, 0, 0), "", api.ErrRange}, {three, move(cut, 0, 0, 0, 1), "", api.ErrDim}, {three, move(cut, 0, 0, 0, most+1), "", api.ErrDim}, {three, move(cut, 0, 0, 0, 1, 2, 3), "", api.ErrDim}, {three, move(cut, 0, 0, 0, most+1, 0), "", api.ErrFull}, {three, move(cut, 0, 0, 0, 0, math.MinInt), "", api.ErrFull},
		{three, move(fuse, 2, 0, 0), "S0: (0 1 3) (2 0 -1)\nS1: (0 1 0 0) (0 -1 1 2)\n", api.OK}, {three, move(fuse, 0, 0, 0), "", api.ErrState}, {three, move(fuse, 1, 0, 0), "", api.ErrState}, {divided, move(fuse, 2, 0, 0), "", api.ErrState}, {three, move(fuse, 3, 0, 0), "", api.ErrRange}, {three, move(fuse, -1, 0, 0), "", api.ErrRange},
		{three, move(0, 0, 0, 0), "", api.ErrNone}, {three, move(8, 0, 0, 0), "", api.ErrNone}, {three, move(-1, 0, 0, 0), "", api.ErrNone}, {three, move(math.MaxInt, 0, 0, 0), "", api.ErrNone},
	} {
		s := schedule(t, p, x.s)
		r, e := moves.Do(p, s, x.m)
		if e != x.e || e != api.OK && len(r.Rows) != 0 || e == api.OK && text(t, p, r) != x.want {
			t.Errorf("Do(%v) of %q: %v, %d; want %q, %d", x.m, x.s, r, e, x.want, x.e)
		}
		if !same(s, schedule(t, p, x.s)) {
			t.Errorf("Do(%v) changed its argument", x.m)
		}
		for i := range r.Rows {
			for j := range r.Rows[i] {
				r.Rows[i][j].L.C[0] = 99
			}
		}
		if !same(s, schedule(t, p, x.s)) {
			t.Errorf("Do(%v) shares memory with its argument", x.m)
		}
		if b, f := moves.Back(p, s, x.m); x.e != api.OK && (f != x.e || !sameMove(b, moves.Move{})) {
			t.Errorf("Back(%v): %v, %d", x.m, b, f)
		}
	}
	eight := schedule(t, p, "S0:"+strings.Repeat(" (0 0 1)", 8)+"\nS1:"+strings.Repeat(" (0 0 0 1)", 8)+"\n")
	for _, m := range []moves.Move{move(tile, 0, 1, 2), move(cut, 0, 0, 0, 1, 1)} {
		if r, e := moves.Do(p, eight, m); e != api.ErrFull || len(r.Rows) != 0 {
			t.Errorf("Do(%v) of 8 rows: %v, %d", m, r, e)
		}
	}
	four := schedule(t, p, "S0:"+strings.Repeat(" (0 0 1)", 4)+"\nS1:"+strings.Repeat(" (0 0 0 1)", 4)+"\n")
	if r, e := moves.Do(p, four, move(tile, 0, 4, 2)); e != api.OK || len(r.Rows[0]) != 8 {
		t.Errorf("Tile of 4 rows: %d", e)
	}
}

// P20.2, P20.7.
func TestBack(t *testing.T) {
	p := parse(t, two)
	s := schedule(t, p, "S0: (0 1 3) (2 0 -1) (0 0 5)\nS1: (0 1 0 0) (0 -1 1 2) (0 0 0 7)\n")
	for _, x := range []struct{ m, back moves.Move }{
		{move(swap, 0, 2, 7, 1, 2), move(swap, 0, 2, 0)}, {move(flip, 1, 8, 9, 4), move(flip, 1, 0, 0)}, {move(shiftBy, 1, 2, -9, 7), move(shiftBy, 1, 2, 9)}, {move(skew, 0, 1, 3, 7), move(skew, 0, 1, -3)}, {move(cut, 2, 5, 5, 8, 9), move(fuse, 2, 0, 0)}, {move(fuse, 2, 5, 5, 1), move(cut, 2, 0, 0, 5, 7)}, {move(swap, 1, 1, math.MinInt), move(swap, 1, 1, 0)},
	} {
		b, e := moves.Back(p, s, x.m)
		if e != api.OK || !sameMove(b, x.back) {
			t.Errorf("Back(%v) = %v, %d", x.m, b, e)
		}
		r, _ := moves.Do(p, s, x.m)
		if q, e := moves.Do(p, r, b); e != api.OK || !same(q, s) {
			t.Errorf("%v is not undone by %v: %v, %d", x.m, b, q, e)
		}
	}
	if b, e := moves.Back(p, s, move(tile, 0, 1, 2)); e != api.ErrState || !sameMove(b, moves.Move{}) {
		t.Errorf("Back of Tile: %v, %d", b, e)
	}
	zero := schedule(t, p, "S0: (0 1 3) (0 0 0)\nS1: (0 1 0 0) (0 0 0 0)\n")
	if b, e := moves.Back(p, zero, move(skew, 0, 1, math.MinInt)); e != api.ErrFull || !sameMove(b, moves.Move{}) {
		t.Errorf("Back of -2^63: %v, %d", b, e)
	}
	if b, e := moves.Back(p, zero, move(skew, 0, 1, math.MaxInt)); e != api.OK || b.K != -math.MaxInt {
		t.Errorf("Back of 2^63 - 1: %v, %d", b, e)
	}
	r := rand.New(rand.NewSource(22))
	for range 300 {
		m := move(r.Intn(7)+1, r.Intn(3), r.Intn(3), r.Intn(5)-2, r.Intn(9)-4, r.Intn(9)-4)
		q, e := moves.Do(p, s, m)
		b, f := moves.Back(p, s, m)
		if e != f && m.Kind != tile {
			t.Fatalf("%v: %d, %d", m, e, f)
		}
		if e == api.OK && f == api.OK {
			if back, e := moves.Do(p, q, b); e != api.OK || !same(back, s) {
				t.Fatalf("%v is not undone by %v: %v, %d", m, b, back, e)
			}
		}
	}
}

// P20.3, P20.9.
func TestTry(t *testing.T) {
	p := parse(t, grid)
	l := deps(t, p)
	for _, x := range []struct {
		s    string
		m    moves.Move
		want string
		w    legal.Witness
		e    api.Errno
	}{
		{"S0: (0 1 0 0) (0 0 1 0)\n", move(swap, 0, 1, 0), "S0: (0 0 1 0) (0 1 0 0)\n", legal.Witness{}, api.OK}, {"S0: (0 1 0 0) (0 0 1 0)\n", move(flip, 0, 0, 0), "", legal.Witness{Dep: 0, Row: 0, Params: []int{2}, From: []int{1, 1}, To: []int{2, 1}}, api.ErrOrder}, {"S0: (0 1 0 0) (0 0 1 0)\n", move(skew, 1, 0, 1), "S0: (0 1 0 0) (0 1 1 0)\n", legal.Witness{}, api.OK}, {"S0: (0 1 0 0) (0 1 1 0)\n", move(swap, 0, 1, 0), "S0: (0 1 1 0) (0 1 0 0)\n", legal.Witness{}, api.OK}, {"S0: (0 1 0 0) (0 0 1 0)\n", move(tile, 0, 2, 4), "S0: (0 1 0 0)/4 (0 0 1 0)/4 (0 1 0 0) (0 0 1 0)\n", legal.Witness{}, api.OK},
		{"S0: (0 1 0 0) (0 0 1 0)\n", move(skew, 0, 1, -2), "", legal.Witness{Dep: 1, Row: 0, Params: []int{2}, From: []int{1, 1}, To: []int{1, 2}}, api.ErrOrder}, {"S0: (0 1 0 0) (0 0 1 0)\n", move(flip, 2, 0, 0), "", legal.Witness{}, api.ErrRange}, {"S0: (0 1 0 0) (0 0 1 0)\n", move(9, 2, 0, 0), "", legal.Witness{}, api.ErrNone}, {"S0: (0 -1 0 0)\n", move(flip, 0, 0, 0), "S0: (0 1 0 0)\n", legal.Witness{}, api.OK},
	} {
		r, w, e := moves.Try(p, l, schedule(t, p, x.s), x.m)
		if e != x.e || !sameWitness(w, x.w) || e != api.OK && len(r.Rows) != 0 || e == api.OK && text(t, p, r) != x.want {
			t.Errorf("Try(%v) of %q: %v, %v, %d", x.m, x.s, r, w, e)
		}
		if e != api.OK {
			continue
		}
		if ok, _, e := legal.Legal(p, l, r); !ok || e != api.OK {
			t.Errorf("%v is not legal", r)
		}
	}
	_, open, e := settext.Parse("{ n, i, j, k, l : 600 i = 601 j }")
	if e != api.OK {
		t.Fatal(e)
	}
	s := schedule(t, p, "S0: (0 1 0 0) (0 0 1 0)\n")
	refused := []api.Dep{{Pairs: open}}
	if r, w, e := moves.Try(p, refused, s, move(swap, 0, 1, 0)); e != api.ErrFull || len(r.Rows) != 0 || !sameWitness(w, legal.Witness{}) {
		t.Errorf("%v, %v, %d", r, w, e)
	}
	if r, n, e := moves.All(p, refused, s, []moves.Move{move(swap, 0, 1, 0)}); e != api.ErrFull || n != 0 || !same(r, s) {
		t.Errorf("%v, %d, %d", r, n, e)
	}
	if b, e := moves.Bands(p, refused, s); e != api.ErrFull || len(b) != 0 {
		t.Errorf("%v, %d", b, e)
	}
	if r, e := moves.TileAll(p, refused, s, 4); e != api.ErrFull || len(r.Rows) != 0 {
		t.Errorf("%v, %d", r, e)
	}
}

// P20.4.
func TestAll(t *testing.T) {
	p := parse(t, grid)
	l := deps(t, p)
	s := schedule(t, p, "S0: (0 1 0 0) (0 0 1 0)\n")
	for _, x := range []struct {
		moves []moves.Move
		want  string
		n     int
		e     api.Errno
	}{
		{nil, "S0: (0 1 0 0) (0 0 1 0)\n", 0, api.OK}, {[]moves.Move{move(skew, 1, 0, 1), move(swap, 0, 1, 0)}, "S0: (0 1 1 0) (0 1 0 0)\n", 2, api.OK}, {[]moves.Move{move(skew, 1, 0, 1), move(flip, 0, 0, 0), move(swap, 0, 1, 0)}, "S0: (0 1 0 0) (0 1 1 0)\n", 1, api.ErrOrder}, {[]moves.Move{move(0, 0, 0, 0)}, "S0: (0 1 0 0) (0 0 1 0)\n", 0, api.ErrNone}, {[]moves.Move{move(swap, 0, 1, 0), move(tile, 0, 1, 9), move(flip, 0, 0, 0)}, "S0: (0 0 1 0)/9 (0 0 1 0) (0 1 0 0)\n", 2, api.ErrState},
	} {
		r, n, e := moves.All(p, l, s, x.moves)
		if n != x.n || e != x.e || text(t, p, r) != x.want {
			t.Errorf("All(%v): %v, %d, %d", x.moves, r, n, e)
		}
		r.Rows[0][0].L.C[1] = 77
		if s.Rows[0][0].L.C[1] != 1 {
			t.Fatal("shared memory")
		}
	}
}

// P20.5.
func TestBands(t *testing.T) {
	p := parse(t, grid)
	l := deps(t, p)
	for _, x := range []struct {
		s    string
		want [][2]int
	}{
		{"S0:\n", nil}, {"S0: (0 1 0 0) (0 0 1 0)\n", [][2]int{{0, 2}}}, {"S0: (0 1 0 0) (0 -1 1 0)\n", [][2]int{{0, 1}, {1, 2}}}, {"S0: (0 1 1 0) (0 1 0 0)\n", [][2]int{{0, 2}}}, {"S0: (0 1 1 0) (0 -1 0 0)\n", [][2]int{{0, 1}, {1, 2}}}, {"S0: (0 -1 0 0) (0 0 1 0)\n", [][2]int{{0, 1}, {1, 2}}}, {"S0: (0 1 0 0)/2 (0 0 1 0)/2 (0 1 0 0) (0 0 1 0)\n", [][2]int{{0, 1}, {1, 2}, {2, 4}}}, {"S0: (0 1 0 0) (0 0 1 0) (0 1 0 0)/2\n", [][2]int{{0, 2}, {2, 3}}}, {"S0: (0 1 0 0) (0 0 1 0)/3 (0 0 1 0) (0 -1 0 0)\n", [][2]int{{0, 1}, {1, 2}, {2, 4}}}, {"S0: (0 1 0 0) (0 0 1 0) (0 1 1 5) (0 0 0 7)\n", [][2]int{{0, 4}}}, {"S0: (0 1 0 0) (0 0 1 0) (0 -1 0 0) (0 -1 -1 0)\n", [][2]int{{0, 2}, {2, 4}}},
	} {
		b, e := moves.Bands(p, l, schedule(t, p, x.s))
		if e != api.OK || !slices.Equal(b, x.want) {
			t.Errorf("Bands of %q: %v, %d; want %v", x.s, b, e, x.want)
		}
	}
}

// P20.6, P20.8.
func TestTileAll(t *testing.T) {
	p := parse(t, grid)
	l := deps(t, p)
	for _, x := range []struct {
		s, want string
		k       int
		e       api.Errno
	}{
		{"S0: (0 1 0 0) (0 0 1 0)\n", "S0: (0 1 0 0)/4 (0 0 1 0)/4 (0 1 0 0) (0 0 1 0)\n", 4, api.OK}, {"S0: (0 1 0 0) (0 -1 1 0)\n", "S0: (0 1 0 0) (0 -1 1 0)\n", 4, api.OK}, {"S0:\n", "S0:\n", 2, api.OK}, {"S0: (0 1 0 0) (0 0 1 0) (0 -1 0 0) (0 -1 -1 0)\n", "S0: (0 1 0 0)/64 (0 0 1 0)/64 (0 1 0 0) (0 0 1 0) (0 -1 0 0)/64 (0 -1 -1 0)/64 (0 -1 0 0) (0 -1 -1 0)\n", 64, api.OK}, {"S0: (0 1 0 0)/2 (0 0 1 0)/2 (0 1 0 0) (0 0 1 0)\n", "S0: (0 1 0 0)/2 (0 0 1 0)/2 (0 1 0 0)/3 (0 0 1 0)/3 (0 1 0 0) (0 0 1 0)\n", 3, api.OK},
		{"S0: (0 1 0 0) (0 0 1 0) (0 1 0 0) (0 0 1 0) (0 1 1 0)\n", "", 2, api.ErrFull}, {"S0: (0 1 0 0)\n", "", 1, api.ErrRange}, {"S0: (0 1 0 0)\n", "", 65, api.ErrRange}, {"S0: (0 1 0 0)\n", "", math.MinInt, api.ErrRange},
	} {
		r, e := moves.TileAll(p, l, schedule(t, p, x.s), x.k)
		if e != x.e || e != api.OK && len(r.Rows) != 0 || e == api.OK && text(t, p, r) != x.want {
			t.Errorf("TileAll of %q: %v, %d", x.s, r, e)
		}
		if e == api.OK {
			// Blocks of 64 by 64 are too many pieces to look at.
			if ok, _, f := legal.Legal(p, l, r); !ok && f != api.ErrFull {
				t.Errorf("TileAll of %q is not legal: %d", x.s, f)
			}
		}
	}
}

func TestErrors(t *testing.T) {
	p := parse(t, shift)
	l := deps(t, p)
	s := schedule(t, p, "S0: (0 1 0)\n")
	all := func(p api.Program, l []api.Dep, s api.Sched) []api.Errno {
		_, e1 := moves.Do(p, s, moves.Move{})
		_, e2 := moves.Back(p, s, moves.Move{})
		_, _, e3 := moves.Try(p, l, s, moves.Move{})
		r, n, e4 := moves.All(p, l, s, []moves.Move{{}})
		_, e5 := moves.Bands(p, l, s)
		_, e6 := moves.TileAll(p, l, s, 1)
		if e4 != api.ErrNone && (len(r.Rows) != 0 || n != 0) {
			t.Errorf("All: %v, %d, %d", r, n, e4)
		}
		return []api.Errno{e1, e2, e3, e4, e5, e6}
	}
	change := func(f func(d *api.Dep)) []api.Dep {
		d := l[0]
		f(&d)
		return []api.Dep{l[0], d}
	}
	for i, x := range []struct{ got, want []api.Errno }{
		{all(api.Program{Params: []string{"to"}}, change(func(d *api.Dep) { d.From = 9 }), s), []api.Errno{1, 1, 1, 1, 1, 1}}, {all(p, change(func(d *api.Dep) { d.From = 9 }), api.Sched{}), []api.Errno{2, 2, 2, 2, 2, 2}}, {all(p, change(func(d *api.Dep) { d.From = 9 }), s), []api.Errno{5, 5, 5, 5, 5, 5}}, {all(p, change(func(d *api.Dep) { d.Pairs.Dim = -1 }), s), []api.Errno{5, 5, 1, 1, 1, 1}}, {all(p, change(func(d *api.Dep) { d.Pairs = api.Set{Dim: 4} }), s), []api.Errno{5, 5, 2, 2, 2, 2}}, {all(p, l, s), []api.Errno{5, 5, 5, 5, 0, 6}},
	} {
		if !slices.Equal(x.got, x.want) {
			t.Errorf("%d: %v, want %v", i, x.got, x.want)
		}
	}
}

// P20.10, and P20.8 again.
func TestInterchange(t *testing.T) {
	r := rand.New(rand.NewSource(23))
	wide := 0
	for range 80 {
		p := parse(t, []string{grid, two, shift}[r.Intn(3)])
		l := deps(t, p)
		infos, _ := lang.Assigns(p)
		s := api.Sched{}
		n := r.Intn(3) + 1
		for _, x := range infos {
			var rows []api.Row
			for range n {
				w := api.Row{L: api.Lin{C: make([]int, len(x.Names)), K: r.Intn(3) - 1}, Div: []int{1, 1, 1, 2}[r.Intn(4)]}
				for i := len(p.Params); i < len(w.L.C); i++ {
					w.L.C[i] = r.Intn(4) / 2
				}
				rows = append(rows, w)
			}
			s.Rows = append(s.Rows, rows)
		}
		if ok, _, e := legal.Legal(p, l, s); !ok || e != api.OK {
			continue
		}
		bands, e := moves.Bands(p, l, s)
		if e != api.OK {
			t.Fatal(e)
		}
		next := 0
		for _, b := range bands {
			if b[0] != next || b[1] <= b[0] {
				t.Fatalf("the bands %v", bands)
			}
			next = b[1]
			for i := b[0]; i < b[1]; i++ {
				for j := b[0]; j < i; j++ {
					wide++
					if _, w, e := moves.Try(p, l, s, move(swap, i, j, 0)); e != api.OK {
						t.Fatalf("%v: rows %d and %d of the band %v: %v, %d", s, i, j, b, w, e)
					}
				}
			}
		}
		if next != n {
			t.Fatalf("the bands %v of %d rows", bands, n)
		}
		if q, e := moves.TileAll(p, l, s, 2); e == api.OK {
			if ok, w, e := legal.Legal(p, l, q); !ok || e != api.OK {
				t.Fatalf("TileAll of %v: %v, %d", s, w, e)
			}
		}
	}
	if wide < 10 {
		t.Errorf("%d pairs of rows", wide)
	}
}
