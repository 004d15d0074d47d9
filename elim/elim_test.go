package elim_test

import (
	"headland/api"
	"headland/elim"
	"headland/set"
	"math"
	"math/rand"
	"slices"
	"testing"
)

const most = api.MaxCoef

func ge(k int, c ...int) api.Cond { return api.Cond{Kind: api.Ge, L: api.Lin{C: c, K: k}} }
func eq(k int, c ...int) api.Cond { return api.Cond{Kind: api.Eq, L: api.Lin{C: c, K: k}} }
func div(m, k int, c ...int) api.Cond {
	return api.Cond{Kind: api.Div, M: m, L: api.Lin{C: c, K: k}}
}

type piece = []api.Cond

func of(dim int, pieces ...piece) api.Set { return api.Set{Dim: dim, Pieces: pieces} }

func same(a, b api.Set) bool {
	return a.Dim == b.Dim && slices.EqualFunc(a.Pieces, b.Pieces, func(p, q piece) bool {
		return slices.EqualFunc(p, q, func(a, b api.Cond) bool {
			return a.Kind == b.Kind && a.M == b.M && a.L.K == b.L.K && slices.Equal(a.L.C, b.L.C)
		})
	})
}

func check(t *testing.T, what string, s api.Set, e api.Errno, want api.Set, we api.Errno) {
	t.Helper()
	if e != we || !same(s, want) {
		t.Errorf("%s: %v, %d; want %v, %d", what, s, e, want, we)
	}
}

func bad() []api.Set {
	return []api.Set{{Dim: -1}, {Dim: 13}, of(1, piece{ge(0)}), of(1, piece{{Kind: 3, L: api.Lin{C: []int{1}}}}), of(2, piece{ge(most+1, 1, 0)}), of(0, slices.Repeat([]piece{nil}, 401)...)}
}

// P5.1: each rule of the projection.
func TestElimRules(t *testing.T) {
	for _, x := range []struct {
		what string
		s    api.Set
		v    int
		want api.Set
	}{
		{"rule 1", of(2, piece{ge(3, 1, 0), div(2, 1, 1, 0)}), 1, of(1, piece{ge(3, 1), div(2, 1, 1)})},
		{"whole", of(2, nil), 0, of(1, nil)}, {"none", of(2), 0, of(1)}, {"to no variables", of(1, piece{ge(0, 1)}), 0, of(0, nil)}, {"void", of(1, piece{ge(0, 1), ge(-1, -1)}), 0, of(0)},
		{"rule 2, a = 1", of(3, piece{eq(5, 2, 1, 0), ge(1, 1, 3, 0), ge(0, 0, 0, 1), div(4, 1, 0, 1, 1), eq(1, 1, 2, 3)}), 1, of(2, piece{eq(3, 1, -1), ge(-3, -1, 0), ge(0, 0, 1), div(4, 0, 2, 1)})},
		{"rule 2, a = -1", of(2, piece{eq(0, 1, -1), ge(4, 0, -2)}), 1, of(1, piece{ge(2, -1)})},
		{"rule 2, example 1", of(2, piece{eq(0, -1, 2)}), 1, of(1, piece{div(2, 0, 1)})},
		{"rule 2, a = -3 of Ge, Eq and Div", of(3, piece{eq(1, 1, 0, -3), ge(2, 0, 1, 2), div(5, 1, 1, 0, 1)}), 2, of(2, piece{ge(8, 2, 3), div(3, 1, 1, 0), div(15, 4, 4, 0)})},
		{"rule 2, the least |a|", of(3, piece{eq(1, 1, 0, 3), eq(0, 0, 1, 2)}), 2, of(2, piece{eq(2, 2, -3), div(2, 0, 0, 1)})},
		{"rule 2, the first of equal |a|", of(3, piece{eq(1, 1, 0, 2), eq(0, 0, 1, -2)}), 2, of(2, piece{eq(1, 1, 1), div(2, 0, 0, 1)})},
		{"rule 2, |a| that falls away", of(2, piece{eq(0, 600, -600)}), 1, of(1, nil)},
		{"rule 3a, lower bounds", of(2, piece{ge(0, 1, 2), ge(0, -1, 3), ge(7, 1, 0)}), 1, of(1, piece{ge(7, 1)})},
		{"rule 3a, upper bounds", of(2, piece{ge(0, 1, -2), ge(0, -1, -3), div(2, 1, 1, 0)}), 1, of(1, piece{div(2, 1, 1)})},
		{"rule 3b, a = 1", of(2, piece{ge(0, -1, 1), ge(9, 1, -4), ge(2, 1, 0)}), 1, of(1, piece{ge(3, -1), ge(2, 1)})},
		{"rule 3b, b = 1", of(2, piece{ge(0, -2, 5), ge(3, 1, -1)}), 1, of(1, piece{ge(5, 1)})},
		{"rule 3b, pairs", of(3, piece{ge(0, 0, -1, 1), ge(0, -1, 0, 1), ge(5, 0, 0, -1), ge(4, 1, 1, -1)}), 2, of(2, piece{ge(5, -1, 0), ge(5, 0, -1), ge(4, 0, 1), ge(4, 1, 0)})},
		{"rule 3c, example 2", of(2, piece{ge(0, -1, 3), ge(1, 1, -3)}), 1, of(1, piece{div(3, 0, 1)}, piece{div(3, 1, 1)})},
		{"rule 3c without bounds", of(2, piece{div(4, 1, 1, 1)}), 1, of(1, piece{div(4, 1, 1)}, piece{div(4, 2, 1)}, piece{div(4, 3, 1)}, piece{div(4, 0, 1)})},
		{"rule 3c with a lower bound", of(2, piece{ge(0, -1, 2), div(3, 0, 1, 1)}), 1, of(1, piece{div(3, 0, 1)}, piece{div(3, 1, 1)}, piece{div(3, 2, 1)})},
		{"rule 3c with an upper bound", of(2, piece{ge(0, -1, -1), div(2, 0, 1, 1)}), 1, of(1, piece{div(2, 0, 1)}, piece{div(2, 1, 1)})},
		{"rule 3b, after the piece was normalized", of(2, piece{ge(-1, 0, 2), ge(5, 1, -3), ge(9, 0, -2)}), 1, of(1, piece{ge(2, 1)})},
	} {
		s, e := elim.Elim(x.s, x.v)
		check(t, x.what, s, e, x.want, api.OK)
	}
}

// P5.1: rule 3c with bounds on both sides, whose pieces come for each bound and, within that, each remainder.
func TestElimCases(t *testing.T) {
	// 2 k - i >= 0 and j - 3 k >= 0: l = 6, w = 6 k, w - 3 i >= 0, -w + 2 j >= 0; w = 3 i + r.
	s, e := elim.Elim(of(3, piece{ge(0, -1, 0, 2), ge(0, 0, 1, -3)}), 2)
	want := of(2)
	for r := range 6 {
		p := piece{ge(-r, -3, 2), div(6, r, 3, 0)}
		n, void, _ := set.Simple(p, 2)
		if !void {
			want.Pieces = append(want.Pieces, n)
		}
	}
	check(t, "one lower and one upper bound", s, e, want, api.OK)
	if len(want.Pieces) != 2 {
		t.Errorf("%d pieces", len(want.Pieces))
	}
	// Two lower bounds and one upper bound: w = S - r of the upper bound 3 j - ... .
	s, e = elim.Elim(of(3, piece{ge(0, -1, 0, 2), ge(5, 0, 0, 3), ge(0, 0, 1, -3)}), 2)
	// 3 k + 5 >= 0 is k + 1 >= 0; w + 6 >= 0.
	want = of(2)
	for r := range 6 {
		n, void, _ := set.Simple(piece{ge(-r, -3, 2), ge(6-r, 0, 2), div(6, -r, 0, 2)}, 2)
		if !void {
			want.Pieces = append(want.Pieces, n)
		}
	}
	check(t, "two lower bounds and one upper bound", s, e, want, api.OK)
	// One lower bound, two upper bounds and a Div: 2 | k + 1, l = 6, M = 12, d = 12.
	s, e = elim.Elim(of(3, piece{ge(0, -1, 0, 2), ge(0, 0, 1, -3), ge(7, 1, 1, -2), div(2, 1, 0, 0, 1)}), 2)
	want = of(2)
	for r := range 12 {
		n, void, _ := set.Simple(piece{ge(-r, -3, 2), ge(21-r, 0, 3), div(12, 6+r, 3, 0), div(6, r, 3, 0)}, 2)
		if !void && !slices.ContainsFunc(want.Pieces, func(q piece) bool { return same(of(2, n), of(2, q)) }) {
			want.Pieces = append(want.Pieces, n)
		}
	}
	check(t, "with a Div", s, e, want, api.OK)
	// Two lower and two upper bounds: the lower ones, in order.
	a := piece{ge(0, 1, 0, 2), ge(0, 0, 1, 2), ge(9, 1, 0, -2), ge(9, 0, 1, -2)}
	p, _, _ := set.Simple(a, 3)
	s, e = elim.Elim(of(3, p), 2)
	want = of(2)
	var lower, upper []api.Cond
	for _, c := range p {
		if c.L.C[2] > 0 {
			lower = append(lower, c)
		} else {
			upper = append(upper, c)
		}
	}
	for _, b := range lower {
		for r := range 2 {
			// w = -R + r
			w := []int{-b.L.C[0], -b.L.C[1], -b.L.K + r}
			q := piece{div(2, w[2], w[0], w[1])}
			for _, c := range lower {
				q = append(q, ge(c.L.K+w[2], c.L.C[0]+w[0], c.L.C[1]+w[1]))
			}
			for _, c := range upper {
				q = append(q, ge(c.L.K-w[2], c.L.C[0]-w[0], c.L.C[1]-w[1]))
			}
			n, void, _ := set.Simple(q, 2)
			if !void {
				want.Pieces = append(want.Pieces, n)
			}
		}
	}
	check(t, "two by two", s, e, want, api.OK)
}

func TestElimErrors(t *testing.T) {
	for _, s := range bad() {
		r, e := elim.Elim(s, 99)
		check(t, "Elim", r, e, api.Set{}, api.ErrArg)
	}
	for _, v := range []int{-1, 2, math.MinInt, math.MaxInt} {
		r, e := elim.Elim(of(2, nil), v)
		check(t, "Elim", r, e, api.Set{}, api.ErrRange)
	}
	r, e := elim.Elim(of(0, nil), 0)
	check(t, "Elim", r, e, api.Set{}, api.ErrRange)
	for _, x := range []struct {
		what string
		p    piece
	}{
		{"a condition", piece{eq(0, most, -1001, 0), ge(0, 0, most, 1)}}, {"a divisor", piece{eq(0, 1, 513, 0)}},
		{"l", piece{ge(0, 1, 23, 0), ge(0, 0, -29, 1)}}, {"d", piece{ge(0, 1, 2, 0), ge(0, 0, -1, 1), div(509, 0, 0, 1, 0)}},
		{"the number of pieces", piece{div(401, 0, 1, 1, 0)}}, {"the product of a and M", piece{eq(0, 1, 3, 0), div(509, 0, 0, 1, 1)}},
	} {
		r, e := elim.Elim(of(3, x.p), 1)
		check(t, x.what, r, e, api.Set{}, api.ErrFull)
	}
	// What is beyond the limits does not matter in a void piece, or below the limits.
	r, e = elim.Elim(of(3, piece{eq(0, most, -1001, 0), ge(0, 0, most, 1), ge(-1, 0, 0, 0)}), 1)
	check(t, "void", r, e, of(2), api.OK)
	r, e = elim.Elim(of(3, piece{eq(1, 600, 512, 0)}), 1)
	check(t, "void by its divisor", r, e, of(2), api.OK)
	if r, e = elim.Elim(of(3, piece{div(400, 0, 1, 1, 0)}), 1); e != api.OK || len(r.Pieces) != 400 {
		t.Errorf("400 pieces: %d", e)
	}
	r, e = elim.Elim(of(3, piece{div(200, 0, 1, 1, 0)}, piece{div(201, 0, 1, 1, 0)}), 1)
	check(t, "401 pieces of two", r, e, api.Set{}, api.ErrFull)
	if r, e = elim.Elim(of(3, piece{div(200, 0, 1, 1, 0)}, piece{div(200, 0, 0, 1, 1)}), 1); e != api.OK || len(r.Pieces) != 400 {
		t.Errorf("400 pieces of two: %d", e)
	}
	// 10 lower and 10 upper bounds make 100 pairs.
	p := piece{}
	for i := range 10 {
		p = append(p, ge(0, 101+i, 1, 0), ge(0, 0, -1, 1009+i))
	}
	r, e = elim.Elim(of(3, p), 1)
	check(t, "100 conditions", r, e, api.Set{}, api.ErrFull)
}

// The pieces of a set are projected in order, and equal ones are removed.
func TestElimUnion(t *testing.T) {
	s, e := elim.Elim(of(2, piece{div(3, 0, 1, 1)}, piece{ge(0, 1, 1)}, piece{div(3, 1, 2, 1)}, piece{eq(0, 1, 3)}, piece{ge(0, 1, 0), ge(0, 0, 1)}), 1)
	check(t, "Elim", s, e, of(1, piece{div(3, 0, 1)}, piece{div(3, 1, 1)}, piece{div(3, 2, 1)}, nil, piece{div(3, 1, 2)}, piece{div(3, 2, 2)}, piece{div(3, 0, 2)}, piece{ge(0, 1)}), api.OK)
}

// P5.2, P5.2b.
func TestElims(t *testing.T) {
	a := of(4, piece{ge(0, 1, 0, 0, 0), ge(0, -1, 1, 0, 0), ge(0, 0, -1, 1, 0), ge(0, 0, 0, -1, 1), ge(9, 0, 0, 0, -1)})
	s, e := elim.Elims(a, []int{1, 3})
	check(t, "Elims", s, e, of(2, piece{ge(0, -1, 1), ge(9, 0, -1), ge(0, 1, 0)}), api.OK)
	r, e := elim.Elims(a, []int{3, 1})
	check(t, "Elims", r, e, s, api.OK)
	raw := of(1, piece{ge(4, 2), ge(4, 2)}, piece{ge(-1, 0)})
	s, e = elim.Elims(raw, nil)
	check(t, "Elims of none", s, e, raw, api.OK)
	s, e = elim.Keep(raw, 1)
	check(t, "Keep of all", s, e, raw, api.OK)
	s, e = elim.Keep(a, 2)
	check(t, "Keep", s, e, of(2, piece{ge(0, -1, 1), ge(9, 0, -1), ge(0, 1, 0)}), api.OK)
	s, e = elim.Keep(a, 0)
	check(t, "Keep of none", s, e, of(0, nil), api.OK)
	// The greatest variable is eliminated first: here that decides about the form of the result.
	b := of(3, piece{ge(0, -1, 2, 0), ge(0, 0, -2, 3), ge(0, 4, 1, -3)})
	s1, _ := elim.Elim(b, 2)
	s2, _ := elim.Elim(s1, 1)
	s, e = elim.Elims(b, []int{1, 2})
	check(t, "Elims", s, e, s2, api.OK)
	for _, l := range [][]int{{-1}, {4}, {1, 1}, {0, 1, 2, 3, 0}, {math.MaxInt}} {
		s, e = elim.Elims(a, l)
		check(t, "Elims", s, e, api.Set{}, api.ErrRange)
	}
	for _, k := range []int{-1, 5, math.MinInt, math.MaxInt} {
		s, e = elim.Keep(a, k)
		check(t, "Keep", s, e, api.Set{}, api.ErrRange)
	}
	for _, x := range bad() {
		s, e = elim.Elims(x, []int{50})
		check(t, "Elims", s, e, api.Set{}, api.ErrArg)
		s, e = elim.Keep(x, 50)
		check(t, "Keep", s, e, api.Set{}, api.ErrArg)
	}
	s, e = elim.Elims(of(2, piece{eq(0, 1, 513)}), []int{0, 1})
	check(t, "Elims", s, e, api.Set{}, api.ErrFull)
	s, e = elim.Keep(of(2, piece{eq(0, 1, 513)}), 1)
	check(t, "Keep", s, e, api.Set{}, api.ErrFull)
}

// P5.3.
func TestEmpty(t *testing.T) {
	gap := func(k int) piece { return piece{ge(-k, 3, 5), ge(k, -3, -5), ge(0, 1, 0), ge(0, 0, 1)} } // 3 i + 5 j = k
	for _, x := range []struct {
		s api.Set
		b bool
		e api.Errno
	}{
		{of(0), true, api.OK}, {of(0, nil), false, api.OK}, {of(0, piece{ge(-1)}), true, api.OK}, {of(12, nil), false, api.OK}, {of(1, piece{ge(0, 1)}), false, api.OK}, {of(1, piece{ge(-1, 2), ge(1, -2)}), true, api.OK},
		{of(1, piece{ge(-1, 3), ge(2, -3)}), true, api.OK}, {of(1, piece{div(2, 0, 1), div(2, 1, 1)}), true, api.OK}, {of(1, piece{div(4, 1, 1), div(6, 2, 1)}), true, api.OK}, {of(1, piece{div(4, 1, 1), div(6, 5, 1)}), false, api.OK},
		{of(2, gap(7)), true, api.OK}, {of(2, gap(8)), false, api.OK}, {of(2, gap(4)), true, api.OK}, {of(2, gap(7), gap(4), gap(11)), false, api.OK}, {of(2, gap(7), gap(4), gap(2), gap(1)), true, api.OK},
		{of(2, piece{eq(-1, 2, 4)}), true, api.OK}, {of(2, piece{eq(0, 2, -3), ge(-1, 1, 0), ge(2, -1, 0)}), true, api.OK}, {of(2, piece{eq(0, 2, -3), ge(-1, 1, 0), ge(3, -1, 0)}), false, api.OK},
		// 7 x - 12 y = 1 with x from 3 to 6
		{of(2, piece{eq(-1, 7, -12), ge(-3, 1, 0), ge(6, -1, 0)}), true, api.OK},
		// refused, before and after a piece with points
		{of(1, piece{ge(0, 1)}, piece{div(509, 0, 1), div(503, 1, 1), ge(0, 1)}), false, api.OK}, {of(1, piece{div(509, 0, 1), div(503, 1, 1), ge(0, 1)}, piece{ge(0, 1)}), false, api.ErrFull}, {of(1, piece{ge(-1, 0)}, piece{div(509, 0, 1), div(503, 1, 1)}), false, api.ErrFull},
	} {
		if b, e := elim.Empty(x.s); b != x.b || e != x.e {
			t.Errorf("Empty(%v) = %v, %d", x.s, b, e)
		}
	}
	for _, s := range bad() {
		if b, e := elim.Empty(s); b || e != api.ErrArg {
			t.Errorf("Empty(%v): %v, %d", s, b, e)
		}
	}
}

// P5.3: the variable decides which projections are refused.
func TestEmptyOrder(t *testing.T) {
	for _, x := range []struct {
		s api.Set
		b bool
		e api.Errno
	}{
		// Variable 1 has the coefficient 1 in an Eq: 2 then stands in no condition; eliminating 0 first would be refused.
		{of(2, piece{eq(0, 701, -1)}), false, api.OK}, {of(2, piece{eq(0, 1, -701)}), false, api.OK}, {of(2, piece{eq(0, 703, -701)}), false, api.ErrFull},
		// An open variable has the product 0.
		{of(2, piece{ge(0, 23, 1), ge(0, -29, 1)}), false, api.OK},
	} {
		if b, e := elim.Empty(x.s); b != x.b || e != x.e {
			t.Errorf("Empty(%v) = %v, %d", x.s, b, e)
		}
	}
}

// P5.4.
func TestWithinSame(t *testing.T) {
	a, b, c := of(1, piece{ge(0, 1), ge(5, -1)}), of(1, piece{ge(0, 1)}), of(1, piece{ge(2, -1), ge(0, 1)}, piece{ge(-3, 1), ge(5, -1)})
	odd := of(1, piece{div(2, 1, 1)})
	for _, x := range []struct {
		a, b         api.Set
		within, same bool
	}{{a, b, true, false}, {b, a, false, false}, {a, a, true, true}, {a, c, true, true}, {c, a, true, true}, {odd, a, false, false}, {of(1), a, true, false}, {of(1), of(1, piece{ge(-1, 2), ge(1, -2)}), true, true}, {of(0, nil), of(0), false, false}} {
		if in, e := elim.Within(x.a, x.b); in != x.within || e != api.OK {
			t.Errorf("Within(%v, %v) = %v, %d", x.a, x.b, in, e)
		}
		if eq, e := elim.Same(x.a, x.b); eq != x.same || e != api.OK {
			t.Errorf("Same(%v, %v) = %v, %d", x.a, x.b, eq, e)
		}
	}
	steep := of(1, piece{ge(most, 1)}) // it cannot be negated
	for _, x := range []struct {
		a, b         api.Set
		within, same api.Errno
	}{{a, of(2), api.ErrDim, api.ErrDim}, {of(1, nil), steep, api.ErrFull, api.ErrFull}, {steep, of(1, nil), api.OK, api.ErrFull}, {steep, a, api.OK, api.OK}} {
		in, e := elim.Within(x.a, x.b)
		if e != x.within || e != api.OK && in {
			t.Errorf("Within(%v, %v): %v, %d", x.a, x.b, in, e)
		}
		eq, e := elim.Same(x.a, x.b)
		if eq || e != x.same {
			t.Errorf("Same(%v, %v): %v, %d", x.a, x.b, eq, e)
		}
	}
	for _, s := range bad() {
		for _, f := range []func(a, b api.Set) (bool, api.Errno){elim.Within, elim.Same} {
			if in, e := f(s, of(9)); in || e != api.ErrArg {
				t.Errorf("%v: %v, %d", s, in, e)
			}
			if in, e := f(of(9), s); in || e != api.ErrArg {
				t.Errorf("%v: %v, %d", s, in, e)
			}
		}
	}
}

// P5.5.
func TestPick(t *testing.T) {
	for _, x := range []struct {
		p piece
		n int
		v int
		e api.Errno
	}{
		{piece{eq(0, 1, -1, 2), eq(0, 0, 3, 2)}, 3, 1, api.OK}, {piece{eq(0, 1, 2, 2), eq(0, 0, 3, 2)}, 3, 0, api.OK}, {piece{eq(0, 2, 3, 0)}, 3, 1, api.OK}, {piece{eq(0, 2, 3, 0), div(2, 0, 0, 0, 1)}, 3, 1, api.OK}, {piece{eq(0, 3, 0, 2), ge(0, 1, 1, 1)}, 3, 2, api.OK},
		{piece{eq(0, 1, 2, 2), eq(0, 2, 3, 5)}, 3, 0, api.OK}, {piece{eq(0, 3, 2, 2), eq(0, 5, 1, 3), eq(0, 7, 5, 5)}, 3, 1, api.OK}, {piece{div(5, 0, 1, 0), ge(9, -1, 0), ge(20, -1, 1), ge(9, 0, -1)}, 2, 0, api.OK},
		{nil, 3, 2, api.OK}, {nil, 1, 0, api.OK}, {nil, 12, 11, api.OK}, {piece{ge(0, 1, 1), ge(0, -1, 1)}, 2, 1, api.OK}, {piece{ge(0, 1, 1), ge(0, 1, -1)}, 2, 0, api.OK}, {piece{ge(0, 1, 1), ge(9, -1, -2)}, 2, 1, api.OK},
		{piece{ge(0, 0, 1), ge(9, 0, -1), ge(0, 1, 1), ge(9, -1, -2)}, 2, 0, api.OK}, {piece{ge(0, 1, 0), ge(9, -1, 0), ge(0, 2, 1), ge(9, -1, -2)}, 2, 1, api.OK}, {piece{div(5, 0, 1, 1), ge(0, 0, 1), ge(9, 0, -1)}, 2, 0, api.OK}, {piece{ge(-3, 0, 1), ge(3, 0, -1)}, 2, 1, api.OK}, {piece{ge(-3, 1, 0), ge(3, -1, 0)}, 2, 0, api.OK},
		{piece{ge(0, 1), ge(-1, -1)}, 1, 0, api.ErrNone}, {piece{ge(0, 1), ge(-1, -1)}, 0, 0, api.ErrRange}, {nil, 13, 0, api.ErrRange}, {nil, -1, 0, api.ErrRange}, {make(piece, 400), 0, 0, api.ErrRange}, {make(piece, 400), 1, 0, api.ErrFull},
		{piece{{Kind: 5}}, 1, 0, api.ErrArg}, {piece{ge(0, 1)}, 2, 0, api.ErrDim},
	} {
		if v, e := elim.Pick(x.p, x.n); v != x.v || e != x.e {
			t.Errorf("Pick(%v, %d) = %d, %d", x.p, x.n, v, e)
		}
	}
}

// some returns a random piece over n variables.
func some(r *rand.Rand, n, conds, size int) piece {
	p := piece{}
	for range r.Intn(conds) + 1 {
		l := make([]int, n)
		for i := range l {
			l[i] = r.Intn(2*size+1) - size
		}
		c := ge(r.Intn(13)-4, l...)
		switch r.Intn(7) {
		case 0:
			c.Kind = api.Eq
		case 1:
			c.Kind, c.M = api.Div, r.Intn(4)+1
		}
		p = append(p, c)
	}
	return p
}

func has(t *testing.T, s api.Set, x ...int) bool {
	t.Helper()
	h, e := set.Has(s, x)
	if e != api.OK {
		t.Fatalf("Has(%v, %v): %d", s, x, e)
	}
	return h
}

// P5.6: the projection has exactly the points for which there is an integer. The bounds of one variable are at most 3 * 5 + 3 * 5 + 12 here, and the remainders repeat after 12.
func TestProjection(t *testing.T) {
	r := rand.New(rand.NewSource(6))
	for range 150 {
		s := of(3, some(r, 3, 5, 3))
		v := r.Intn(3)
		q, e := elim.Elim(s, v)
		if e != api.OK {
			t.Fatalf("Elim(%v, %d): %d", s, v, e)
		}
		if n, e := set.Normal(q); e != api.OK || !same(n, q) {
			t.Fatalf("Elim(%v, %d) is not normalized", s, v)
		}
		for i := -5; i <= 5; i += 2 {
			for j := -5; j <= 5; j++ {
				found := false
				for k := -60; k <= 60 && !found; k++ {
					found = has(t, s, slices.Insert([]int{i, j}, v, k)...)
				}
				if has(t, q, i, j) != found {
					t.Fatalf("Elim(%v, %d) = %v is wrong at %d, %d", s, v, q, i, j)
				}
			}
		}
	}
}

// P5.7, P5.8: of sets within a box emptiness can be counted.
func TestEmptiness(t *testing.T) {
	r := rand.New(rand.NewSource(7))
	box := piece{ge(6, 1, 0), ge(6, -1, 0), ge(6, 0, 1), ge(6, 0, -1)}
	empty, inside, refused := 0, 0, 0
	for range 400 {
		a, b := of(2, append(some(r, 2, 4, 7), box...)), of(2, append(some(r, 2, 2, 2), box...), some(r, 2, 2, 2))
		points, within := 0, true
		for i := -6; i <= 6; i++ {
			for j := -6; j <= 6; j++ {
				if has(t, a, i, j) {
					points++
					within = within && has(t, b, i, j)
				}
			}
		}
		none, e := elim.Empty(a)
		if e == api.ErrFull {
			refused++
			continue
		}
		if none != (points == 0) || e != api.OK {
			t.Fatalf("Empty(%v) = %v, %d, with %d points", a, none, e, points)
		}
		if in, e := elim.Within(a, b); in != within || e != api.OK {
			t.Fatalf("Within(%v, %v) = %v, %d", a, b, in, e)
		}
		if points == 0 {
			empty++
		} else if within {
			inside++
		}
	}
	if empty < 20 || inside < 20 || refused > 40 {
		t.Errorf("%d empty, %d inside, %d refused", empty, inside, refused)
	}
}

// P5.9.
func TestEitherOrder(t *testing.T) {
	r := rand.New(rand.NewSource(8))
	done := 0
	for range 100 {
		s := of(3, some(r, 3, 4, 2))
		a, e1 := elim.Elim(s, 2)
		a, e2 := elim.Elim(a, 1)
		b, e3 := elim.Elim(s, 1)
		b, e4 := elim.Elim(b, 1)
		if e1+e2+e3+e4 != 0 {
			continue
		}
		done++
		for i := -40; i <= 40; i++ {
			if has(t, a, i) != has(t, b, i) {
				t.Fatalf("%v: %v and %v", s, a, b)
			}
		}
	}
	if done < 60 {
		t.Errorf("%d", done)
	}
}

// Results are new memory, and arguments stay.
func TestMemory(t *testing.T) {
	a := of(2, piece{ge(4, 2, 0), div(3, 1, 1, 0)})
	for _, f := range []func() (api.Set, api.Errno){
		func() (api.Set, api.Errno) { return elim.Elim(a, 1) }, func() (api.Set, api.Errno) { return elim.Elims(a, nil) }, func() (api.Set, api.Errno) { return elim.Keep(a, 2) },
	} {
		s, e := f()
		if e != api.OK {
			t.Fatal(e)
		}
		for i := range s.Pieces[0] {
			s.Pieces[0][i].L.C[0] = 99
			s.Pieces[0][i].L.K = 98
		}
		if !same(a, of(2, piece{ge(4, 2, 0), div(3, 1, 1, 0)})) {
			t.Fatal("shared memory")
		}
	}
}
