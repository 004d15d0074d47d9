package set_test

import (
	"headland/api"
	"headland/cond"
	"headland/set"
	"math"
	"math/rand"
	"slices"
	"testing"
)

const most = api.MaxCoef

func ge(k int, c ...int) api.Cond { return api.Cond{Kind: api.Ge, L: api.Lin{C: c, K: k}} }
func eq(k int, c ...int) api.Cond { return api.Cond{Kind: api.Eq, L: api.Lin{C: c, K: k}} }
func div(m, k int, c ...int) api.Cond {
	return api.Cond{Kind: api.Div, M: m, L: api.Lin{C: c, K: k}}
}

type piece = []api.Cond

func of(dim int, pieces ...piece) api.Set { return api.Set{Dim: dim, Pieces: pieces} }

func sameCond(a, b api.Cond) bool {
	return a.Kind == b.Kind && a.M == b.M && a.L.K == b.L.K && slices.Equal(a.L.C, b.L.C)
}

func samePiece(a, b piece) bool { return slices.EqualFunc(a, b, sameCond) }

func same(a, b api.Set) bool {
	return a.Dim == b.Dim && slices.EqualFunc(a.Pieces, b.Pieces, samePiece)
}

func clone(s api.Set) api.Set {
	r := of(s.Dim)
	for _, p := range s.Pieces {
		q := slices.Clone(p)
		for i := range q {
			q[i].L.C = slices.Clone(q[i].L.C)
		}
		r.Pieces = append(r.Pieces, q)
	}
	return r
}

// bad are sets that are not valid.
func bad() []api.Set {
	return []api.Set{
		{Dim: -1}, {Dim: 13}, {Dim: math.MinInt}, of(1, piece{ge(0)}), of(1, piece{ge(0, 1, 2)}), of(1, piece{ge(0, 1)}, piece{ge(0, 1), eq(0)}),
		of(1, piece{{Kind: 3, L: api.Lin{C: []int{1}}}}), of(1, piece{div(0, 1, 1)}), of(1, piece{div(513, 1, 1)}), of(1, piece{ge(most+1, 1)}), of(0, piece{{M: 1}}),
		of(1, slices.Repeat(piece{ge(0, 1)}, 97)), of(0, slices.Repeat([]piece{nil}, 401)...),
	}
}

// full is a set of n pieces, no two of which are equal.
func full(n, from int) api.Set {
	s := of(1)
	for i := range n {
		s.Pieces = append(s.Pieces, piece{eq(-from-i, 1)})
	}
	return s
}

func check(t *testing.T, what string, s api.Set, e api.Errno, want api.Set, we api.Errno) {
	t.Helper()
	if e != we || !same(s, want) {
		t.Errorf("%s: %v, %d; want %v, %d", what, s, e, want, we)
	}
}

// P4.1.
func TestValid(t *testing.T) {
	for _, s := range bad() {
		if set.Valid(s) {
			t.Errorf("%v is valid", s)
		}
	}
	for _, s := range []api.Set{{}, of(0, nil), of(12, piece{ge(most, make([]int, 12)...)}), of(1, slices.Repeat(piece{ge(0, 1)}, 96)), of(0, slices.Repeat([]piece{nil}, 400)...), of(2, nil, piece{div(512, 1, 1, 1)}, nil)} {
		if !set.Valid(s) {
			t.Errorf("%v is not valid", s)
		}
	}
}

func TestWholeNone(t *testing.T) {
	for n := 0; n <= 12; n++ {
		s, e := set.Whole(n)
		check(t, "Whole", s, e, of(n, nil), api.OK)
		s, e = set.None(n)
		check(t, "None", s, e, of(n), api.OK)
	}
	for _, n := range []int{-1, 13, math.MinInt, math.MaxInt} {
		s, e := set.Whole(n)
		check(t, "Whole", s, e, api.Set{}, api.ErrRange)
		s, e = set.None(n)
		check(t, "None", s, e, api.Set{}, api.ErrRange)
	}
}

// P4.2.
func TestHas(t *testing.T) {
	const far = api.MaxCoord
	two := of(2, piece{ge(0, 1, 0), ge(3, -1, 0), eq(0, 1, -2)}, piece{div(5, 1, 1, 1), eq(-9, 0, 1)})
	for _, x := range []struct {
		s api.Set
		x []int
		h bool
		e api.Errno
	}{
		{two, []int{0, 0}, true, api.OK}, {two, []int{2, 1}, true, api.OK}, {two, []int{4, 2}, false, api.OK}, {two, []int{-2, -1}, false, api.OK}, {two, []int{0, 9}, true, api.OK}, {two, []int{1, 9}, false, api.OK}, {two, []int{1, 1}, false, api.OK},
		{of(0), nil, false, api.OK}, {of(0, nil), nil, true, api.OK}, {of(0, piece{ge(-1)}), nil, false, api.OK}, {of(0, piece{ge(-1)}, piece{ge(0)}), nil, true, api.OK}, {of(1), []int{0}, false, api.OK}, {of(1, nil), []int{far}, true, api.OK},
		{of(1), []int{far + 1}, false, api.ErrRange}, {of(1, nil), []int{-far - 1}, false, api.ErrRange}, {two, []int{0, math.MinInt}, false, api.ErrRange}, {two, []int{far + 1}, false, api.ErrDim}, {of(0), []int{1}, false, api.ErrDim}, {two, nil, false, api.ErrDim},
	} {
		if h, e := set.Has(x.s, x.x); h != x.h || e != x.e {
			t.Errorf("Has(%v, %v) = %v, %d", x.s, x.x, h, e)
		}
	}
	for _, s := range bad() {
		if h, e := set.Has(s, []int{far + 1, 0, 0}); h || e != api.ErrArg {
			t.Errorf("Has(%v): %v, %d", s, h, e)
		}
	}
}

// pieces are pieces over two variables with their normalized forms; nil stands for void ones.
func pieces() (l [][2]piece) {
	add := func(p, n piece) { l = append(l, [2]piece{p, n}) }
	none := piece{}
	add(piece{ge(-3, 2, 0), ge(5, 0, 0), eq(0, 0, 0), div(2, 4, 2, 6)}, piece{ge(-2, 1, 0)})
	add(piece{ge(3, 1, 0), ge(-1, 0, 0)}, nil)
	add(piece{eq(1, 2, 4)}, nil)
	add(piece{div(4, 1, 2, 6)}, nil)
	add(none, none)
	// Step 2.
	add(piece{ge(3, 1, 0), ge(7, 2, 0), ge(5, 1, 0)}, piece{ge(3, 1, 0)})
	add(piece{ge(5, 1, -1), ge(4, 1, -1), ge(9, 0, 1)}, piece{ge(9, 0, 1), ge(4, 1, -1)})
	// Step 3.
	add(piece{ge(-3, 1, 0), ge(3, -1, 0)}, piece{eq(-3, 1, 0)})
	add(piece{ge(3, -1, 2), ge(-3, 1, -2)}, piece{eq(-3, 1, -2)})
	add(piece{ge(-3, 1, 0), ge(2, -1, 0)}, nil)
	add(piece{ge(-3, 1, 0), ge(4, -1, 0)}, piece{ge(4, -1, 0), ge(-3, 1, 0)})
	add(piece{ge(-5, 2, 0), ge(6, -2, 0)}, piece{eq(-3, 1, 0)})
	add(piece{ge(-5, 2, 0), ge(5, -2, 0)}, nil)
	add(piece{ge(-3, 1, 0), ge(9, -1, 0), ge(3, -1, 0)}, piece{eq(-3, 1, 0)})
	// Step 4.
	add(piece{eq(-3, 1, 1), eq(6, -2, -2)}, piece{eq(-3, 1, 1)})
	add(piece{eq(-3, 1, 1), eq(-4, 1, 1)}, nil)
	add(piece{eq(-3, 1, 1), ge(-3, 1, 1), ge(5, -1, -1)}, piece{eq(-3, 1, 1)})
	add(piece{eq(-3, 1, 1), ge(-4, 1, 1)}, nil)
	add(piece{eq(-3, 1, 1), ge(2, -1, -1)}, nil)
	add(piece{ge(-3, 1, 1), ge(3, -1, -1), eq(-4, 1, 1)}, nil)
	add(piece{ge(-3, 1, 1), ge(3, -1, -1), eq(-3, 1, 1), ge(0, 1, 0)}, piece{eq(-3, 1, 1), ge(0, 1, 0)})
	// Steps 5 and 6.
	add(piece{div(3, 1, 1, 0), div(2, 1, 1, 0), div(6, 2, 2, 0), ge(1, 1, 0), eq(0, 0, 5), ge(1, 0, 1)}, piece{eq(0, 0, 1), ge(1, 1, 0), div(2, 1, 1, 0), div(3, 1, 1, 0)})
	add(piece{div(3, 0, 1, 0), div(3, 1, 1, 0)}, piece{div(3, 0, 1, 0), div(3, 1, 1, 0)})
	add(piece{div(5, 4, 0, 1), div(5, 3, 0, 1), div(5, 9, 5, 6), div(5, 0, 1, 0), eq(1, 1, -1), eq(3, 0, 1)}, piece{eq(3, 0, 1), eq(1, 1, -1), div(5, 3, 0, 1), div(5, 4, 0, 1), div(5, 0, 1, 0)})
	// A condition beyond the limits that falls away.
	add(piece{ge(most, 1, 0), ge(-most, -1, 0)}, piece{eq(most, 1, 0)})
	return l
}

// P4.3, P4.8.
func TestNormalPieces(t *testing.T) {
	all, want := of(2), of(2)
	for _, x := range pieces() {
		s, e := set.Normal(of(2, x[0]))
		p, void, f := set.Simple(x[0], 2)
		w := of(2, x[1])
		if x[1] == nil {
			w = of(2)
		}
		check(t, "Normal", s, e, w, api.OK)
		if f != api.OK || void != (x[1] == nil) || !samePiece(p, x[1]) {
			t.Errorf("Simple(%v) = %v, %v, %d", x[0], p, void, f)
		}
		all.Pieces = append(all.Pieces, x[0], x[0])
		if x[1] != nil && !slices.ContainsFunc(want.Pieces, func(p piece) bool { return samePiece(p, x[1]) }) {
			want.Pieces = append(want.Pieces, x[1])
		}
	}
	s, e := set.Normal(all)
	check(t, "Normal of all", s, e, want, api.OK)
}

// Pieces that differ in one number only are different.
func TestNearlyEqual(t *testing.T) {
	s := of(2, piece{ge(1, 1, 0)}, piece{eq(1, 1, 0)}, piece{div(5, 1, 1, 0)}, piece{div(7, 1, 1, 0)}, piece{ge(2, 1, 0)}, piece{ge(1, 0, 1)}, piece{ge(1, 1, 1)}, piece{ge(-1, 1, 0)}, piece{ge(1, -1, 0)}, piece{ge(129, 1, 0)}, piece{ge(1<<14+1, 1, 0)})
	n, e := set.Normal(s)
	check(t, "Normal", n, e, s, api.OK)
}

func TestNormalErrors(t *testing.T) {
	for _, s := range bad() {
		r, e := set.Normal(s)
		check(t, "Normal", r, e, api.Set{}, api.ErrArg)
	}
}

func TestSimpleErrors(t *testing.T) {
	many := make(piece, 385)
	for _, x := range []struct {
		p piece
		n int
		e api.Errno
	}{
		{nil, 12, api.OK}, {nil, 0, api.OK}, {many, -1, api.ErrRange}, {nil, 13, api.ErrRange}, {nil, math.MinInt, api.ErrRange}, {many, 1, api.ErrFull}, {append(many, api.Cond{Kind: 9}), 0, api.ErrFull},
		{piece{ge(0), {Kind: 9}}, 1, api.ErrArg}, {piece{ge(0, 1), ge(0)}, 1, api.ErrDim}, {piece{ge(most+1, 1)}, 2, api.ErrArg}, {piece{ge(0, 1)}, 0, api.ErrDim},
	} {
		if p, void, e := set.Simple(x.p, x.n); len(p) != 0 || void || e != x.e {
			t.Errorf("Simple of %d, %d: %v, %v, %d", len(x.p), x.n, p, void, e)
		}
	}
	if p, void, e := set.Simple(many[:384], 0); len(p) != 0 || void || e != api.OK {
		t.Errorf("Simple of true ones: %v, %v, %d", p, void, e)
	}
	// 97 different conditions are too many, unless the piece is void.
	wide := piece{}
	for i := range 97 {
		wide = append(wide, ge(0, 1, i))
	}
	if p, void, e := set.Simple(wide, 2); len(p) != 0 || void || e != api.ErrFull {
		t.Errorf("Simple of 97: %v, %v, %d", p, void, e)
	}
	if p, void, e := set.Simple(wide[:96], 2); len(p) != 96 || void || e != api.OK {
		t.Errorf("Simple of 96: %v, %v, %d", p, void, e)
	}
	if p, void, e := set.Simple(append(wide, ge(-1, 0, 0)), 2); len(p) != 0 || !void || e != api.OK {
		t.Errorf("Simple of a void one: %v, %v, %d", p, void, e)
	}
	if p, void, e := set.Simple(append(wide, ge(-1, -1, -96)), 2); len(p) != 0 || !void || e != api.OK {
		t.Errorf("Simple of opposites: %v, %v, %d", p, void, e)
	}
}

// P4.4.
func TestUnionMeet(t *testing.T) {
	a := of(1, piece{ge(0, 1), ge(5, -1)}, piece{eq(-9, 1)}, piece{ge(-1, 0)})
	b := of(1, piece{ge(10, -2), ge(0, 3)}, piece{ge(-2, 1)}, piece{eq(18, -2)})
	s, e := set.Union(a, b)
	check(t, "Union", s, e, of(1, piece{ge(5, -1), ge(0, 1)}, piece{eq(-9, 1)}, piece{ge(-2, 1)}), api.OK)
	s, e = set.Meet(a, b)
	check(t, "Meet", s, e, of(1, piece{ge(5, -1), ge(0, 1)}, piece{ge(5, -1), ge(-2, 1)}, piece{eq(-9, 1)}), api.OK)
	s, e = set.Meet(a, of(1))
	check(t, "Meet with none", s, e, of(1), api.OK)
	s, e = set.Union(of(0, nil), of(0, nil))
	check(t, "Union of whole ones", s, e, of(0, nil), api.OK)
	s, e = set.Union(of(1), of(2))
	check(t, "Union", s, e, api.Set{}, api.ErrDim)
	s, e = set.Meet(of(1), of(2))
	check(t, "Meet", s, e, api.Set{}, api.ErrDim)
	s, e = set.Minus(of(1), of(2))
	check(t, "Minus", s, e, api.Set{}, api.ErrDim)
	for _, x := range bad() {
		for _, f := range []func(a, b api.Set) (api.Set, api.Errno){set.Union, set.Meet, set.Minus} {
			s, e = f(x, of(5))
			check(t, "first", s, e, api.Set{}, api.ErrArg)
			s, e = f(of(5), x)
			check(t, "second", s, e, api.Set{}, api.ErrArg)
		}
	}
}

func TestLimits(t *testing.T) {
	s, e := set.Union(full(400, 0), full(400, 0))
	check(t, "Union of 400", s, e, full(400, 0), api.OK)
	s, e = set.Union(full(200, 0), full(201, 200))
	check(t, "Union of 401", s, e, api.Set{}, api.ErrFull)
	grid := func(n, m int) (api.Set, api.Set) {
		a, b := of(2), of(2)
		for i := range n {
			a.Pieces = append(a.Pieces, piece{eq(-i, 1, 0)})
		}
		for i := range m {
			b.Pieces = append(b.Pieces, piece{eq(-i, 0, 1)})
		}
		return a, b
	}
	a, b := grid(20, 20)
	if s, e := set.Meet(a, b); len(s.Pieces) != 400 || e != api.OK {
		t.Errorf("Meet of 20 by 20: %d pieces, %d", len(s.Pieces), e)
	}
	a, b = grid(3, 134)
	s, e = set.Meet(a, b)
	check(t, "Meet of 3 by 134", s, e, api.Set{}, api.ErrFull)
	// Of 160000 pairs all but 400 are void.
	s, e = set.Meet(full(400, 0), full(400, 0))
	check(t, "Meet of 400 by 400", s, e, full(400, 0), api.OK)
	long := func(from, n int) api.Set {
		p := piece{}
		for i := range n {
			p = append(p, ge(0, 1, from+i))
		}
		return of(2, p)
	}
	s, e = set.Meet(long(0, 60), long(60, 37))
	check(t, "Meet of 97 conditions", s, e, api.Set{}, api.ErrFull)
	if s, e := set.Meet(long(0, 60), long(60, 36)); e != api.OK || len(s.Pieces[0]) != 96 {
		t.Errorf("Meet of 96 conditions: %d", e)
	}
	void := long(60, 37)
	void.Pieces[0] = append(void.Pieces[0], ge(-1, -1, 0))
	s, e = set.Meet(long(0, 60), void)
	check(t, "Meet of 98 conditions that is void", s, e, of(2), api.OK)
}

// P4.5.
func TestMinus(t *testing.T) {
	for _, x := range []struct{ a, b, r api.Set }{
		{of(1, piece{ge(0, 1), ge(5, -1)}), of(1, piece{ge(-2, 1), ge(3, -1)}), of(1, piece{ge(5, -1), ge(-4, 1)}, piece{ge(1, -1), ge(0, 1)})},
		{of(1, nil), of(1, nil), of(1)}, {of(1, nil), of(1), of(1, nil)}, {of(0, nil), of(0, nil), of(0)}, {of(1), of(1, nil), of(1)},
		{of(1, piece{ge(0, 1)}), of(1, piece{ge(-1, -1)}), of(1, piece{ge(0, 1)})},
		{of(1, nil), of(1, piece{eq(-3, 1)}), of(1, piece{ge(-4, 1)}, piece{ge(2, -1)})},
		{of(1, nil), of(1, piece{div(3, 0, 1)}), of(1, piece{div(3, 2, 1)}, piece{div(3, 1, 1)})},
		{of(1, nil), of(1, piece{ge(-1, 0)}), of(1, nil)},
		// The order of the conditions of the second set does not matter, because it is normalized; every piece is replaced in its place.
		{of(2, piece{ge(0, 1, 0)}, piece{ge(0, 0, 1), ge(-9, -1, 0)}), of(2, piece{ge(-2, 1, 0), eq(0, 0, 2)}), of(2, piece{ge(-1, 0, 1), ge(0, 1, 0)}, piece{ge(-1, 0, -1), ge(0, 1, 0)}, piece{eq(0, 0, 1), ge(1, -1, 0), ge(0, 1, 0)}, piece{ge(-9, -1, 0), ge(0, 0, 1)})},
		// A new piece that is equal to one that is kept is removed.
		{of(1, piece{ge(-4, 1)}, piece{ge(0, 1)}), of(1, piece{ge(3, -1)}), of(1, piece{ge(-4, 1)})},
		// The second piece of b meets what the first one left.
		{of(1, piece{ge(0, 1), ge(9, -1)}), of(1, piece{eq(-3, 1)}, piece{eq(-4, 1)}, piece{eq(-20, 1)}), of(1, piece{ge(9, -1), ge(-5, 1)}, piece{ge(2, -1), ge(0, 1)})},
	} {
		s, e := set.Minus(x.a, x.b)
		check(t, "Minus", s, e, x.r, api.OK)
	}
}

func TestMinusLimits(t *testing.T) {
	s, e := set.Minus(of(1, nil), of(1, piece{ge(most, 1)}))
	check(t, "Minus of a condition that cannot be negated", s, e, api.Set{}, api.ErrFull)
	s, e = set.Minus(of(1, nil), of(1, piece{div(450, 0, 1)}))
	check(t, "Minus of too many rests", s, e, api.Set{}, api.ErrFull)
	// It is not negated where nothing meets it.
	s, e = set.Minus(of(1, piece{ge(-most, -1)}), of(1, piece{ge(most-1, 1)}))
	check(t, "Minus of a piece apart", s, e, of(1, piece{ge(-most, -1)}), api.OK)
	s, e = set.Minus(of(1, piece{eq(0, 1)}), of(1, piece{ge(most, 1)}))
	check(t, "Minus", s, e, api.Set{}, api.ErrFull)
	if s, e := set.Minus(of(1, nil), of(1, piece{div(401, 0, 1)})); e != api.OK || len(s.Pieces) != 400 {
		t.Errorf("Minus of 400 rests: %d", e)
	}
	s, e = set.Minus(of(2, nil), of(2, piece{div(201, 0, 1, 0), div(202, 0, 0, 1)}))
	check(t, "Minus of 401 rests", s, e, api.Set{}, api.ErrFull)
	p := piece{}
	for i := range 96 {
		p = append(p, ge(0, 1, i))
	}
	s, e = set.Minus(of(2, p), of(2, piece{ge(0, 1, 96)}))
	check(t, "Minus of 97 conditions", s, e, api.Set{}, api.ErrFull)
}

// P4.6.
func TestWhere(t *testing.T) {
	a := of(2, piece{ge(0, 1, 0)}, piece{ge(9, 0, -1)})
	s, e := set.Where(a, piece{ge(-3, 0, 2), ge(4, -1, 0)})
	check(t, "Where", s, e, of(2, piece{ge(4, -1, 0), ge(-2, 0, 1), ge(0, 1, 0)}, piece{ge(4, -1, 0), ge(9, 0, -1), ge(-2, 0, 1)}), api.OK)
	s, e = set.Where(a, nil)
	check(t, "Where of none", s, e, a, api.OK)
	s, e = set.Where(a, piece{ge(-1, 0, 0)})
	check(t, "Where of a void piece", s, e, of(2), api.OK)
	s, e = set.Where(a, piece{ge(0, 1), {Kind: 4}})
	check(t, "Where", s, e, api.Set{}, api.ErrArg)
	s, e = set.Where(a, piece{ge(0, 1, 1), ge(0, 1)})
	check(t, "Where", s, e, api.Set{}, api.ErrDim)
	for _, x := range bad() {
		s, e = set.Where(x, piece{ge(0, 1, 2, 3)})
		check(t, "Where", s, e, api.Set{}, api.ErrArg)
	}
}

func TestFix(t *testing.T) {
	const far = api.MaxCoord
	a := of(2, piece{ge(0, 1, 0), ge(5, -1, 2)}, piece{div(6, 1, 3, 2)}, piece{eq(1, 2, -4)}, piece{eq(0, 2, -4)})
	s, e := set.Fix(a, 0, 3)
	check(t, "Fix", s, e, of(1, piece{ge(1, 1)}, piece{div(3, 2, 1)}), api.OK)
	s, e = set.Fix(a, 1, 1)
	check(t, "Fix", s, e, of(1, piece{ge(7, -1), ge(0, 1)}, piece{div(2, 1, 1)}, piece{eq(-2, 1)}), api.OK)
	s, e = set.Fix(of(1, piece{ge(far>>13, -1)}), 0, far>>13)
	check(t, "Fix", s, e, of(0, nil), api.OK)
	s, e = set.Fix(of(1, piece{ge(0, most)}), 0, -far)
	check(t, "Fix of a void piece", s, e, of(0), api.OK)
	s, e = set.Fix(of(2, piece{ge(0, most, 1)}), 0, -far)
	check(t, "Fix beyond", s, e, api.Set{}, api.ErrFull)
	s, e = set.Fix(of(2, piece{ge(0, 1, 1)}), 0, most)
	check(t, "Fix at the limit", s, e, of(1, piece{ge(most, 1)}), api.OK)
	s, e = set.Fix(of(2, piece{ge(0, 1, 1)}), 0, most+1)
	check(t, "Fix beyond", s, e, api.Set{}, api.ErrFull)
	s, e = set.Fix(of(2, piece{ge(0, 1, 1), ge(-1, 0, 0)}), 0, most+1)
	check(t, "Fix of a void piece", s, e, of(1), api.OK)
	s, e = set.Fix(of(2, piece{ge(0, 1, 1), ge(0, 0, -1), ge(-5, 0, 1)}), 0, most+1)
	check(t, "Fix of a void piece", s, e, of(1), api.OK)
	s, e = set.Fix(of(2, piece{ge(0, 1, 1), ge(5, 0, 1)}), 0, most+1)
	check(t, "Fix of a condition beyond that another one implies", s, e, api.Set{}, api.ErrFull)
	s, e = set.Fix(of(2, piece{ge(0, most, most)}), 0, far)
	check(t, "Fix beyond", s, e, api.Set{}, api.ErrFull)
	s, e = set.Fix(of(2, piece{div(512, 3, most, 5)}), 0, far)
	check(t, "Fix of Div", s, e, of(1, piece{div(512, 3, 5)}), api.OK)
	for _, x := range []struct{ i, v int }{{-1, 0}, {2, 0}, {math.MinInt, 0}, {0, far + 1}, {1, -far - 1}, {0, math.MinInt}} {
		s, e = set.Fix(a, x.i, x.v)
		check(t, "Fix", s, e, api.Set{}, api.ErrRange)
	}
	s, e = set.Fix(of(0, nil), 0, 0)
	check(t, "Fix", s, e, api.Set{}, api.ErrRange)
	for _, x := range bad() {
		s, e = set.Fix(x, 50, 0)
		check(t, "Fix", s, e, api.Set{}, api.ErrArg)
	}
}

// P4.7.
func TestRoomTurn(t *testing.T) {
	a := of(2, piece{ge(5, 4, 2), ge(5, 4, 2), ge(-1, 0, 0)}, piece{div(6, 1, 3, 2)}, piece{div(6, 1, 3, 2)})
	s, e := set.Room(a, 1, 2)
	check(t, "Room", s, e, of(4, piece{ge(5, 4, 0, 0, 2), ge(5, 4, 0, 0, 2), ge(-1, 0, 0, 0, 0)}, piece{div(6, 1, 3, 0, 0, 2)}, piece{div(6, 1, 3, 0, 0, 2)}), api.OK)
	s, e = set.Room(a, 2, 1)
	check(t, "Room", s, e, of(3, piece{ge(5, 4, 2, 0), ge(5, 4, 2, 0), ge(-1, 0, 0, 0)}, piece{div(6, 1, 3, 2, 0)}, piece{div(6, 1, 3, 2, 0)}), api.OK)
	s, e = set.Room(a, 0, 0)
	check(t, "Room", s, e, a, api.OK)
	s, e = set.Room(of(0, nil), 0, 12)
	check(t, "Room", s, e, of(12, nil), api.OK)
	for _, x := range []struct {
		i, k int
		e    api.Errno
	}{{-1, 0, api.ErrRange}, {3, 0, api.ErrRange}, {0, -1, api.ErrRange}, {3, 50, api.ErrRange}, {0, 11, api.ErrFull}, {0, math.MaxInt, api.ErrFull}, {0, math.MinInt, api.ErrRange}} {
		s, e = set.Room(a, x.i, x.k)
		check(t, "Room", s, e, api.Set{}, x.e)
	}
	b := of(3, piece{ge(5, 1, 2, 3), ge(5, 1, 2, 3)}, piece{eq(0, 0, 0, 2)})
	s, e = set.Turn(b, []int{2, 0, 1})
	check(t, "Turn", s, e, of(3, piece{ge(5, 3, 1, 2), ge(5, 3, 1, 2)}, piece{eq(0, 2, 0, 0)}), api.OK)
	s, e = set.Turn(of(0, nil), nil)
	check(t, "Turn", s, e, of(0, nil), api.OK)
	for _, x := range []struct {
		l []int
		e api.Errno
	}{{[]int{0, 1}, api.ErrDim}, {[]int{0, 1, 2, 3}, api.ErrDim}, {nil, api.ErrDim}, {[]int{0, 1, 1}, api.ErrRange}, {[]int{0, 1, 3}, api.ErrRange}, {[]int{0, -1, 2}, api.ErrRange}, {[]int{0, math.MaxInt, 2}, api.ErrRange}} {
		s, e = set.Turn(b, x.l)
		check(t, "Turn", s, e, api.Set{}, x.e)
	}
	for _, x := range bad() {
		s, e = set.Room(x, 50, -1)
		check(t, "Room", s, e, api.Set{}, api.ErrArg)
		s, e = set.Turn(x, []int{9, 9})
		check(t, "Turn", s, e, api.Set{}, api.ErrArg)
	}
}

// some returns a random set over two variables.
func some(r *rand.Rand, pieces, conds int) api.Set {
	s := of(2)
	for range r.Intn(pieces + 1) {
		p := piece{}
		for range r.Intn(conds + 1) {
			c := ge(r.Intn(17)-8, r.Intn(7)-3, r.Intn(7)-3)
			switch r.Intn(6) {
			case 0:
				c.Kind = api.Eq
			case 1:
				c.Kind, c.M = api.Div, r.Intn(5)+1
			}
			p = append(p, c)
		}
		s.Pieces = append(s.Pieces, p)
	}
	return s
}

func has(t *testing.T, s api.Set, x ...int) bool {
	t.Helper()
	h, e := set.Has(s, x)
	if e != api.OK {
		t.Fatalf("Has(%v, %v): %d", s, x, e)
	}
	return h
}

func box(f func(i, j int)) {
	for i := -8; i <= 8; i++ {
		for j := -8; j <= 8; j++ {
			f(i, j)
		}
	}
}

// P4.9, P4.10, P4.11.
func TestPoints(t *testing.T) {
	r := rand.New(rand.NewSource(4))
	normal := func(s api.Set, e api.Errno) api.Set {
		t.Helper()
		if e != api.OK {
			t.Fatal(e)
		}
		if n, e := set.Normal(s); e != api.OK || !same(n, s) {
			t.Fatalf("%v is not normalized: %v, %d", s, n, e)
		}
		return s
	}
	for range 300 {
		a, b := some(r, 3, 4), some(r, 3, 4)
		ac, bc := clone(a), clone(b)
		n, u, m, d := normal(set.Normal(a)), normal(set.Union(a, b)), normal(set.Meet(a, b)), normal(set.Minus(a, b))
		whole, _ := set.Whole(2)
		rest := normal(set.Minus(whole, b))
		v, i := r.Intn(9)-4, r.Intn(2)
		f := normal(set.Fix(a, i, v))
		box(func(x, y int) {
			in, also := has(t, a, x, y), has(t, b, x, y)
			if has(t, n, x, y) != in || has(t, u, x, y) != (in || also) || has(t, m, x, y) != (in && also) || has(t, d, x, y) != (in && !also) || has(t, rest, x, y) == also {
				t.Fatalf("%v, %v at %d, %d", a, b, x, y)
			}
			at := []int{x, y}
			if at[i] == v && has(t, f, at[1-i]) != in {
				t.Fatalf("Fix(%v, %d, %d) at %d, %d", a, i, v, x, y)
			}
		})
		if !same(a, ac) || !same(b, bc) {
			t.Fatal("an argument was changed")
		}
	}
}

// plain normalizes a piece step by step, as the chapter says it.
func plain(t *testing.T, p piece) (r piece, void bool) {
	for _, c := range p {
		n, v, e := cond.Normal(c)
		if e != api.OK {
			t.Fatal(e)
		}
		if v == -1 {
			return nil, true
		}
		if v == 0 {
			r = append(r, n)
		}
	}
	remove := func(gone func(i int, c api.Cond) bool) {
		var l piece
		for i, c := range r {
			if !gone(i, c) {
				l = append(l, c)
			}
		}
		r = l
	}
	remove(func(i int, c api.Cond) bool {
		return c.Kind == api.Ge && slices.ContainsFunc(r, func(d api.Cond) bool {
			return d.Kind == api.Ge && slices.Equal(c.L.C, d.L.C) && d.L.K < c.L.K
		})
	})
	minus := func(l []int) []int {
		m := slices.Clone(l)
		for i := range m {
			m[i] = -m[i]
		}
		return m
	}
	for i := range r {
		for j := i + 1; j < len(r); j++ {
			if r[i].Kind == api.Ge && r[j].Kind == api.Ge && slices.Equal(r[i].L.C, minus(r[j].L.C)) {
				if r[i].L.K+r[j].L.K < 0 {
					return nil, true
				}
				if r[i].L.K+r[j].L.K == 0 {
					r[i].Kind, r[j].Kind = api.Eq, api.Eq
					r[i], _, _ = cond.Normal(r[i])
					r[j] = r[i]
				}
			}
		}
	}
	for _, c := range r {
		for _, d := range r {
			if c.Kind != api.Eq || d.Kind == api.Div {
				continue
			}
			equal, opposite := slices.Equal(c.L.C, d.L.C), slices.Equal(c.L.C, minus(d.L.C))
			if d.Kind == api.Eq && equal && c.L.K != d.L.K || d.Kind == api.Ge && (equal && d.L.K < c.L.K || opposite && d.L.K+c.L.K < 0) {
				return nil, true
			}
		}
	}
	remove(func(i int, d api.Cond) bool {
		return d.Kind == api.Ge && slices.ContainsFunc(r, func(c api.Cond) bool {
			return c.Kind == api.Eq && (slices.Equal(c.L.C, d.L.C) || slices.Equal(c.L.C, minus(d.L.C)))
		})
	})
	remove(func(i int, c api.Cond) bool {
		return slices.ContainsFunc(r[:i], func(d api.Cond) bool { return sameCond(c, d) })
	})
	slices.SortFunc(r, func(a, b api.Cond) int {
		n, _ := cond.Compare(a, b)
		return n
	})
	return r, false
}

// P4.8, against the steps of the chapter.
func TestSteps(t *testing.T) {
	r := rand.New(rand.NewSource(5))
	voids := 0
	for range 3000 {
		p := piece{}
		for range r.Intn(9) {
			c := ge(r.Intn(9)-4, r.Intn(5)-2, r.Intn(3)-1)
			switch r.Intn(4) {
			case 0:
				c.Kind = api.Eq
			case 1:
				c.Kind, c.M = api.Div, r.Intn(5)+1
			}
			p = append(p, c)
		}
		want, void := plain(t, slices.Clone(p))
		got, v, e := set.Simple(p, 2)
		if void {
			voids++
			want = nil
		}
		if e != api.OK || v != void || !samePiece(got, want) {
			t.Fatalf("Simple(%v) = %v, %v, %d; want %v, %v", p, got, v, e, want, void)
		}
	}
	if voids < 300 || voids > 2700 {
		t.Errorf("%d void pieces", voids)
	}
}

// Results are new memory.
func TestMemory(t *testing.T) {
	a := of(1, piece{ge(5, -1), ge(0, 1)}, piece{eq(-9, 1)})
	keep := clone(a)
	spoil := func(s api.Set, e api.Errno) {
		t.Helper()
		if e != api.OK {
			t.Fatal(e)
		}
		for _, p := range s.Pieces {
			for i := range p {
				for j := range p[i].L.C {
					p[i].L.C[j] = 77
				}
				p[i].L.K, p[i].Kind = 78, 5
			}
		}
		if !same(a, keep) {
			t.Fatal("a result shares memory with an argument")
		}
	}
	spoil(set.Normal(a))
	spoil(set.Union(a, a))
	spoil(set.Meet(a, of(1, nil)))
	spoil(set.Minus(a, of(1)))
	spoil(set.Minus(a, of(1, piece{eq(-9, 1)})))
	spoil(set.Room(a, 1, 0))
	spoil(set.Room(a, 0, 1))
	spoil(set.Turn(a, []int{0}))
	spoil(set.Where(a, a.Pieces[0]))
	p, _, _ := set.Simple(a.Pieces[0], 1)
	spoil(of(1, p), api.OK)
}
