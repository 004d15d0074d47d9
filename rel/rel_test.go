package rel_test

import (
	"headland/api"
	"headland/rel"
	"headland/set"
	"math"
	"math/rand"
	"slices"
	"testing"
)

const far = api.MaxCoord

func ge(k int, c ...int) api.Cond { return api.Cond{Kind: api.Ge, L: api.Lin{C: c, K: k}} }
func eq(k int, c ...int) api.Cond { return api.Cond{Kind: api.Eq, L: api.Lin{C: c, K: k}} }
func div(m, k int, c ...int) api.Cond {
	return api.Cond{Kind: api.Div, M: m, L: api.Lin{C: c, K: k}}
}

type piece = []api.Cond

func of(dim int, pieces ...piece) api.Set { return api.Set{Dim: dim, Pieces: pieces} }

func pairs(in, out int, pieces ...piece) api.Rel { return api.Rel{In: in, Out: out, Pieces: pieces} }

func samePieces(a, b []piece) bool {
	return slices.EqualFunc(a, b, func(p, q piece) bool {
		return slices.EqualFunc(p, q, func(a, b api.Cond) bool {
			return a.Kind == b.Kind && a.M == b.M && a.L.K == b.L.K && slices.Equal(a.L.C, b.L.C)
		})
	})
}

func checkRel(t *testing.T, what string, r api.Rel, e api.Errno, want api.Rel, we api.Errno) {
	t.Helper()
	if e != we || r.In != want.In || r.Out != want.Out || !samePieces(r.Pieces, want.Pieces) {
		t.Errorf("%s: %v, %d; want %v, %d", what, r, e, want, we)
	}
}

func checkSet(t *testing.T, what string, s api.Set, e api.Errno, want api.Set, we api.Errno) {
	t.Helper()
	if e != we || s.Dim != want.Dim || !samePieces(s.Pieces, want.Pieces) {
		t.Errorf("%s: %v, %d; want %v, %d", what, s, e, want, we)
	}
}

func bad() []api.Rel {
	return []api.Rel{{In: -1, Out: 1}, {In: 1, Out: -1}, {In: 7, Out: 6}, {In: math.MaxInt, Out: math.MaxInt}, {In: math.MaxInt, Out: 1}, {In: math.MinInt, Out: math.MinInt}, pairs(1, 1, piece{ge(0, 1)}), pairs(1, 0, piece{{Kind: 3, L: api.Lin{C: []int{1}}}})}
}

func twice() api.Rel { return pairs(1, 1, piece{eq(0, -2, 1)}) }

// P7.1.
func TestValidSetOf(t *testing.T) {
	for _, r := range bad() {
		s, e := rel.Set(r)
		if rel.Valid(r) {
			t.Errorf("%v is valid", r)
		}
		checkSet(t, "Set", s, e, api.Set{}, api.ErrArg)
	}
	raw := pairs(1, 2, piece{ge(4, 2, 4, 6), ge(4, 2, 4, 6)}, piece{ge(-1, 0, 0, 0)}, nil, nil)
	for _, r := range []api.Rel{{}, pairs(12, 0), pairs(0, 12, nil), pairs(6, 6), raw} {
		s, e := rel.Set(r)
		if !rel.Valid(r) {
			t.Errorf("%v is not valid", r)
		}
		checkSet(t, "Set", s, e, of(r.In+r.Out, r.Pieces...), api.OK)
		for in := range r.In + r.Out + 1 {
			q, e := rel.Of(s, in)
			checkRel(t, "Of", q, e, pairs(in, r.In+r.Out-in, r.Pieces...), api.OK)
		}
	}
	for _, in := range []int{-1, 3, math.MinInt, math.MaxInt} {
		r, e := rel.Of(of(2), in)
		checkRel(t, "Of", r, e, api.Rel{}, api.ErrRange)
		r, e = rel.Of(of(13), in)
		checkRel(t, "Of", r, e, api.Rel{}, api.ErrArg)
	}
}

// P7.2.
func TestHas(t *testing.T) {
	for _, x := range []struct {
		r    api.Rel
		x, y []int
		h    bool
		e    api.Errno
	}{
		{twice(), []int{3}, []int{6}, true, api.OK}, {twice(), []int{6}, []int{3}, false, api.OK}, {pairs(0, 0, nil), nil, nil, true, api.OK}, {pairs(0, 0), nil, nil, false, api.OK},
		{twice(), nil, []int{3}, false, api.ErrDim}, {twice(), []int{3, 6}, nil, false, api.ErrDim}, {twice(), []int{3}, []int{far + 1, 1}, false, api.ErrDim}, {twice(), nil, []int{3, 6}, false, api.ErrDim},
		{twice(), []int{far + 1}, []int{3}, false, api.ErrRange}, {twice(), []int{3}, []int{-far - 1}, false, api.ErrRange}, {pairs(1, 1), []int{3}, []int{math.MinInt}, false, api.ErrRange},
	} {
		if h, e := rel.Has(x.r, x.x, x.y); h != x.h || e != x.e {
			t.Errorf("Has(%v, %v, %v) = %v, %d", x.r, x.x, x.y, h, e)
		}
	}
	for _, r := range bad() {
		if h, e := rel.Has(r, []int{far + 1}, nil); h || e != api.ErrArg {
			t.Errorf("Has(%v): %v, %d", r, h, e)
		}
	}
}

// P7.3, P7.4.
func TestInverseDomainRange(t *testing.T) {
	a := pairs(2, 1, piece{ge(5, 1, 2, 3), ge(5, 1, 2, 3)}, piece{div(4, 1, 2, 2, 2)})
	r, e := rel.Inverse(a)
	checkRel(t, "Inverse", r, e, pairs(1, 2, piece{ge(5, 3, 1, 2), ge(5, 3, 1, 2)}, piece{div(4, 1, 2, 2, 2)}), api.OK)
	r, e = rel.Inverse(pairs(0, 2, piece{ge(5, 1, 2)}))
	checkRel(t, "Inverse", r, e, pairs(2, 0, piece{ge(5, 1, 2)}), api.OK)
	s, e := rel.Range(twice())
	checkSet(t, "Range", s, e, of(1, piece{div(2, 0, 1)}), api.OK)
	s, e = rel.Domain(twice())
	checkSet(t, "Domain", s, e, of(1, nil), api.OK)
	raw := piece{ge(4, 2, 2), ge(4, 2, 2)}
	s, e = rel.Domain(pairs(2, 0, raw))
	checkSet(t, "Domain without Out variables", s, e, of(2, raw), api.OK)
	s, e = rel.Range(pairs(2, 0, raw))
	checkSet(t, "Range without Out variables", s, e, of(0, nil), api.OK)
	s, e = rel.Range(pairs(0, 2, raw))
	checkSet(t, "Range without In variables", s, e, of(2, raw), api.OK)
	refused := pairs(1, 1, piece{eq(0, 600, 601)})
	s, e = rel.Range(refused)
	checkSet(t, "Range", s, e, api.Set{}, api.ErrFull)
	s, e = rel.Domain(refused)
	checkSet(t, "Domain", s, e, api.Set{}, api.ErrFull)
	for _, b := range bad() {
		r, e = rel.Inverse(b)
		checkRel(t, "Inverse", r, e, api.Rel{}, api.ErrArg)
		s, e = rel.Domain(b)
		checkSet(t, "Domain", s, e, api.Set{}, api.ErrArg)
		s, e = rel.Range(b)
		checkSet(t, "Range", s, e, api.Set{}, api.ErrArg)
	}
}

// P7.5.
func TestThen(t *testing.T) {
	r, e := rel.Then(twice(), twice())
	checkRel(t, "Then", r, e, pairs(1, 1, piece{eq(0, 4, -1)}), api.OK)
	// i -> (i, j) with j >= i, and (i, j) -> k with k = i + 3 j: the middle point is (x, y).
	a, b := pairs(1, 2, piece{eq(0, 1, -1, 0), ge(0, -1, 0, 1)}), pairs(2, 1, piece{eq(0, -1, -3, 1)})
	r, e = rel.Then(a, b)
	checkRel(t, "Then", r, e, pairs(1, 1, piece{ge(0, -4, 1), div(3, 0, 1, 2)}), api.OK)
	r, e = rel.Then(pairs(0, 0, nil), pairs(0, 0, nil))
	checkRel(t, "Then of nothing", r, e, pairs(0, 0, nil), api.OK)
	r, e = rel.Then(pairs(4, 4), pairs(4, 4))
	checkRel(t, "Then at the limit", r, e, pairs(4, 4), api.OK)
	r, e = rel.Then(pairs(4, 4), pairs(4, 5))
	checkRel(t, "Then beyond", r, e, api.Rel{}, api.ErrFull)
	r, e = rel.Then(pairs(6, 6), pairs(6, 1))
	checkRel(t, "Then beyond", r, e, api.Rel{}, api.ErrFull)
	r, e = rel.Then(pairs(6, 6), pairs(5, 6))
	checkRel(t, "Then", r, e, api.Rel{}, api.ErrDim)
	r, e = rel.Then(pairs(1, 1, piece{eq(0, 1, 600)}), pairs(1, 1, piece{eq(0, 601, 1)}))
	checkRel(t, "Then", r, e, api.Rel{}, api.ErrFull)
	many := pairs(1, 1)
	for i := range 201 {
		many.Pieces = append(many.Pieces, piece{eq(-i, 1, 0)})
	}
	r, e = rel.Then(many, pairs(1, 1, piece{ge(0, 0, 1)}, piece{ge(0, 0, -1)}))
	checkRel(t, "Then of many", r, e, api.Rel{}, api.ErrFull)
	for _, x := range bad() {
		r, e = rel.Then(x, pairs(5, 1))
		checkRel(t, "Then", r, e, api.Rel{}, api.ErrArg)
		r, e = rel.Then(pairs(5, 1), x)
		checkRel(t, "Then", r, e, api.Rel{}, api.ErrArg)
	}
}

// P7.6.
func TestOverImage(t *testing.T) {
	s := of(1, piece{ge(0, 1), ge(3, -1)}, piece{eq(-9, 1)})
	r, e := rel.Over(twice(), s)
	checkRel(t, "Over", r, e, pairs(1, 1, piece{eq(0, 2, -1), ge(3, -1, 0), ge(0, 1, 0)}, piece{eq(-9, 1, 0), eq(0, 2, -1)}), api.OK)
	m, e := rel.Image(twice(), s)
	checkSet(t, "Image", m, e, of(1, piece{ge(6, -1), ge(0, 1), div(2, 0, 1)}, piece{eq(-18, 1)}), api.OK)
	r, e = rel.Over(twice(), of(2))
	checkRel(t, "Over", r, e, api.Rel{}, api.ErrDim)
	m, e = rel.Image(twice(), of(0))
	checkSet(t, "Image", m, e, api.Set{}, api.ErrDim)
	m, e = rel.Image(pairs(1, 1, piece{eq(0, 600, 601)}), of(1, nil))
	checkSet(t, "Image", m, e, api.Set{}, api.ErrFull)
	many := of(1)
	for i := range 400 {
		many.Pieces = append(many.Pieces, piece{eq(-i, 1)})
	}
	r, e = rel.Over(pairs(1, 1, piece{ge(0, 0, 1)}, piece{ge(0, 0, -1)}), many)
	checkRel(t, "Over", r, e, api.Rel{}, api.ErrFull)
	for _, x := range bad() {
		r, e = rel.Over(x, of(9))
		checkRel(t, "Over", r, e, api.Rel{}, api.ErrArg)
		m, e = rel.Image(x, of(9))
		checkSet(t, "Image", m, e, api.Set{}, api.ErrArg)
	}
	r, e = rel.Over(twice(), of(13))
	checkRel(t, "Over", r, e, api.Rel{}, api.ErrArg)
	m, e = rel.Image(twice(), of(-1))
	checkSet(t, "Image", m, e, api.Set{}, api.ErrArg)
}

// P7.7.
func TestSameAhead(t *testing.T) {
	r, e := rel.Same(2)
	checkRel(t, "Same", r, e, pairs(2, 2, piece{eq(0, 0, 1, 0, -1), eq(0, 1, 0, -1, 0)}), api.OK)
	r, e = rel.Ahead(2)
	checkRel(t, "Ahead", r, e, pairs(2, 2, piece{ge(-1, -1, 0, 1, 0)}, piece{eq(0, 1, 0, -1, 0), ge(-1, 0, -1, 0, 1)}), api.OK)
	r, e = rel.Same(0)
	checkRel(t, "Same", r, e, pairs(0, 0, nil), api.OK)
	r, e = rel.Ahead(0)
	checkRel(t, "Ahead", r, e, pairs(0, 0), api.OK)
	if r, e := rel.Same(6); e != api.OK || r.In != 6 || len(r.Pieces[0]) != 6 {
		t.Errorf("Same(6): %v, %d", r, e)
	}
	if r, e := rel.Ahead(6); e != api.OK || r.Out != 6 || len(r.Pieces) != 6 {
		t.Errorf("Ahead(6): %v, %d", r, e)
	}
	for _, n := range []int{-1, 7, math.MinInt, math.MaxInt, 1 << 62, -1 << 62} {
		r, e = rel.Same(n)
		checkRel(t, "Same", r, e, api.Rel{}, api.ErrRange)
		r, e = rel.Ahead(n)
		checkRel(t, "Ahead", r, e, api.Rel{}, api.ErrRange)
	}
}

// P7.8.
func TestSingle(t *testing.T) {
	ahead, _ := rel.Ahead(2)
	same, _ := rel.Same(2)
	many := pairs(1, 1)
	for i := range 21 {
		many.Pieces = append(many.Pieces, piece{ge(-i, i+1, 1)})
	}
	for _, x := range []struct {
		r api.Rel
		b bool
		e api.Errno
	}{
		{many, false, api.ErrFull},
		{twice(), true, api.OK}, {same, true, api.OK}, {ahead, false, api.OK}, {pairs(1, 1), true, api.OK}, {pairs(1, 1, nil), false, api.OK}, {pairs(3, 0, nil), true, api.OK}, {pairs(0, 1, piece{eq(-4, 1)}), true, api.OK}, {pairs(0, 1, piece{eq(-4, 1)}, piece{eq(-5, 1)}), false, api.OK},
		{pairs(1, 1, piece{eq(0, 1, -2)}), true, api.OK}, {pairs(1, 1, piece{ge(0, -1, 3), ge(2, 1, -3)}), true, api.OK}, {pairs(1, 1, piece{ge(0, -1, 3), ge(3, 1, -3)}), false, api.OK},
		{pairs(1, 2, piece{eq(0, 1, -1, 0)}), false, api.OK}, {pairs(1, 2, piece{eq(0, 1, 0, -1)}), false, api.OK}, {pairs(1, 2, piece{eq(0, 1, 0, -1), eq(0, 0, 1, 1)}), true, api.OK},
		{pairs(4, 4), true, api.OK}, {pairs(5, 4), false, api.ErrFull}, {pairs(2, 6), false, api.ErrFull}, {pairs(0, 6), true, api.OK}, {pairs(10, 1, piece{}), false, api.OK}, {pairs(11, 1), false, api.ErrFull},
		{pairs(1, 1, piece{ge(0, 23, 509), ge(9, -29, -503), ge(0, 31, -499), ge(9, 37, -491)}), false, api.ErrFull},
	} {
		if b, e := rel.Single(x.r); b != x.b || e != x.e {
			t.Errorf("Single(%v) = %v, %d", x.r, b, e)
		}
	}
	for _, r := range bad() {
		if b, e := rel.Single(r); b || e != api.ErrArg {
			t.Errorf("Single(%v): %v, %d", r, b, e)
		}
	}
}

func some(r *rand.Rand) api.Rel {
	q := pairs(1, 1)
	for range r.Intn(2) + 1 {
		p := piece{ge(4, 1, 0), ge(4, -1, 0), ge(4, 0, 1), ge(4, 0, -1)}
		for range r.Intn(3) {
			c := ge(r.Intn(7)-2, r.Intn(5)-2, r.Intn(5)-2)
			switch r.Intn(4) {
			case 0:
				c.Kind = api.Eq
			case 1:
				c.Kind, c.M = api.Div, 2+r.Intn(2)
			}
			p = append(p, c)
		}
		q.Pieces = append(q.Pieces, p)
	}
	return q
}

func has(t *testing.T, r api.Rel, x, y int) bool {
	t.Helper()
	h, e := rel.Has(r, []int{x}, []int{y})
	if e != api.OK {
		t.Fatal(e)
	}
	return h
}

func in(t *testing.T, s api.Set, x int) bool {
	t.Helper()
	h, e := set.Has(s, []int{x})
	if e != api.OK {
		t.Fatal(e)
	}
	return h
}

// P7.9, P7.10.
func TestPairs(t *testing.T) {
	r := rand.New(rand.NewSource(11))
	same, _ := rel.Same(1)
	for range 150 {
		a, b, s := some(r), some(r), of(1, piece{ge(r.Intn(4), 1), div(2, r.Intn(2), 1)})
		inv, e1 := rel.Inverse(a)
		back, e2 := rel.Inverse(inv)
		over, e3 := rel.Over(a, s)
		image, e4 := rel.Image(a, s)
		then, e5 := rel.Then(a, b)
		self, e6 := rel.Then(a, same)
		dom, e7 := rel.Domain(a)
		ran, e8 := rel.Range(a)
		one, e9 := rel.Single(a)
		if e1+e2+e3+e4+e5+e6+e7+e8+e9 != 0 {
			t.Fatal("an error")
		}
		single := true
		for x := -4; x <= 4; x++ {
			partner, source, reached, count := false, false, false, 0
			for y := -4; y <= 4; y++ {
				h := has(t, a, x, y)
				if h {
					partner, count = true, count+1
				}
				source = source || has(t, a, y, x)
				reached = reached || has(t, a, y, x) && in(t, s, y)
				middle := false
				for z := -4; z <= 4; z++ {
					middle = middle || has(t, a, x, z) && has(t, b, z, y)
				}
				if has(t, inv, y, x) != h || has(t, back, x, y) != h || has(t, over, x, y) != (h && in(t, s, x)) || has(t, then, x, y) != middle || has(t, self, x, y) != h {
					t.Fatalf("%v, %v, %v at %d, %d", a, b, s, x, y)
				}
			}
			single = single && count < 2
			if in(t, dom, x) != partner || in(t, ran, x) != source || in(t, image, x) != reached {
				t.Fatalf("%v, %v at %d", a, s, x)
			}
		}
		if one != single {
			t.Fatalf("Single(%v) = %v", a, one)
		}
	}
}

// P7.11.
func TestTotalOrder(t *testing.T) {
	ahead, _ := rel.Ahead(2)
	same, _ := rel.Same(2)
	if h, e := rel.Has(ahead, []int{0, 5}, []int{1, 0}); !h || e != api.OK {
		t.Errorf("example 3: %v, %d", h, e)
	}
	for i := range 81 {
		for j := range 81 {
			x, y := []int{i/9 - 4, i%9 - 4}, []int{j/9 - 4, j%9 - 4}
			a, _ := rel.Has(ahead, x, y)
			b, _ := rel.Has(ahead, y, x)
			c, _ := rel.Has(same, x, y)
			if want := slices.Compare(x, y); a != (want < 0) || b != (want > 0) || c != (want == 0) {
				t.Fatalf("%v, %v: %v, %v, %v", x, y, a, b, c)
			}
		}
	}
}

// Results are new memory.
func TestMemory(t *testing.T) {
	a := twice()
	s, _ := rel.Set(a)
	r, _ := rel.Of(s, 1)
	i, _ := rel.Inverse(a)
	d, _ := rel.Domain(pairs(2, 0, a.Pieces[0]))
	for _, p := range [][]piece{s.Pieces, r.Pieces, i.Pieces, d.Pieces} {
		p[0][0].L.C[0] = 99
		p[0][0].L.K = 98
	}
	checkRel(t, "the argument", a, api.OK, twice(), api.OK)
	checkSet(t, "the set", s, api.OK, of(2, piece{eq(98, 99, 1)}), api.OK)
}
