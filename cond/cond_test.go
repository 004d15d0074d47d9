package cond_test

import (
	"headland/api"
	"headland/cond"
	"math"
	"math/rand"
	"slices"
	"testing"
)

const most = api.MaxCoef

func ge(k int, c ...int) api.Cond { return api.Cond{Kind: api.Ge, L: api.Lin{C: c, K: k}} }
func eq(k int, c ...int) api.Cond { return api.Cond{Kind: api.Eq, L: api.Lin{C: c, K: k}} }
func div(m, k int, c ...int) api.Cond {
	return api.Cond{Kind: api.Div, M: m, L: api.Lin{C: c, K: k}}
}

func same(a, b api.Cond) bool {
	return a.Kind == b.Kind && a.M == b.M && a.L.K == b.L.K && slices.Equal(a.L.C, b.L.C)
}

func bad() []api.Cond {
	return []api.Cond{
		{Kind: 3}, {Kind: -1}, {Kind: math.MaxInt}, {Kind: api.Ge, M: 1}, {Kind: api.Eq, M: 2}, {Kind: api.Ge, M: -1},
		div(0, 1, 2), div(-1, 1, 2), div(513, 1, 2), div(math.MinInt, 0), ge(most+1, 1), eq(0, -most-1), div(2, 0, most+1), ge(0, make([]int, 13)...),
	}
}

// P3.1.
func TestValid(t *testing.T) {
	for _, c := range bad() {
		if cond.Valid(c) {
			t.Errorf("%v is valid", c)
		}
	}
	for _, c := range []api.Cond{{}, ge(most, -most), eq(-most, most), div(1, 3, 4), div(512, most), ge(0, make([]int, 12)...)} {
		if !cond.Valid(c) {
			t.Errorf("%v is not valid", c)
		}
	}
}

// P3.2.
func TestHolds(t *testing.T) {
	const far = api.MaxCoord
	for _, x := range []struct {
		c api.Cond
		x []int
		h bool
		e api.Errno
	}{
		{ge(-3, 2), []int{1}, false, api.OK}, {ge(-3, 2), []int{2}, true, api.OK}, {ge(-4, 2), []int{2}, true, api.OK}, {ge(0), nil, true, api.OK}, {ge(-1), nil, false, api.OK},
		{eq(4, -2), []int{2}, true, api.OK}, {eq(4, -2), []int{1}, false, api.OK}, {eq(4, -2), []int{3}, false, api.OK}, {eq(0), nil, true, api.OK},
		{div(6, 8, 4), []int{1}, true, api.OK}, {div(6, 8, 4), []int{-2}, true, api.OK}, {div(6, 8, 4), []int{2}, false, api.OK}, {div(3, 1, 1), []int{-4}, true, api.OK}, {div(3, 1, 1), []int{-3}, false, api.OK}, {div(1, 1, 1), []int{7}, true, api.OK},
		{ge(0, 1, 0), []int{far, -far}, true, api.OK}, {ge(0, 1), []int{far + 1}, false, api.ErrRange}, {ge(0, 0), []int{-far - 1}, false, api.ErrRange}, {ge(0, 1), nil, false, api.ErrDim}, {ge(0, 1), []int{1, far + 1}, false, api.ErrDim},
	} {
		if h, e := cond.Holds(x.c, x.x); h != x.h || e != x.e {
			t.Errorf("Holds(%v, %v) = %v, %d", x.c, x.x, h, e)
		}
	}
	for _, c := range bad() {
		if h, e := cond.Holds(c, []int{far + 1, 1, 2}); h || e != api.ErrArg {
			t.Errorf("Holds(%v): %v, %d", c, h, e)
		}
	}
}

// P3.3.
func TestNormal(t *testing.T) {
	none := api.Cond{}
	for _, x := range []struct {
		c, n api.Cond
		v    int
	}{
		{ge(-3, 2), ge(-2, 1), 0}, {ge(3, 2), ge(1, 1), 0}, {ge(3, -2), ge(1, -1), 0}, {ge(-7, 4, -6), ge(-4, 2, -3), 0}, {ge(5, 3, 2), ge(5, 3, 2), 0}, {ge(5, 0, 4), ge(1, 0, 1), 0},
		{ge(0), none, 1}, {ge(7, 0, 0), none, 1}, {ge(-1, 0), none, -1}, {ge(-most, most, -most), ge(-1, 1, -1), 0},
		{eq(4, -2), eq(-2, 1), 0}, {eq(1, 2), none, -1}, {eq(0, 0, -3), eq(0, 0, 1), 0}, {eq(6, -4, 2), eq(-3, 2, -1), 0}, {eq(-6, 4, 2), eq(-3, 2, 1), 0}, {eq(5, 0), none, -1}, {eq(0, 0), none, 1}, {eq(-5), none, -1}, {eq(3, 0, -2, 1), eq(-3, 0, 2, -1), 0},
		{div(6, 8, 4), div(3, 1, 2), 0}, {div(6, 9, 4), none, -1}, {div(6, -1, 5, -7), div(6, 5, 5, 5), 0}, {div(4, 2, 6, -2), div(2, 1, 1, 1), 0}, {div(4, 8, -4, 12), none, 1}, {div(4, 6, -4, 12), none, -1}, {div(1, 5, 3), none, 1},
		{div(5, 0), none, 1}, {div(5, 10), none, 1}, {div(5, -3), none, -1}, {div(512, -most, most, 1), div(512, 0, 0, 1), 0}, {div(7, -8, -8), div(7, 6, 6), 0}, {div(9, 3, 3, 6), div(3, 1, 1, 2), 0},
	} {
		if n, v, e := cond.Normal(x.c); !same(n, x.n) || v != x.v || e != api.OK {
			t.Errorf("Normal(%v) = %v, %d, %d", x.c, n, v, e)
		}
	}
	for _, c := range bad() {
		if n, v, e := cond.Normal(c); !same(n, none) || v != 0 || e != api.ErrArg {
			t.Errorf("Normal(%v) = %v, %d, %d", c, n, v, e)
		}
	}
}

// some returns a random condition over n variables.
func some(r *rand.Rand, n int) api.Cond {
	c := make([]int, n)
	for i := range c {
		c[i] = r.Intn(13) - 6
	}
	k := r.Intn(25) - 12
	switch r.Intn(3) {
	case 0:
		return ge(k, c...)
	case 1:
		return eq(k, c...)
	}
	return div(r.Intn(12)+1, k, c...)
}

func holds(t *testing.T, c api.Cond, x []int) bool {
	t.Helper()
	h, e := cond.Holds(c, x)
	if e != api.OK {
		t.Fatalf("Holds(%v, %v): %d", c, x, e)
	}
	return h
}

// box calls f with the points of two variables near 0.
func box(f func(x []int)) {
	for i := -9; i <= 9; i++ {
		for j := -9; j <= 9; j++ {
			f([]int{i, j})
		}
	}
}

// P3.6.
func TestEquivalence(t *testing.T) {
	r := rand.New(rand.NewSource(1))
	for range 600 {
		c := some(r, 2)
		n, v, e := cond.Normal(c)
		if e != api.OK {
			t.Fatalf("Normal(%v): %d", c, e)
		}
		box(func(x []int) {
			want := v == 1
			if v == 0 {
				want = holds(t, n, x)
			}
			if holds(t, c, x) != want {
				t.Fatalf("%v and %v, %d differ at %v", c, n, v, x)
			}
		})
		if v != 0 {
			continue
		}
		if m, v, e := cond.Normal(n); !same(m, n) || v != 0 || e != api.OK {
			t.Fatalf("Normal(%v) = %v, %d, %d", n, m, v, e)
		}
	}
}

// P3.4.
func TestNegate(t *testing.T) {
	always := ge(0, 0)
	for _, x := range []struct {
		c api.Cond
		l []api.Cond
	}{
		{ge(-3, 2), []api.Cond{ge(1, -1)}}, {ge(5, 3), []api.Cond{ge(-2, -1)}}, {ge(5, 0), nil}, {ge(-5, 0), []api.Cond{always}},
		{eq(-2, 1), []api.Cond{ge(-3, 1), ge(1, -1)}}, {eq(1, 2), []api.Cond{ge(0, 1), ge(-1, -1)}}, {eq(0, 0), nil}, {eq(4, 0), []api.Cond{always}}, {eq(-4, 0), []api.Cond{always}},
		{div(3, 1, 2), []api.Cond{div(3, 0, 2), div(3, 2, 2)}}, {div(4, 0, 2), []api.Cond{div(2, 1, 1)}}, {div(1, 1, 1), nil}, {div(4, 1, 2), []api.Cond{div(2, 0, 1), div(2, 1, 1)}},
		{div(4, 2, 0), []api.Cond{always}}, {div(4, 4, 0), nil}, {ge(-most, 1), []api.Cond{ge(most-1, -1)}}, {ge(most, 2), []api.Cond{ge(-most/2-1, -1)}},
	} {
		l, e := cond.Negate(x.c)
		if e != api.OK || !slices.EqualFunc(l, x.l, same) {
			t.Errorf("Negate(%v) = %v, %d", x.c, l, e)
		}
	}
	for _, c := range []api.Cond{ge(most, 1), eq(most, 1), eq(-most, 1), ge(most, 3, 2), div(402, 0, 1), div(512, 5, 7)} {
		if l, e := cond.Negate(c); len(l) != 0 || e != api.ErrFull {
			t.Errorf("Negate(%v): %d of them, %d", c, len(l), e)
		}
	}
	for m, n := range map[int]int{401: 400, 512: 255, 400: 399} {
		c := div(m, -most, 1)
		if m == 512 {
			c = div(m, 4, 2)
		}
		if l, e := cond.Negate(c); len(l) != n || e != api.OK {
			t.Errorf("Negate(%v): %d of them, %d", c, len(l), e)
		}
	}
	for _, c := range bad() {
		if l, e := cond.Negate(c); len(l) != 0 || e != api.ErrArg {
			t.Errorf("Negate(%v) = %v, %d", c, l, e)
		}
	}
}

// P3.7.
func TestComplement(t *testing.T) {
	r := rand.New(rand.NewSource(2))
	for range 600 {
		c := some(r, 2)
		l, e := cond.Negate(c)
		if e != api.OK {
			t.Fatalf("Negate(%v): %d", c, e)
		}
		for _, d := range l {
			if n, v, _ := cond.Normal(d); v == -1 || v == 0 && !same(n, d) || v == 1 && !same(d, ge(0, 0, 0)) {
				t.Fatalf("Negate(%v) has %v, which is not normalized", c, d)
			}
		}
		box(func(x []int) {
			n := 0
			for _, d := range append(l[:len(l):len(l)], c) {
				if holds(t, d, x) {
					n++
				}
			}
			if n != 1 {
				t.Fatalf("%d of %v and %v hold at %v", n, c, l, x)
			}
		})
	}
}

// P3.5.
func TestCompare(t *testing.T) {
	sorted := []api.Cond{eq(5, -1, 2), eq(3, 1, 1), eq(4, 1, 1), ge(9, -3, 0), ge(-9, 0, -1), ge(2, 0, 4), ge(3, 0, 4), div(2, 7, 5, 5), div(3, 0, -4, 1), div(3, 1, 0, 0), div(3, 2, 0, 0), div(4, -9, -9, -9)}
	for i, a := range sorted {
		for j, b := range sorted {
			want := 0
			if i < j {
				want = -1
			} else if i > j {
				want = 1
			}
			if n, e := cond.Compare(a, b); n != want || e != api.OK {
				t.Errorf("Compare(%v, %v) = %d, %d", a, b, n, e)
			}
		}
	}
	if n, e := cond.Compare(eq(1), ge(1, 2)); n != 0 || e != api.ErrDim {
		t.Errorf("Compare: %d, %d", n, e)
	}
	for _, c := range bad() {
		if n, e := cond.Compare(c, ge(0, 1, 2, 3)); n != 0 || e != api.ErrArg {
			t.Errorf("Compare(%v): %d, %d", c, n, e)
		}
		if n, e := cond.Compare(ge(0, 1, 2, 3), c); n != 0 || e != api.ErrArg {
			t.Errorf("Compare(.., %v): %d, %d", c, n, e)
		}
	}
}

// Results are new memory.
func TestMemory(t *testing.T) {
	c := ge(5, 3, 2)
	n, _, _ := cond.Normal(c)
	l, _ := cond.Negate(c)
	d, _ := cond.Negate(eq(0, 1, 0))
	n.L.C[0], l[0].L.C[0], d[0].L.C[0] = 99, 99, 99
	if !same(c, ge(5, 3, 2)) || d[1].L.C[0] != -1 {
		t.Errorf("%v, %v", c, d)
	}
}
