package farkas_test

import (
	"headland/api"
	"headland/farkas"
	"math"
	"math/big"
	"math/rand"
	"slices"
	"testing"
)

const most = api.MaxCoef

func ge(k int, c ...int) api.Cond { return api.Cond{Kind: api.Ge, L: api.Lin{C: c, K: k}} }
func eq(k int, c ...int) api.Cond { return api.Cond{Kind: api.Eq, L: api.Lin{C: c, K: k}} }
func div(m, k int, c ...int) api.Cond {
	return api.Cond{Kind: api.Div, M: m, L: api.Lin{C: c, K: k}}
}

type piece = []api.Cond

// faults are pieces that every function refuses, with the error.
func faults() []struct {
	p piece
	n int
	e api.Errno
} {
	return []struct {
		p piece
		n int
		e api.Errno
	}{
		{nil, -1, api.ErrRange}, {nil, 13, api.ErrRange}, {nil, math.MinInt, api.ErrRange}, {slices.Repeat(piece{{Kind: 7}}, 97), 13, api.ErrRange}, {slices.Repeat(piece{{Kind: 7}}, 97), 1, api.ErrFull},
		{piece{{Kind: 7}}, 1, api.ErrArg}, {piece{ge(0), ge(most+1, 1)}, 1, api.ErrArg}, {piece{div(0, 1, 1)}, 1, api.ErrArg}, {piece{ge(0)}, 1, api.ErrDim}, {piece{ge(0, 1), div(2, 0, 1, 2)}, 1, api.ErrDim},
	}
}

// P9.1.
func TestCheck(t *testing.T) {
	gap := piece{ge(-3, 1), ge(2, -1)}
	for _, x := range []struct {
		p piece
		n int
		w []int
		b bool
		e api.Errno
	}{
		{gap, 1, []int{1, 1}, true, api.OK}, {gap, 1, []int{5, 5}, true, api.OK}, {gap, 1, []int{1, 2}, false, api.OK}, {gap, 1, []int{0, 0}, false, api.OK}, {gap, 1, []int{-1, -1}, false, api.OK}, {piece{ge(3, 1), ge(-2, -1)}, 1, []int{-1, -1}, false, api.OK}, {piece{ge(-3, 1), ge(3, -1)}, 1, []int{1, 1}, false, api.OK},
		{piece{eq(-3, 1), eq(2, -1)}, 1, []int{1, 1}, true, api.OK}, {piece{eq(-3, 1), eq(2, -1)}, 1, []int{-1, -1}, false, api.OK}, {piece{eq(-3, 1), eq(4, -1)}, 1, []int{-1, -1}, true, api.OK}, {piece{ge(-3, 1), eq(2, 1)}, 1, []int{1, -1}, true, api.OK}, {piece{eq(-3, 1), ge(2, 1)}, 1, []int{-1, 1}, false, api.OK},
		{piece{ge(-3, 1), ge(2, -1), div(2, -1, 0)}, 1, []int{1, 1, 0}, true, api.OK}, {piece{ge(-3, 1), ge(2, -1), div(2, -1, 0)}, 1, []int{1, 1, 1}, false, api.OK}, {piece{div(2, 1, 0)}, 1, []int{-1}, false, api.OK}, {piece{ge(-1)}, 0, []int{1}, true, api.OK}, {piece{ge(-1)}, 0, []int{0}, false, api.OK}, {nil, 0, nil, false, api.OK},
		{piece{ge(0, 1, 0), ge(-1, -1, 1)}, 2, []int{1, 1}, false, api.OK}, {piece{ge(0, 0, 1), ge(-1, 1, -1)}, 2, []int{1, 1}, false, api.OK},
		// Sums beyond 64 bits.
		{piece{ge(0, most), ge(-1, -most)}, 1, []int{math.MaxInt, math.MaxInt}, true, api.OK}, {piece{ge(0, most), ge(-most, -most)}, 1, []int{math.MaxInt, math.MaxInt}, true, api.OK}, {piece{ge(0, most), ge(most, -most)}, 1, []int{math.MaxInt, math.MaxInt}, false, api.OK}, {piece{ge(0, most), ge(-1, -most)}, 1, []int{math.MaxInt, math.MaxInt - 1}, false, api.OK},
		{piece{eq(0, 4), eq(-1, 2)}, 1, []int{1 << 62, 0}, false, api.OK}, {piece{eq(0, 4), eq(-1, 0)}, 1, []int{1 << 62, 1}, false, api.OK}, {piece{eq(-4, 0)}, 1, []int{1 << 62}, true, api.OK}, {piece{eq(4, 0)}, 1, []int{math.MinInt}, true, api.OK}, {piece{eq(-4, 0)}, 1, []int{math.MinInt}, false, api.OK}, {piece{eq(2, 0), eq(-1, 0)}, 1, []int{math.MinInt, math.MinInt}, true, api.OK}, {piece{eq(1, 0), eq(-1, 0)}, 1, []int{math.MinInt, math.MinInt}, false, api.OK}, {piece{eq(1, 0), eq(-1, 0)}, 1, []int{1 << 32, 1<<32 + 1}, true, api.OK}, {piece{eq(1, 0), eq(-1, 0)}, 1, []int{1<<32 + 1, 1 << 32}, false, api.OK}, {piece{ge(0, 1), ge(-1, 0)}, 1, []int{1 << 32, 1}, false, api.OK}, {piece{eq(0, 1), ge(-1, 0)}, 1, []int{-1 << 32, 1}, false, api.OK},
		{gap, 1, []int{1}, false, api.ErrDim}, {gap, 1, nil, false, api.ErrDim}, {gap, 1, []int{1, 1, 0}, false, api.ErrDim}, {nil, 0, []int{1}, false, api.ErrDim},
	} {
		if b, e := farkas.Check(x.p, x.n, x.w); b != x.b || e != x.e {
			t.Errorf("Check(%v, %v) = %v, %d", x.p, x.w, b, e)
		}
	}
	for _, x := range faults() {
		if b, e := farkas.Check(x.p, x.n, nil); b || e != x.e {
			t.Errorf("Check of a fault: %v, %d, want %d", b, e, x.e)
		}
	}
}

// P9.2.
func TestProve(t *testing.T) {
	for _, x := range []struct {
		p piece
		n int
		w []int
		e api.Errno
	}{
		{piece{ge(-3, 1), ge(2, -1)}, 1, []int{1, 1}, api.OK}, {piece{eq(-1, 2)}, 1, nil, api.ErrNone}, {piece{ge(0, 1, -1), ge(-1, -1, 1)}, 2, []int{1, 1}, api.OK}, {nil, 3, nil, api.ErrNone}, {piece{ge(-1)}, 0, []int{1}, api.OK}, {piece{ge(0), eq(0)}, 0, nil, api.ErrNone}, {piece{eq(-2)}, 0, []int{1}, api.OK}, {piece{eq(2)}, 0, []int{-1}, api.OK}, {piece{ge(3), eq(2), ge(-1)}, 0, []int{0, -1, 0}, api.OK},
		{piece{div(2, 1, 0)}, 1, nil, api.ErrNone}, {piece{div(2, 1, 0), ge(-1, 0)}, 1, []int{0, 1}, api.OK}, {piece{div(2, 0, 1), eq(-1, 3), div(3, 0, 1), ge(0, 1), ge(-1, -6)}, 1, []int{0, 2, 0, 0, 1}, api.OK},
		// The weights are divided by their common divisor, and the first false row counts.
		{piece{ge(-3, 2), ge(2, -2)}, 1, []int{1, 1}, api.OK}, {piece{ge(-5, 2), ge(6, -3)}, 1, []int{3, 2}, api.OK}, {piece{ge(-5, 1), ge(-4, 1), ge(3, -1), ge(2, -1)}, 1, []int{1, 0, 1, 0}, api.OK}, {piece{ge(0, 1), ge(-5, 1), ge(3, -1)}, 1, []int{0, 1, 1}, api.OK},
		// An Eq is used first: the one with the least coefficient, and of these the first one.
		{piece{eq(0, 1, 3), eq(-1, 1, 2), ge(-4, 0, 1)}, 2, []int{-1, 1, 1}, api.OK}, {piece{eq(0, 1, -2), eq(1, 1, 2), ge(-1, 1, 0)}, 2, []int{-1, -1, 2}, api.OK}, {piece{eq(0, 1, 2), eq(1, 1, 2)}, 2, []int{1, -1}, api.OK}, {piece{eq(1, 1, 2), eq(0, 1, 2)}, 2, []int{-1, 1}, api.OK},
		{piece{eq(0, 1, -1), ge(-1, 1, -1)}, 2, []int{-1, 1}, api.OK}, {piece{eq(0, 1, -1), ge(-1, -1, 1)}, 2, []int{1, 1}, api.OK},
		// Rows with the same expression: the first one stays, but a Ge and an Eq are different.
		{piece{ge(0, 1), ge(0, 1), ge(-1, -1), ge(-1, -1)}, 1, []int{1, 0, 1, 0}, api.OK}, {piece{ge(-1, 0), eq(-1, 0)}, 1, []int{1, 0}, api.OK}, {piece{eq(-1, 0), ge(-1, 0)}, 1, []int{1, 0}, api.OK}, {piece{ge(1, 0), eq(1, 0)}, 1, []int{0, -1}, api.OK},
		{piece{eq(0, -1, 1), eq(-1, -1, 1), eq(-2, -1, 1)}, 2, []int{-1, 1, 0}, api.OK}, {piece{eq(0, 1, most), eq(0, 1, 1), ge(0, most-1, 1), eq(0, 1, 0)}, 2, nil, api.ErrNone},
		{piece{eq(0, 2, -1), eq(-1, 2, 0), eq(0, 0, 1)}, 2, []int{-1, 1, -1}, api.OK},
		// Equal rows that arise are kept once.
		{slices.Concat(slices.Repeat(piece{ge(0, 1, 1)}, 21), slices.Repeat(piece{ge(0, 0, -1)}, 21)), 2, nil, api.ErrNone}, {nil, 12, nil, api.ErrNone}, {slices.Repeat(piece{ge(0, 1)}, 96), 1, nil, api.ErrNone},
		// Rows that do not mention the variable come first.
		{piece{ge(0, 0, 1), ge(-1, 0, -1), ge(-3, 1, 0), ge(2, -1, 0)}, 2, []int{1, 1, 0, 0}, api.OK}, {piece{ge(0, 1, 0), ge(-1, -1, 0), ge(-3, 0, 1), ge(2, 0, -1)}, 2, []int{0, 0, 1, 1}, api.OK}, {piece{ge(0, 0, 1), ge(-1, 0, -1), ge(-3, 0, 0)}, 2, []int{0, 0, 1}, api.OK},
	} {
		if w, e := farkas.Prove(x.p, x.n); !slices.Equal(w, x.w) || e != x.e {
			t.Errorf("Prove(%v) = %v, %d; want %v, %d", x.p, w, e, x.w, x.e)
		}
	}
	for _, x := range faults() {
		if w, e := farkas.Prove(x.p, x.n); len(w) != 0 || e != x.e {
			t.Errorf("Prove of a fault: %v, %d, want %d", w, e, x.e)
		}
		if a, den, e := farkas.Inner(x.p, x.n); len(a) != 0 || den != 0 || e != x.e {
			t.Errorf("Inner of a fault: %v, %d, %d, want %d", a, den, e, x.e)
		}
	}
}

func TestLimits(t *testing.T) {
	// 21 lower and 21 upper bounds make 441 rows, 20 and 20 make 400.
	bounds := func(n int) piece {
		p := piece{}
		for i := range n {
			p = append(p, ge(0, 101+i, 1), ge(0, 10007*(i+1), -1))
		}
		return p
	}
	if w, e := farkas.Prove(bounds(21), 2); len(w) != 0 || e != api.ErrFull {
		t.Errorf("441 rows: %v, %d", w, e)
	}
	if x, den, e := farkas.Inner(bounds(21), 2); len(x) != 0 || den != 0 || e != api.ErrFull {
		t.Errorf("441 rows: %v, %d, %d", x, den, e)
	}
	if w, e := farkas.Prove(bounds(20), 2); len(w) != 0 || e != api.ErrNone {
		t.Errorf("400 rows: %v, %d", w, e)
	}
	p := piece{ge(1, most-1, most), ge(0, most-3, 1-most)}
	if w, e := farkas.Prove(p, 2); len(w) != 0 || e != api.ErrFull {
		t.Errorf("great products: %v, %d", w, e)
	}
	// A constant, and a weight, at the limit and beyond.
	for k, want := range map[int]api.Errno{1 << 10: api.ErrNone, 1<<10 + 1: api.ErrFull} {
		// The constant becomes 2^20 k.
		if _, e := farkas.Prove(piece{eq(0, 0, most), ge(k, 1, -1)}, 2); e != want {
			t.Errorf("constant %d: %d, want %d", k, e, want)
		}
		if _, e := farkas.Prove(piece{eq(0, 0, most), ge(-k, 1, -1)}, 2); e != want {
			t.Errorf("constant %d: %d, want %d", -k, e, want)
		}
		// The coefficient of the first variable becomes 2^20 k.
		if _, e := farkas.Prove(piece{eq(0, 0, most), ge(0, -k, -1)}, 2); e != want {
			t.Errorf("coefficient %d: %d, want %d", -k, e, want)
		}
		// The weight of the Eq becomes -k 2^20 after two steps.
		if _, e := farkas.Prove(piece{eq(0, 0, 0, most), eq(0, 0, k, 1), ge(0, 1, 1, 0)}, 3); e != want {
			t.Errorf("weight %d: %d, want %d", k, e, want)
		}
	}
	refused := api.Set{Dim: 2, Pieces: []piece{p}}
	if l, e := farkas.Empty(refused); len(l) != 0 || e != api.ErrFull {
		t.Errorf("Empty: %v, %d", l, e)
	}
}

// P9.3.
func TestInner(t *testing.T) {
	for _, x := range []struct {
		p   piece
		n   int
		x   []int
		den int
		e   api.Errno
	}{
		{nil, 0, nil, 1, api.OK}, {nil, 3, []int{0, 0, 0}, 1, api.OK}, {piece{eq(-1, 2)}, 1, []int{1}, 2, api.OK}, {piece{ge(-3, 2), ge(9, -1)}, 1, []int{3}, 2, api.OK}, {piece{ge(-3, 2), ge(-5, 3), ge(9, -1)}, 1, []int{5}, 3, api.OK}, {piece{ge(-5, 3), ge(-3, 2)}, 1, []int{5}, 3, api.OK}, {piece{ge(9, -2), ge(4, -1)}, 1, []int{4}, 1, api.OK}, {piece{ge(4, -1), ge(7, -2)}, 1, []int{7}, 2, api.OK}, {piece{ge(-7, -2), ge(9, -1)}, 1, []int{-7}, 2, api.OK},
		{piece{ge(7, 2), ge(3, 1)}, 1, []int{-3}, 1, api.OK}, {piece{div(5, 2, 1), ge(-3, 1)}, 1, []int{3}, 1, api.OK}, {piece{ge(-3, 1), ge(2, -1)}, 1, nil, 0, api.ErrNone}, {piece{ge(-1)}, 0, nil, 0, api.ErrNone}, {piece{ge(1), eq(0), div(2, 1)}, 0, nil, 1, api.OK},
		// The first variable is chosen by what follows from the later ones.
		{piece{ge(0, 1, -2), ge(-3, 0, 1), ge(9, 0, -1)}, 2, []int{6, 3}, 1, api.OK}, {piece{ge(-1, 1, -2), ge(-3, 0, 2)}, 2, []int{8, 3}, 2, api.OK}, {piece{eq(0, 3, -1), ge(-1, 0, 1)}, 2, []int{1, 3}, 3, api.OK}, {piece{eq(-1, 2, 0), eq(-1, 0, 3)}, 2, []int{3, 2}, 6, api.OK}, {piece{eq(-1, 2, 0), eq(-1, 1, -3)}, 2, []int{3, -1}, 6, api.OK},
		// The first Eq that mentions the variable.
		{piece{eq(0, 1, -1), ge(5, 0, 1), ge(7, 1, 0), ge(0, -1, 0)}, 2, []int{-5, -5}, 1, api.OK}, {piece{ge(4, 0, 1), eq(-1, 2, 2)}, 2, []int{9, -8}, 2, api.OK},
	} {
		if a, den, e := farkas.Inner(x.p, x.n); !slices.Equal(a, x.x) || den != x.den || e != x.e {
			t.Errorf("Inner(%v) = %v, %d, %d; want %v, %d, %d", x.p, a, den, e, x.x, x.den, x.e)
		}
	}
	// Denominators and numerators at 2^28 and beyond.
	for _, x := range []struct {
		p piece
		e api.Errno
	}{
		{piece{eq(1, 1<<14, 0), eq(1, -1, 1<<14)}, api.OK}, {piece{eq(1, 1<<14, 0), eq(1, -1, 1<<15)}, api.ErrFull}, {piece{eq(-1, 1<<20, 0), eq(-1, 0, 255)}, api.OK}, {piece{eq(-1, 1<<20, 0), eq(-1, 0, 257)}, api.ErrFull},
		{piece{eq(-1<<14, 1, 0), eq(0, -1<<14, 1)}, api.OK}, {piece{eq(-1<<14, 1, 0), eq(-1, -1<<14, 1)}, api.ErrFull}, {piece{eq(1<<14, 1, 0), eq(1, -1<<14, 1)}, api.ErrFull}, {piece{eq(1<<14, 1, 0), eq(0, -1<<14, 1)}, api.OK}, {piece{eq(-1<<20, 1, 0), eq(-1, 0, 256)}, api.OK}, {piece{eq(-1<<20, 1, 0), eq(-1, 0, 257)}, api.ErrFull},
	} {
		if a, den, e := farkas.Inner(x.p, 2); e != x.e || e != api.OK && (len(a) != 0 || den != 0) {
			t.Errorf("Inner(%v): %v, %d, %d", x.p, a, den, e)
		}
	}
}

// With f = x + y, the other bound is near f or by almost 1 apart, with a denominator beyond the limits.
func TestInnerNear(t *testing.T) {
	for _, sign := range []int{1, -1} {
		for _, s := range []int{1, -1, most - 1, 1 - most} {
			for _, turned := range []bool{false, true} {
				// x = sign 16381 / 16384, y = sign / 16383
				fixed := piece{eq(-sign*16381, 16384, 0, 0), eq(-sign, 0, 16383, 0)}
				low := piece{ge(0, -1, -1, 1), ge(-s, -most, -most, most)}
				high := piece{ge(0, 1, 1, -1), ge(s, most, most, -most)}
				if turned {
					slices.Reverse(low)
					slices.Reverse(high)
				}
				want := []int{sign * 16381 * 16383, sign * 16384, sign * (16381*16383 + 16384)}
				check := func(p piece, good bool) {
					x, den, e := farkas.Inner(p, 3)
					if good && (!slices.Equal(x, want) || den != 16384*16383 || e != api.OK) || !good && (len(x) != 0 || den != 0 || e != api.ErrFull) {
						t.Errorf("%d, %d, %v: Inner(%v) = %v, %d, %d", sign, s, turned, p, x, den, e)
					}
				}
				check(append(fixed[:2:2], low...), s < 0)
				check(append(fixed[:2:2], high...), s > 0)
			}
		}
	}
}

// Bounds of different signs.
func TestInnerSigns(t *testing.T) {
	for _, x := range []struct {
		p   piece
		x   int
		den int
	}{
		{piece{ge(1, 2), ge(-1, 3)}, 1, 3}, {piece{ge(-1, 3), ge(1, 2)}, 1, 3}, {piece{ge(1, 2), ge(2, 3)}, -1, 2}, {piece{ge(2, 3), ge(1, 2)}, -1, 2}, {piece{ge(0, 2), ge(2, 3)}, 0, 1}, {piece{ge(2, 3), ge(0, 2)}, 0, 1}, {piece{ge(0, 2), ge(-2, 3)}, 2, 3},
		{piece{ge(1, -2), ge(-1, -3)}, -1, 3}, {piece{ge(-1, -3), ge(1, -2)}, -1, 3}, {piece{ge(-1, -2), ge(-2, -3)}, -2, 3}, {piece{ge(1, -2), ge(2, -3)}, 1, 2}, {piece{ge(2, -3), ge(1, -2)}, 1, 2},
	} {
		if a, den, e := farkas.Inner(x.p, 1); !slices.Equal(a, []int{x.x}) || den != x.den || e != api.OK {
			t.Errorf("Inner(%v) = %v, %d, %d", x.p, a, den, e)
		}
	}
}

// P9.4.
func TestEmpty(t *testing.T) {
	gap, none := piece{ge(-3, 1), ge(2, -1)}, piece{eq(-1, 2)}
	set := func(l ...piece) api.Set { return api.Set{Dim: 1, Pieces: l} }
	if l, e := farkas.Empty(set(gap, piece{eq(5, 0)}, gap)); e != api.OK || !slices.EqualFunc(l, [][]int{{1, 1}, {-1}, {1, 1}}, slices.Equal[[]int]) {
		t.Errorf("Empty: %v, %d", l, e)
	}
	if l, e := farkas.Empty(set()); e != api.OK || len(l) != 0 {
		t.Errorf("Empty of none: %v, %d", l, e)
	}
	if l, e := farkas.Empty(set(gap, none, gap)); e != api.ErrNone || len(l) != 0 {
		t.Errorf("Empty: %v, %d", l, e)
	}
	for _, s := range []api.Set{{Dim: -1}, {Dim: 13}, {Dim: 2, Pieces: []piece{gap}}, set(piece{{Kind: 9}})} {
		if l, e := farkas.Empty(s); e != api.ErrArg || len(l) != 0 {
			t.Errorf("Empty(%v): %v, %d", s, l, e)
		}
	}
}

// P9.5, P9.6.
func TestAlternative(t *testing.T) {
	r := rand.New(rand.NewSource(13))
	proofs, points := 0, 0
	for range 2000 {
		n := r.Intn(4) + 1
		p := piece{}
		for range r.Intn(7) + 1 {
			l := make([]int, n)
			for i := range l {
				l[i] = r.Intn(9) - 4
			}
			c := ge(r.Intn(15)-9, l...)
			switch r.Intn(6) {
			case 0:
				c.Kind = api.Eq
			case 1:
				c.Kind, c.M = api.Div, 3
			}
			p = append(p, c)
		}
		w, e := farkas.Prove(p, n)
		x, den, f := farkas.Inner(p, n)
		if (e == api.ErrNone) == (f == api.ErrNone) {
			t.Fatalf("%v: %d, %d", p, e, f)
		}
		if e == api.OK {
			proofs++
			if ok, e := farkas.Check(p, n, w); !ok || e != api.OK {
				t.Fatalf("%v: %v is no refutation", p, w)
			}
			continue
		}
		points++
		if f != api.OK || len(x) != n || den < 1 {
			t.Fatalf("Inner(%v) = %v, %d, %d", p, x, den, f)
		}
		divisor := big.NewInt(int64(den))
		for _, v := range x {
			divisor.GCD(nil, nil, divisor, big.NewInt(int64(max(v, -v))))
		}
		if divisor.Int64() != 1 {
			t.Fatalf("Inner(%v) = %v, %d", p, x, den)
		}
		for _, c := range p {
			sum := c.L.K * den
			for i, v := range x {
				sum += c.L.C[i] * v
			}
			if c.Kind == api.Ge && sum < 0 || c.Kind == api.Eq && sum != 0 {
				t.Fatalf("%v does not satisfy %v", x, c)
			}
		}
	}
	if proofs < 200 || points < 200 {
		t.Errorf("%d proofs, %d points", proofs, points)
	}
}
