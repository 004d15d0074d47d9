package point_test

import (
	"headland/api"
	"headland/point"
	"headland/set"
	"math"
	"math/big"
	"math/rand"
	"slices"
	"testing"
)

const (
	most = api.MaxCoef
	far  = api.MaxCoord
)

func ge(k int, c ...int) api.Cond { return api.Cond{Kind: api.Ge, L: api.Lin{C: c, K: k}} }
func eq(k int, c ...int) api.Cond { return api.Cond{Kind: api.Eq, L: api.Lin{C: c, K: k}} }
func div(m, k int, c ...int) api.Cond {
	return api.Cond{Kind: api.Div, M: m, L: api.Lin{C: c, K: k}}
}

type piece = []api.Cond

func of(dim int, pieces ...piece) api.Set { return api.Set{Dim: dim, Pieces: pieces} }

func bad() []api.Set {
	return []api.Set{{Dim: -1}, {Dim: 13}, of(1, piece{ge(0)}), of(1, piece{{Kind: 3, L: api.Lin{C: []int{1}}}}), of(2, piece{ge(most+1, 1, 0)})}
}

type answer struct {
	n int
	e api.Errno
}

func ans(n int, e api.Errno) answer { return answer{n, e} }

func ok(n int) answer { return answer{n, api.OK} }

var (
	none  = answer{0, api.ErrNone}
	full  = answer{0, api.ErrFull}
	open  = answer{0, api.ErrRange}
	wrong = answer{0, api.ErrArg}
	dim   = answer{0, api.ErrDim}
)

// crt has one value modulo 2 * 3 * 5 * .. , which is 2 there, and 1 modulo the last prime.
func crt(last int, more ...api.Cond) api.Set {
	p := piece{}
	for _, m := range []int{11, 13, 17, 19, 23, 29, 31, 37, 41, 43, 47, 53, 59, 61, 67, 71, 73, 79, 83, 89, 97, 101, 103, 107, 109, 113} {
		p = append(p, div(m, -2, 1))
	}
	p = append(p, div(127, -last, 1))
	return of(1, append(p, more...))
}

// P6.1, P6.2.
func TestEnds(t *testing.T) {
	for _, x := range []struct {
		s                     api.Set
		from                  int
		next, back, low, high answer
	}{
		{of(1), 0, none, none, none, none},
		{of(1, nil), 7, ok(7), ok(7), open, open},
		{of(1, piece{ge(-3, 1), ge(9, -1)}), 5, ok(5), ok(5), ok(3), ok(9)},
		{of(1, piece{ge(-3, 1), ge(9, -1)}), 3, ok(3), ok(3), ok(3), ok(9)},
		{of(1, piece{ge(-3, 1), ge(9, -1)}), 9, ok(9), ok(9), ok(3), ok(9)},
		{of(1, piece{ge(-3, 1), ge(9, -1)}), 2, ok(3), none, ok(3), ok(9)},
		{of(1, piece{ge(-3, 1), ge(9, -1)}), 10, none, ok(9), ok(3), ok(9)},
		{of(1, piece{ge(-3, 2), ge(10, -3)}), 0, ok(2), none, ok(2), ok(3)},
		{of(1, piece{ge(7, 2), ge(-10, -3)}), 0, none, none, none, none},
		{of(1, piece{ge(9, 2), ge(-10, -3)}), 0, none, ok(-4), ok(-4), ok(-4)},
		{of(1, piece{eq(-6, 2)}), 0, ok(3), none, ok(3), ok(3)},
		{of(1, piece{eq(6, -2)}), 4, none, ok(3), ok(3), ok(3)},
		{of(1, piece{eq(-5, 2)}), 0, none, none, none, none},
		{of(1, piece{eq(5, 0)}), 0, none, none, none, none},
		{of(1, piece{eq(0, 0), ge(4, 0), ge(0, 0), div(3, 6, 0)}), 8, ok(8), ok(8), open, open},
		{of(1, piece{ge(-1, 0)}), 0, none, none, none, none},
		{of(1, piece{div(3, 5, 0)}), 0, none, none, none, none},
		{of(1, piece{div(3, 1, 1)}), 0, ok(2), ok(-1), open, open},
		{of(1, piece{div(3, 1, 1)}), 2, ok(2), ok(2), open, open},
		{of(1, piece{div(3, 1, 1)}), -3, ok(-1), ok(-4), open, open},
		{of(1, piece{div(3, 1, 1), ge(-3, 1), ge(7, -1)}), 0, ok(5), none, ok(5), ok(5)},
		{of(1, piece{div(3, 1, 1), ge(-3, 1), ge(4, -1)}), 0, none, none, none, none},
		{of(1, piece{div(3, 1, 1), ge(-3, 1)}), 0, ok(5), none, ok(5), open},
		{of(1, piece{div(3, 1, 1), ge(4, -1)}), 10, none, ok(2), open, ok(2)},
		{of(1, piece{div(6, 3, 4)}), 0, none, none, none, none},
		{of(1, piece{div(6, 2, 4)}), 0, ok(1), ok(-2), open, open},
		{of(1, piece{div(4, 2, 1), div(6, 0, 1)}), 0, ok(6), ok(-6), open, open},
		{of(1, piece{div(4, 1, 1), div(6, 0, 1)}), 0, none, none, none, none},
		{of(1, piece{div(4, 1, 1), div(6, 0, 1), ge(0, 1)}), 0, none, none, none, none},
		{of(1, piece{ge(-5, 1)}, piece{ge(2, 1), ge(2, -1)}), 0, ok(0), ok(0), ok(-2), open},
		{of(1, piece{ge(-5, 1)}, piece{ge(2, 1), ge(2, -1)}), 3, ok(5), ok(2), ok(-2), open},
		{of(1, piece{ge(5, -1)}, piece{ge(-9, 1), ge(12, -1)}), 7, ok(9), ok(5), open, ok(12)},
		{of(1, piece{ge(0, 1), ge(-1, -1)}, piece{eq(-4, 1)}, piece{eq(-2, 1)}), 3, ok(4), ok(2), ok(2), ok(4)},
		{of(1, piece{ge(-1, 1)}), far, ok(far), ok(far), ok(1), open},
		{of(1, piece{ge(-1, 1)}), -far, ok(1), none, ok(1), open},
		{of(1, piece{div(2, 1, 1)}), far, full, ok(far - 1), open, open},
		{of(1, piece{div(2, 1, 1)}), -far, ok(1 - far), full, open, open},
		{of(1, piece{ge(most, most), ge(most, -1)}), 0, ok(0), ok(0), ok(-1), ok(most)},
		{crt(2), 0, ok(2), full, open, open},
		{crt(2), 3, full, ok(2), open, open},
		{crt(2, ge(-2, 1)), 3, full, ok(2), ok(2), open},
		{crt(2, ge(9, -1)), 3, none, ok(2), open, ok(2)},
		{crt(2, ge(-3, 1)), 3, full, none, full, open},
		{crt(2, ge(1, -1)), 3, none, full, open, full},
		{crt(2, ge(0, 1), ge(most, -1)), 3, none, ok(2), ok(2), ok(2)},
		{crt(1), 0, full, full, open, open},
		{crt(1, ge(0, 1)), 0, full, none, full, open},
		{crt(1, ge(0, -1)), 0, none, full, open, full},
		{crt(1, ge(0, 1), ge(most, -1)), 0, none, none, none, none},
		{crt(1, div(11, 0, 1)), 0, none, none, none, none},
		{crt(1, div(22, 0, 1)), 0, none, none, none, none},
		{of(1, piece{ge(5, -1)}, crt(1, ge(0, 1)).Pieces[0]), 6, full, ok(5), open, open},
		{of(1, piece{eq(5, 1)}, crt(1, ge(0, 1)).Pieces[0]), -7, ok(-5), none, ok(-5), open},
		{of(1, piece{eq(-5, 1)}, crt(1, ge(0, 1)).Pieces[0]), 6, full, ok(5), ok(5), open},
		{of(1, crt(1, ge(0, -1)).Pieces[0], piece{eq(5, 1)}), -6, ok(-5), full, open, ok(-5)},
	} {
		got := [4]answer{ans(point.Next(x.s, x.from)), ans(point.Back(x.s, x.from)), ans(point.Low(x.s)), ans(point.High(x.s))}
		if got != [4]answer{x.next, x.back, x.low, x.high} {
			t.Errorf("%v from %d: %v, want %v", x.s, x.from, got, [4]answer{x.next, x.back, x.low, x.high})
		}
	}
}

// P6.1, P6.2: the remainders of one value by more and more primes.
func TestManyClasses(t *testing.T) {
	const value = 1000000007
	product := big.NewInt(1)
	var p piece
	for i, m := range []int{509, 503, 499, 491, 487, 479, 467, 463, 461, 457, 449, 443, 439, 433, 431, 421, 419, 409, 401, 397, 389, 383, 379, 373} {
		p = append(p, div(m, -(value%m), 1))
		product.Mul(product, big.NewInt(int64(m)))
		low := new(big.Int).Mod(big.NewInt(value), product)
		back := new(big.Int).Sub(low, product)
		next := new(big.Int).Add(low, product)
		coordinate := func(n *big.Int) answer {
			if !n.IsInt64() || n.Int64() < -far || n.Int64() > far {
				return full
			}
			return ok(int(n.Int64()))
		}
		s := of(1, p)
		first := coordinate(low)
		if a := ans(point.Next(s, 0)); a != first {
			t.Errorf("%d primes: Next %v", i+1, a)
		}
		if a, b := ans(point.Next(s, first.n+1)), ans(point.Back(s, first.n-1)); a != coordinate(next) || b != coordinate(back) {
			t.Errorf("%d primes: Next %v, Back %v", i+1, a, b)
		}
		if a, b := ans(point.Low(of(1, append(slices.Clone(p), ge(0, 1))))), ans(point.High(of(1, append(slices.Clone(p), ge(-1, -1))))); a != coordinate(low) || b != coordinate(back) {
			t.Errorf("%d primes: Low %v, High %v", i+1, a, b)
		}
	}
}

func TestEndErrors(t *testing.T) {
	for _, s := range bad() {
		for i, a := range []answer{ans(point.Next(s, far+1)), ans(point.Back(s, far+1)), ans(point.Low(s)), ans(point.High(s)), ans(point.Near(s, 99, nil))} {
			if a != wrong {
				t.Errorf("%d of %v: %v", i, s, a)
			}
		}
	}
	for _, s := range []api.Set{of(0, nil), of(2), of(2, piece{ge(0, 1, 0)})} {
		for i, a := range []answer{ans(point.Next(s, far+1)), ans(point.Back(s, far+1)), ans(point.Low(s)), ans(point.High(s))} {
			if a != dim {
				t.Errorf("%d of %v: %v", i, s, a)
			}
		}
	}
	for _, from := range []int{far + 1, -far - 1, math.MinInt, math.MaxInt} {
		if a, b := ans(point.Next(of(1), from)), ans(point.Back(of(1), from)); a != open || b != open {
			t.Errorf("from %d: %v, %v", from, a, b)
		}
	}
}

// P6.3, P6.8.
func TestNear(t *testing.T) {
	half := of(2, piece{eq(0, -1, 2)})
	wide := of(12, piece{ge(0, 1, most, most, most, most, most, most, most, most, most, most, most)})
	exact := of(12, piece{eq(0, 1, most, most, most, most, most, most, most, most, most, most, most)})
	long := func(n int) []int { return slices.Repeat([]int{n}, 11) }
	for _, x := range []struct {
		s api.Set
		i int
		x []int
		a answer
	}{
		{half, 1, []int{6}, ok(3)}, {half, 1, []int{5}, none}, {half, 0, []int{5}, ok(10)}, {half, 1, []int{-6}, ok(-3)},
		{of(1, piece{ge(-3, 1)}, piece{ge(-3, -1)}), 0, nil, ok(3)}, {of(1, piece{ge(-4, 1)}, piece{ge(-3, -1)}), 0, nil, ok(-3)}, {of(1, piece{ge(-3, 1)}, piece{ge(-4, -1)}), 0, nil, ok(3)}, {of(1, nil), 0, nil, ok(0)}, {of(1), 0, nil, none},
		{of(1, piece{div(5, 2, 1)}), 0, nil, ok(-2)}, {of(1, piece{div(5, 3, 1)}), 0, nil, ok(2)}, {of(1, piece{div(6, 3, 1)}), 0, nil, ok(3)},
		{of(3, piece{eq(0, 1, -1, 1)}), 1, []int{2, 5}, ok(7)}, {of(3, piece{eq(0, 1, -1, 2)}), 0, []int{2, 5}, ok(-8)}, {of(3, piece{eq(0, 1, -1, 2), ge(-9, 0, 1, 0)}), 2, []int{3, 9}, ok(3)}, {of(3, piece{eq(0, 1, -1, 2), ge(-9, 0, 1, 0)}), 2, []int{2, 8}, none},
		{of(2, piece{ge(0, most, 1)}), 1, []int{-4096}, ok(far)}, {of(2, piece{ge(0, most, 1)}), 1, []int{-4097}, full}, {of(2, piece{ge(0, most, -1)}), 1, []int{-4096}, ok(-far)}, {of(2, piece{ge(0, most, -1)}), 1, []int{-4097}, full}, {of(2, piece{ge(0, most, -1)}), 1, []int{far}, ok(0)},
		{of(2, piece{ge(0, most, 1), ge(0, -most, -1)}), 1, []int{-4097}, full}, {of(2, piece{ge(0, most, 1), ge(-1, -most, -1)}), 1, []int{-4097}, none}, {of(2, piece{ge(0, most, 1), ge(0, -most, -1), div(2, 1, 0, 1)}), 1, []int{-4097}, none},
		{of(2, piece{ge(0, most, 1)}, piece{eq(7, 0, 1)}), 1, []int{-4097}, ok(-7)}, {of(2, piece{ge(0, most, -1)}, piece{eq(-7, 0, 1)}), 1, []int{-4097}, ok(7)},
		{wide, 0, long(far), ok(0)}, {wide, 0, long(-far), full}, {exact, 0, long(0), ok(0)}, {exact, 0, long(far), full}, {exact, 0, long(1), ok(-11 * most)},
		{crt(1), 0, nil, full}, {crt(2), 0, nil, ok(2)}, {crt(-2), 0, nil, full}, {crt(1, ge(0, 1), ge(most, -1)), 0, nil, none},
		{half, 2, []int{0}, open}, {half, -1, []int{0}, open}, {half, math.MaxInt, []int{0}, open}, {half, 0, []int{far + 1}, open}, {half, 1, []int{-far - 1}, open}, {of(3), 0, []int{0, math.MinInt}, open},
		{half, 5, nil, dim}, {half, 0, []int{far + 1, 0}, dim}, {of(0, nil), 0, nil, dim}, {of(0), 0, []int{1}, dim}, {of(1), 0, []int{1}, dim},
	} {
		if a := ans(point.Near(x.s, x.i, x.x)); a != x.a {
			t.Errorf("Near(%v, %d, %v) = %v, want %v", x.s, x.i, x.x, a, x.a)
		}
	}
}

// P6.1, P6.2, P6.3 against counting.
func TestValues(t *testing.T) {
	r := rand.New(rand.NewSource(9))
	for range 400 {
		s := of(1)
		for range r.Intn(3) + 1 {
			p := piece{ge(r.Intn(60)-20, 1), ge(r.Intn(60)-20, -1)}
			for range r.Intn(3) {
				p = append(p, div(r.Intn(7)+1, r.Intn(9)-4, r.Intn(9)-4))
			}
			if r.Intn(5) == 0 {
				p = append(p, ge(r.Intn(30)-15, r.Intn(7)-3))
			}
			s.Pieces = append(s.Pieces, p)
		}
		var all []int
		for i := -100; i <= 100; i++ {
			if h, _ := set.Has(s, []int{i}); h {
				all = append(all, i)
			}
		}
		from := r.Intn(60) - 30
		next, back, near, low, high := none, none, none, none, none
		for _, v := range all {
			if v >= from && next == none {
				next = ok(v)
			}
			if v <= from {
				back = ok(v)
			}
			if near == none || max(v, -v) < max(near.n, -near.n) || v == -near.n {
				near = ok(v)
			}
			if low == none {
				low = ok(v)
			}
			high = ok(v)
		}
		got := [5]answer{ans(point.Next(s, from)), ans(point.Back(s, from)), ans(point.Near(s, 0, nil)), ans(point.Low(s)), ans(point.High(s))}
		if got != [5]answer{next, back, near, low, high} {
			t.Fatalf("%v from %d: %v, want %v", s, from, got, [5]answer{next, back, near, low, high})
		}
	}
}

func triangle() api.Set {
	return of(2, piece{ge(0, 1, 0), ge(3, -1, 0), ge(0, -1, 1), ge(3, 0, -1)})
}

// P6.4, P6.5.
func TestExamples(t *testing.T) {
	s := triangle()
	if x, e := point.Least(s); !slices.Equal(x, []int{0, 0}) || e != api.OK {
		t.Errorf("Least: %v, %d", x, e)
	}
	if x, e := point.Greatest(s); !slices.Equal(x, []int{3, 3}) || e != api.OK {
		t.Errorf("Greatest: %v, %d", x, e)
	}
	if n, e := point.Count(s); n != 10 || e != api.OK {
		t.Errorf("Count: %d, %d", n, e)
	}
	want := [][]int{{0, 0}, {0, 1}, {0, 2}, {0, 3}, {1, 1}, {1, 2}, {1, 3}, {2, 2}, {2, 3}, {3, 3}}
	if l, e := point.Points(s); !slices.EqualFunc(l, want, slices.Equal[[]int]) || e != api.OK {
		t.Errorf("Points: %v, %d", l, e)
	}
}

func TestPointErrors(t *testing.T) {
	refused := of(2, piece{eq(0, 1, 513)})
	for _, x := range []struct {
		s                    api.Set
		least, greatest, all api.Errno
		n                    int
	}{
		{of(0), api.ErrNone, api.ErrNone, api.OK, 0}, {of(0, nil), api.OK, api.OK, api.OK, 1}, {of(0, piece{ge(-1)}), api.ErrNone, api.ErrNone, api.OK, 0}, {of(0, piece{ge(-1)}, nil, nil), api.OK, api.OK, api.OK, 1},
		{of(2), api.ErrNone, api.ErrNone, api.OK, 0}, {of(2, piece{ge(0, 1, 0), ge(-1, -1, 0)}), api.ErrNone, api.ErrNone, api.OK, 0}, {of(1, nil), api.ErrRange, api.ErrRange, api.ErrRange, 0},
		{of(2, piece{ge(0, 1, 0)}), api.ErrRange, api.ErrRange, api.ErrRange, 0}, {of(2, piece{ge(0, 1, 0), ge(0, 0, 1)}), api.OK, api.ErrRange, api.ErrRange, 0}, {of(2, piece{ge(0, -1, 0), ge(0, 0, -1)}), api.ErrRange, api.OK, api.ErrRange, 0},
		{refused, api.ErrFull, api.ErrFull, api.ErrFull, 0}, {of(2, piece{eq(0, 513, 1), ge(0, 1, 0), ge(1, -1, 0)}), api.OK, api.OK, api.OK, 2},
		// Of the first variable 0 and 1, and of the second one after 0 the greatest value is missing.
		{of(2, piece{eq(0, 1, 0), ge(0, 0, 1)}, piece{eq(-1, 1, 0), eq(0, 0, 1)}), api.OK, api.OK, api.ErrRange, 0},
		{of(2, piece{eq(0, 1, 0), eq(0, 0, 1)}, piece{eq(-1, 1, 0), ge(0, 0, 1)}), api.OK, api.ErrRange, api.ErrRange, 0},
		{of(1, piece{ge(-1, 1), ge(4096, -1)}), api.OK, api.OK, api.OK, 4096}, {of(1, piece{ge(0, 1), ge(4096, -1)}), api.OK, api.OK, api.ErrFull, 0},
		{of(2, piece{ge(0, 1, 0), ge(63, -1, 0), ge(0, 0, 1), ge(64, 0, -1)}), api.OK, api.OK, api.ErrFull, 0}, {of(2, piece{ge(0, 1, 0), ge(most, -1, 0), ge(0, 0, 1), ge(most, 0, -1)}), api.OK, api.OK, api.ErrFull, 0},
		{of(2, piece{ge(0, 1, 0), ge(2, -1, 0), eq(0, most, -1)}), api.OK, api.ErrFull, api.ErrFull, 0},
		{of(2, piece{ge(0, 1, 0), ge(1, -1, 0), ge(0, -most, 1), ge(most, most, -1)}), api.OK, api.ErrFull, api.ErrFull, 0},
	} {
		a, e := point.Least(x.s)
		if e != x.least || e != api.OK && len(a) != 0 || e == api.OK && len(a) != x.s.Dim {
			t.Errorf("Least(%v): %v, %d", x.s, a, e)
		}
		b, e := point.Greatest(x.s)
		if e != x.greatest || e != api.OK && len(b) != 0 || e == api.OK && len(b) != x.s.Dim {
			t.Errorf("Greatest(%v): %v, %d", x.s, b, e)
		}
		l, e := point.Points(x.s)
		if e != x.all || len(l) != x.n {
			t.Errorf("Points(%v): %d of them, %d", x.s, len(l), e)
		}
		n, e := point.Count(x.s)
		if e != x.all || n != x.n {
			t.Errorf("Count(%v) = %d, %d", x.s, n, e)
		}
	}
	for _, s := range bad() {
		_, e := point.Least(s)
		_, f := point.Greatest(s)
		_, g := point.Points(s)
		n, h := point.Count(s)
		if e != api.ErrArg || f != api.ErrArg || g != api.ErrArg || h != api.ErrArg || n != 0 {
			t.Errorf("%v: %d, %d, %d, %d", s, e, f, g, h)
		}
	}
}

// P6.6, P6.7.
func TestExtremes(t *testing.T) {
	r := rand.New(rand.NewSource(10))
	for range 150 {
		s := of(3)
		for range r.Intn(3) + 1 {
			p := piece{ge(r.Intn(4), 1, 0, 0), ge(r.Intn(4), -1, 0, 0), ge(r.Intn(4), 0, 1, 0), ge(r.Intn(4), 0, -1, 0), ge(3, 0, 0, 1), ge(3, 0, 0, -1)}
			for range r.Intn(3) {
				c := ge(r.Intn(7)-2, r.Intn(5)-2, r.Intn(5)-2, r.Intn(5)-2)
				switch r.Intn(4) {
				case 0:
					c.Kind = api.Eq
				case 1:
					c.Kind, c.M = api.Div, 2+r.Intn(2)
				}
				p = append(p, c)
			}
			s.Pieces = append(s.Pieces, p)
		}
		var want [][]int
		for i := -3; i <= 3; i++ {
			for j := -3; j <= 3; j++ {
				for k := -3; k <= 3; k++ {
					if h, _ := set.Has(s, []int{i, j, k}); h {
						want = append(want, []int{i, j, k})
					}
				}
			}
		}
		l, e := point.Points(s)
		n, f := point.Count(s)
		if e != api.OK || f != api.OK || n != len(want) || !slices.EqualFunc(l, want, slices.Equal[[]int]) {
			t.Fatalf("Points(%v) = %v, %d; want %v", s, l, e, want)
		}
		a, e := point.Least(s)
		b, f := point.Greatest(s)
		if n == 0 {
			if e != api.ErrNone || f != api.ErrNone || len(a) != 0 || len(b) != 0 {
				t.Fatalf("%v: %v, %d, %v, %d", s, a, e, b, f)
			}
			continue
		}
		if e != api.OK || f != api.OK || !slices.Equal(a, want[0]) || !slices.Equal(b, want[n-1]) {
			t.Fatalf("%v: %v, %d, %v, %d", s, a, e, b, f)
		}
		form := api.Lin{C: []int{r.Intn(7) - 3, r.Intn(7) - 3, r.Intn(7) - 3}, K: r.Intn(7)}
		low, high := math.MaxInt, math.MinInt
		for _, x := range want {
			v := form.K + form.C[0]*x[0] + form.C[1]*x[1] + form.C[2]*x[2]
			low, high = min(low, v), max(high, v)
		}
		if a, b := ans(point.Min(s, form)), ans(point.Max(s, form)); a != ok(low) || b != ok(high) {
			t.Fatalf("%v in %v: %v, %v", form, s, a, b)
		}
	}
}

// P6.9.
func TestMinMax(t *testing.T) {
	l := func(k int, c ...int) api.Lin { return api.Lin{C: c, K: k} }
	for _, x := range []struct {
		s        api.Set
		l        api.Lin
		min, max answer
	}{
		{triangle(), l(5, 2, -3), ok(-4), ok(5)}, {triangle(), l(0, 0, 0), ok(0), ok(0)}, {of(2), l(0, 1, 1), none, none}, {of(2, piece{ge(0, 1, 0)}), l(3, 2, 0), ok(3), open}, {of(2, piece{ge(0, 1, 0)}), l(3, -2, 0), open, ok(3)}, {of(2, nil), l(0, 1, 0), open, open},
		{of(0, nil), l(7), ok(7), ok(7)}, {of(0), l(7), none, none}, {of(1, piece{ge(0, 1), ge(most, -1)}), l(0, most), full, full},
		{of(2, nil), l(0, 1), dim, dim}, {of(2, nil), l(most+1, 1), wrong, wrong}, {of(12, nil), l(0, make([]int, 12)...), full, full}, {of(12, nil), l(0, 1), dim, dim}, {of(11, nil), l(4, make([]int, 11)...), ok(4), ok(4)},
		{of(2, piece{ge(0, 1, 0), ge(5, -1, 0), ge(0, 0, 1), ge(1, 0, -1)}), l(0, 601, 607), full, full},
	} {
		a, b := ans(point.Min(x.s, x.l)), ans(point.Max(x.s, x.l))
		if a != x.min || b != x.max {
			t.Errorf("%v in %v: %v, %v; want %v, %v", x.l, x.s, a, b, x.min, x.max)
		}
	}
	for _, s := range bad() {
		if a, b := ans(point.Min(s, l(0))), ans(point.Max(s, l(0))); a != wrong || b != wrong {
			t.Errorf("%v: %v, %v", s, a, b)
		}
	}
}

// The points of a result share no memory with each other.
func TestMemory(t *testing.T) {
	l, _ := point.Points(triangle())
	for i := range l {
		l[i] = append(l[i], 99)
		l[i][0] = 50
	}
	for i := range l {
		if l[i][2] != 99 || l[i][1] > 3 {
			t.Errorf("%v", l)
		}
	}
}
