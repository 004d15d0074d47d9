package num_test

import (
	"headland/api"
	"headland/num"
	"math"
	"math/rand"
	"testing"
)

// numbers are ints of all sizes, with the ends of every range that the chapter names.
func numbers() []int {
	l := []int{math.MinInt, math.MinInt + 1, math.MaxInt, math.MaxInt - 1}
	for _, n := range []int{0, 1, 2, 3, 5, 6, 7, 12, 64, 511, 512, 513, 1 << 20, 1 << 31, 1 << 32, 1 << 40} {
		for d := -1; d <= 1; d++ {
			l = append(l, n+d, -n+d)
		}
	}
	return l
}

// P1.1, P1.6.
func TestDivision(t *testing.T) {
	for _, a := range numbers() {
		for _, b := range numbers() {
			f, ef := num.Floor(a, b)
			c, ec := num.Ceil(a, b)
			m, em := num.Mod(a, b)
			if b < 1 {
				if ef != api.ErrArg || ec != api.ErrArg || em != api.ErrArg || f != 0 || c != 0 || m != 0 {
					t.Fatalf("%d by %d: %d %d %d, %d %d %d", a, b, f, c, m, ef, ec, em)
				}
				continue
			}
			if ef != api.OK || ec != api.OK || em != api.OK {
				t.Fatalf("%d by %d: errors %d %d %d", a, b, ef, ec, em)
			}
			// a = b f + m, in wrapped arithmetic, which is exact because the sum is an int.
			if b*f+m != a || m < 0 || m >= b {
				t.Fatalf("%d by %d: floor %d, mod %d", a, b, f, m)
			}
			if m == 0 && c != f || m != 0 && c != f+1 {
				t.Fatalf("%d by %d: floor %d, ceil %d, mod %d", a, b, f, c, m)
			}
		}
	}
}

func TestDivisionExamples(t *testing.T) {
	for _, x := range [][5]int{{-7, 2, -4, -3, 1}, {7, 2, 3, 4, 1}, {-8, 2, -4, -4, 0}, {0, 5, 0, 0, 0}, {-1, 5, -1, 0, 4}, {math.MinInt, 1, math.MinInt, math.MinInt, 0}, {math.MaxInt, math.MaxInt, 1, 1, 0}, {math.MinInt, math.MaxInt, -2, -1, math.MaxInt - 1}} {
		f, _ := num.Floor(x[0], x[1])
		c, _ := num.Ceil(x[0], x[1])
		m, _ := num.Mod(x[0], x[1])
		if f != x[2] || c != x[3] || m != x[4] {
			t.Errorf("%d by %d: %d %d %d", x[0], x[1], f, c, m)
		}
	}
}

// P1.2, P1.7.
func TestGcd(t *testing.T) {
	for _, x := range []struct {
		l []int
		g int
		e api.Errno
	}{
		{nil, 0, api.OK}, {[]int{}, 0, api.OK}, {[]int{0}, 0, api.OK}, {[]int{0, 0, 0}, 0, api.OK},
		{[]int{-5}, 5, api.OK}, {[]int{0, -7}, 7, api.OK}, {[]int{12, -18, 0}, 6, api.OK}, {[]int{4, 6, 9}, 1, api.OK},
		{[]int{math.MinInt}, 0, api.ErrFull}, {[]int{math.MinInt, 0, math.MinInt}, 0, api.ErrFull},
		{[]int{math.MinInt, 12}, 4, api.OK}, {[]int{6, math.MinInt}, 2, api.OK}, {[]int{math.MaxInt, math.MaxInt}, math.MaxInt, api.OK},
		{[]int{math.MinInt, math.MinInt, 1 << 62}, 1 << 62, api.OK},
	} {
		if g, e := num.Gcd(x.l...); g != x.g || e != x.e {
			t.Errorf("Gcd(%v) = %d, %d", x.l, g, e)
		}
	}
}

func TestGcdDivides(t *testing.T) {
	for a := -30; a <= 30; a++ {
		for b := -30; b <= 30; b++ {
			for _, c := range []int{0, 4, -6, 9} {
				g, e := num.Gcd(a, b, c)
				want := 0
				for d := 1; d <= 60; d++ {
					if a%d == 0 && b%d == 0 && c%d == 0 && (a != 0 || b != 0 || c != 0) {
						want = d
					}
				}
				if g != want || e != api.OK {
					t.Fatalf("Gcd(%d, %d, %d) = %d, %d", a, b, c, g, e)
				}
			}
		}
	}
}

func TestLcm(t *testing.T) {
	for _, x := range []struct {
		l []int
		m int
		e api.Errno
	}{
		{nil, 1, api.OK}, {[]int{1}, 1, api.OK}, {[]int{4, 6, 1}, 12, api.OK}, {[]int{512}, 512, api.OK}, {[]int{512, 256, 2}, 512, api.OK},
		{[]int{513}, 0, api.ErrFull}, {[]int{511, 512}, 0, api.ErrFull}, {[]int{math.MaxInt, math.MaxInt}, 0, api.ErrFull},
		{[]int{7, 0x6DB6DB6DB6DB6DB7}, 0, api.ErrFull}, {[]int{0x6DB6DB6DB6DB6DB7, 7}, 0, api.ErrFull}, // the product is 1 more than a multiple of 2^64
		{[]int{512, 3}, 0, api.ErrFull}, {[]int{511, 2}, 0, api.ErrFull}, {[]int{16, 32}, 32, api.OK}, {[]int{23, 22}, 506, api.OK},
		{[]int{0}, 0, api.ErrArg}, {[]int{-1}, 0, api.ErrArg}, {[]int{math.MinInt}, 0, api.ErrArg},
		{[]int{1 << 20, 0}, 0, api.ErrArg}, {[]int{511, 512, -3}, 0, api.ErrArg}, {[]int{0, 1 << 20}, 0, api.ErrArg},
	} {
		if m, e := num.Lcm(x.l...); m != x.m || e != x.e {
			t.Errorf("Lcm(%v) = %d, %d", x.l, m, e)
		}
	}
	for a := 1; a <= 40; a++ {
		for b := 1; b <= 40; b++ {
			want := a
			for want%b != 0 {
				want += a
			}
			m, e := num.Lcm(a, b)
			if want > 512 && e != api.ErrFull || want <= 512 && (m != want || e != api.OK) {
				t.Fatalf("Lcm(%d, %d) = %d, %d", a, b, m, e)
			}
		}
	}
	long := make([]int, 100000)
	for i := range long {
		long[i] = i%2 + 1
	}
	if m, e := num.Lcm(long...); m != 2 || e != api.OK {
		t.Errorf("Lcm of many: %d, %d", m, e)
	}
}

// P1.3.
func TestFits(t *testing.T) {
	for _, n := range []int{0, 1, -1, 1 << 20, -1 << 20} {
		if !num.Fits(n) {
			t.Errorf("%d does not fit", n)
		}
	}
	for _, n := range []int{1<<20 + 1, -1<<20 - 1, 1 << 32, math.MaxInt, math.MinInt} {
		if num.Fits(n) {
			t.Errorf("%d fits", n)
		}
	}
}

func TestWrap(t *testing.T) {
	for _, n := range numbers() {
		w := num.Wrap(n)
		if w < -1<<31 || w > 1<<31-1 || uint64(n-w)%(1<<32) != 0 {
			t.Errorf("Wrap(%d) = %d", n, w)
		}
	}
	for _, x := range [][2]int{{1 << 31, -1 << 31}, {-1<<31 - 1, 1<<31 - 1}, {1<<31 - 1, 1<<31 - 1}, {-1 << 31, -1 << 31}, {5, 5}, {1 << 32, 0}, {math.MinInt, 0}, {math.MaxInt, -1}} {
		if w := num.Wrap(x[0]); w != x[1] {
			t.Errorf("Wrap(%d) = %d", x[0], w)
		}
	}
}

// P1.8.
func TestWrapped(t *testing.T) {
	r := rand.New(rand.NewSource(1))
	for range 2000 {
		a, b := int(r.Uint64()>>2)-1<<60, int(r.Uint64()>>2)-1<<60
		v, w := num.Wrap(a), num.Wrap(b)
		if num.Wrap(v+w) != num.Wrap(a+b) || num.Wrap(v-w) != num.Wrap(a-b) {
			t.Fatalf("sum or difference of %d and %d", a, b)
		}
		c, d := a>>30, b>>31
		if num.Wrap(num.Wrap(c)*num.Wrap(d)) != num.Wrap(c*d) {
			t.Fatalf("product of %d and %d", c, d)
		}
	}
}

// P1.4.
func TestDot(t *testing.T) {
	const c, x = api.MaxCoef, api.MaxCoord
	twelve := func(n int) []int {
		l := make([]int, 12)
		for i := range l {
			l[i] = n
		}
		return l
	}
	for _, y := range []struct {
		c, x []int
		n    int
		e    api.Errno
	}{
		{nil, nil, 0, api.OK}, {[]int{}, nil, 0, api.OK}, {[]int{2, -1}, []int{1, 2}, 0, api.OK}, {[]int{3, -4}, []int{5, 6}, -9, api.OK},
		{twelve(c), twelve(x), 12 * c * x, api.OK}, {twelve(-c), twelve(x), -12 * c * x, api.OK}, {twelve(c), twelve(-x), -12 * c * x, api.OK},
		{[]int{1}, nil, 0, api.ErrDim}, {nil, []int{1}, 0, api.ErrDim}, {[]int{c + 1}, []int{1, 2}, 0, api.ErrDim},
		{make([]int, 13), make([]int, 13), 0, api.ErrFull}, {append(twelve(0), c+1), append(twelve(0), x+1), 0, api.ErrFull}, {make([]int, 14), make([]int, 13), 0, api.ErrDim},
		{[]int{c + 1}, []int{0}, 0, api.ErrRange}, {[]int{-c - 1}, []int{0}, 0, api.ErrRange},
		{[]int{0}, []int{x + 1}, 0, api.ErrRange}, {[]int{0}, []int{-x - 1}, 0, api.ErrRange}, {[]int{1, math.MinInt}, []int{1, 1}, 0, api.ErrRange}, {[]int{1, 1}, []int{1, math.MaxInt}, 0, api.ErrRange},
	} {
		if n, e := num.Dot(y.c, y.x); n != y.n || e != y.e {
			t.Errorf("Dot(%v, %v) = %d, %d", y.c, y.x, n, e)
		}
	}
}

// P1.5.
func TestSplit(t *testing.T) {
	for a := -40; a <= 40; a++ {
		for b := -40; b <= 40; b++ {
			checkSplit(t, a, b)
		}
	}
	for _, a := range numbers() {
		for _, b := range numbers() {
			checkSplit(t, a, b)
		}
	}
	if g, x, y, e := num.Split(6, 4); g != 2 || x != 1 || y != -1 || e != api.OK {
		t.Errorf("Split(6, 4) = %d, %d, %d, %d", g, x, y, e)
	}
	if g, x, y, e := num.Split(0, -3); g != 3 || x != 0 || y != -1 || e != api.OK {
		t.Errorf("Split(0, -3) = %d, %d, %d, %d", g, x, y, e)
	}
	if g, x, y, e := num.Split(0, 0); g != 0 || x != 0 || y != 0 || e != api.OK {
		t.Errorf("Split(0, 0) = %d, %d, %d, %d", g, x, y, e)
	}
}

func checkSplit(t *testing.T, a, b int) {
	t.Helper()
	g, x, y, e := num.Split(a, b)
	if !num.Fits(a) || !num.Fits(b) {
		if g != 0 || x != 0 || y != 0 || e != api.ErrRange {
			t.Fatalf("Split(%d, %d) = %d, %d, %d, %d", a, b, g, x, y, e)
		}
		return
	}
	want, _ := num.Gcd(a, b)
	if g != want || a*x+b*y != g || e != api.OK {
		t.Fatalf("Split(%d, %d) = %d, %d, %d, %d", a, b, g, x, y, e)
	}
	if b == 0 {
		if y != 0 || a > 0 && x != 1 || a < 0 && x != -1 || a == 0 && x != 0 {
			t.Fatalf("Split(%d, 0): x %d, y %d", a, x, y)
		}
		return
	}
	// The solutions x differ by multiples of |b| / g, so the least one is below that.
	if x < 0 || x >= max(b, -b)/g {
		t.Fatalf("Split(%d, %d): x %d is not the least", a, b, x)
	}
}

// P1.7, of large numbers: a x + b y = g means that every divisor of a and b divides g.
func TestGcdLarge(t *testing.T) {
	r := rand.New(rand.NewSource(2))
	for range 500 {
		k := r.Intn(1<<20) + 1
		a, b := k*r.Intn(1<<40), k*r.Intn(1<<40)
		g, e := num.Gcd(a, -b)
		if e != api.OK || g == 0 || a%g != 0 || b%g != 0 || g%k != 0 {
			t.Fatalf("Gcd(%d, %d) = %d, %d", a, -b, g, e)
		}
		if h, _ := num.Gcd(a/g, b/g); h != 1 {
			t.Fatalf("Gcd(%d, %d) = %d is not the greatest", a, -b, g)
		}
	}
}
