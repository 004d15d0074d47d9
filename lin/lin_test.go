package lin_test

import (
	"headland/api"
	"headland/lin"
	"math"
	"math/rand"
	"slices"
	"testing"
)

const most = api.MaxCoef

func of(k int, c ...int) api.Lin { return api.Lin{C: c, K: k} }

func same(a, b api.Lin) bool { return a.K == b.K && slices.Equal(a.C, b.C) }

// bad are expressions that are not valid.
func bad() []api.Lin {
	return []api.Lin{of(most + 1), of(-most - 1), of(0, most+1), of(0, 1, -most-1), of(math.MinInt, 1), of(0, math.MaxInt), of(0, make([]int, 13)...)}
}

// P2.1.
func TestValid(t *testing.T) {
	for _, l := range bad() {
		if lin.Valid(l) {
			t.Errorf("%v is valid", l)
		}
	}
	for _, l := range []api.Lin{{}, of(most), of(-most, most, -most), of(1, make([]int, 12)...), {C: []int{}}} {
		if !lin.Valid(l) {
			t.Errorf("%v is not valid", l)
		}
	}
}

// P2.2.
func TestConstVar(t *testing.T) {
	for n := -2; n <= 14; n++ {
		for _, k := range []int{0, 7, -most, most, most + 1, -most - 1, math.MinInt} {
			l, e := lin.Const(n, k)
			switch {
			case n < 0 || n > 12:
				if e != api.ErrRange || !same(l, api.Lin{}) {
					t.Errorf("Const(%d, %d): %v, %d", n, k, l, e)
				}
			case k > most || k < -most:
				if e != api.ErrFull || !same(l, api.Lin{}) {
					t.Errorf("Const(%d, %d): %v, %d", n, k, l, e)
				}
			case e != api.OK || !same(l, of(k, make([]int, n)...)):
				t.Errorf("Const(%d, %d): %v, %d", n, k, l, e)
			}
		}
		for i := -2; i <= 14; i++ {
			l, e := lin.Var(n, i)
			if n < 0 || n > 12 || i < 0 || i >= n {
				if e != api.ErrRange || !same(l, api.Lin{}) {
					t.Errorf("Var(%d, %d): %v, %d", n, i, l, e)
				}
				continue
			}
			want := make([]int, n)
			want[i] = 1
			if e != api.OK || !same(l, of(0, want...)) {
				t.Errorf("Var(%d, %d): %v, %d", n, i, l, e)
			}
		}
	}
	for _, n := range []int{math.MinInt, math.MaxInt} {
		if _, e := lin.Const(n, 0); e != api.ErrRange {
			t.Errorf("Const(%d): %d", n, e)
		}
		if _, e := lin.Var(n, n); e != api.ErrRange {
			t.Errorf("Var(%d): %d", n, e)
		}
	}
}

// P2.3.
func TestAddSub(t *testing.T) {
	for _, x := range []struct {
		a, b, sum, dif api.Lin
		es, ed         api.Errno
	}{
		{of(3, 2, -1), of(1, 0, 5), of(4, 2, 4), of(2, 2, -6), api.OK, api.OK},
		{api.Lin{}, of(7), of(7), of(-7), api.OK, api.OK},
		{of(most, 1), of(1, 1), api.Lin{}, of(most-1, 0), api.ErrFull, api.OK},
		{of(-most, 1), of(1, 1), of(1-most, 2), api.Lin{}, api.OK, api.ErrFull},
		{of(0, 0, most), of(0, 0, most), api.Lin{}, of(0, 0, 0), api.ErrFull, api.OK},
		{of(0, most, 0), of(0, -most, 0), of(0, 0, 0), api.Lin{}, api.OK, api.ErrFull},
		{of(1), of(1, 1), api.Lin{}, api.Lin{}, api.ErrDim, api.ErrDim},
		{of(most), of(1, 1), api.Lin{}, api.Lin{}, api.ErrDim, api.ErrDim},
	} {
		if l, e := lin.Add(x.a, x.b); !same(l, x.sum) || e != x.es {
			t.Errorf("Add(%v, %v) = %v, %d", x.a, x.b, l, e)
		}
		if l, e := lin.Sub(x.a, x.b); !same(l, x.dif) || e != x.ed {
			t.Errorf("Sub(%v, %v) = %v, %d", x.a, x.b, l, e)
		}
	}
	for _, b := range bad() {
		for _, e := range []api.Errno{errOf(lin.Add(b, of(0))), errOf(lin.Add(of(0), b)), errOf(lin.Sub(b, of(0))), errOf(lin.Sub(of(0), b)), errOf(lin.Scale(b, 0))} {
			if e != api.ErrArg {
				t.Errorf("%v: %d", b, e)
			}
		}
	}
}

func errOf(l api.Lin, e api.Errno) api.Errno {
	if e != api.OK && !same(l, api.Lin{}) {
		return -1
	}
	return e
}

func TestScale(t *testing.T) {
	for _, x := range []struct {
		a api.Lin
		k int
		r api.Lin
		e api.Errno
	}{
		{of(3, 2, -1), -2, of(-6, -4, 2), api.OK}, {of(3, 2), 0, of(0, 0), api.OK}, {of(1, 1), most, of(most, most), api.OK}, {of(-1, 1), -most, of(most, -most), api.OK},
		{of(3, 2), most, api.Lin{}, api.ErrFull}, {of(1, 0), most + 1, api.Lin{}, api.ErrFull}, {of(0, 1), math.MinInt, api.Lin{}, api.ErrFull},
		{of(0, 4), 1 << 62, api.Lin{}, api.ErrFull}, {of(2), math.MinInt, api.Lin{}, api.ErrFull}, {of(0, 0), math.MinInt, of(0, 0), api.OK}, {api.Lin{}, math.MaxInt, api.Lin{}, api.OK},
		{of(0, most, 1), 2, api.Lin{}, api.ErrFull}, {of(most/2, 1), 2, of(most, 2), api.OK}, {of(most/2+1, 1), 2, api.Lin{}, api.ErrFull},
	} {
		if l, e := lin.Scale(x.a, x.k); !same(l, x.r) || e != x.e {
			t.Errorf("Scale(%v, %d) = %v, %d", x.a, x.k, l, e)
		}
	}
}

// P2.4.
func TestAt(t *testing.T) {
	const far = api.MaxCoord
	for _, x := range []struct {
		l api.Lin
		x []int
		n int
		e api.Errno
	}{
		{of(3, 2, -1), []int{1, 2}, 3, api.OK}, {of(-4), nil, -4, api.OK}, {of(most, most, -most), []int{far, -far}, most + 2*most*far, api.OK},
		{of(1, 1), nil, 0, api.ErrDim}, {of(1), []int{far + 1}, 0, api.ErrDim}, {of(1, 0), []int{far + 1}, 0, api.ErrRange}, {of(1, 0), []int{-far - 1}, 0, api.ErrRange},
		{of(most+1, 0), []int{far + 1}, 0, api.ErrArg}, {of(0, most+1), nil, 0, api.ErrArg}, {of(0, make([]int, 13)...), make([]int, 13), 0, api.ErrArg},
	} {
		if n, e := lin.At(x.l, x.x); n != x.n || e != x.e {
			t.Errorf("At(%v, %v) = %d, %d", x.l, x.x, n, e)
		}
	}
}

// P2.5.
func TestPut(t *testing.T) {
	for _, x := range []struct {
		l  api.Lin
		i  int
		by api.Lin
		r  api.Lin
		e  api.Errno
	}{
		{of(3, 2, -1), 0, of(1, 0, 1), of(5, 0, 1), api.OK}, {of(3, 2, -1), 0, of(1, 3, 1), of(5, 6, 1), api.OK}, {of(3, 0, 4), 0, of(most, most, most), of(3, 0, 4), api.OK},
		{of(0, 1, -1), 1, of(0, 1, 0), of(0, 0, 0), api.OK}, {of(most, 1), 0, of(1, 1), api.Lin{}, api.ErrFull}, {of(0, most, 1), 0, of(0, 0, 2), api.Lin{}, api.ErrFull},
		{of(0, most, 1), 0, of(most, most, most), api.Lin{}, api.ErrFull}, {of(0, most), 0, of(0, 0), of(0, 0), api.OK},
		{of(0, 1), 1, of(0, 0), api.Lin{}, api.ErrRange}, {of(0, 1), -1, of(0, 0), api.Lin{}, api.ErrRange}, {of(0, 1), math.MinInt, of(0, 0), api.Lin{}, api.ErrRange}, {api.Lin{}, 0, api.Lin{}, api.Lin{}, api.ErrRange},
		{of(0, 1), 5, of(0), api.Lin{}, api.ErrDim}, {of(most+1, 1), 5, of(0), api.Lin{}, api.ErrArg}, {of(0, 1), 5, of(0, most+1), api.Lin{}, api.ErrArg},
	} {
		if l, e := lin.Put(x.l, x.i, x.by); !same(l, x.r) || e != x.e {
			t.Errorf("Put(%v, %d, %v) = %v, %d", x.l, x.i, x.by, l, e)
		}
	}
}

// P2.6.
func TestCutRoom(t *testing.T) {
	for _, x := range []struct {
		l api.Lin
		i int
		r api.Lin
		e api.Errno
	}{
		{of(3, 2, 0, 1), 1, of(3, 2, 1), api.OK}, {of(3, 0), 0, of(3), api.OK}, {of(3, 0, 4), 0, of(3, 4), api.OK}, {of(3, 4, 0), 1, of(3, 4), api.OK},
		{of(3, 2, 0), 0, api.Lin{}, api.ErrForm}, {of(3, 2), 1, api.Lin{}, api.ErrRange}, {of(3, 2), -1, api.Lin{}, api.ErrRange}, {of(3), 0, api.Lin{}, api.ErrRange}, {of(most+1, 2), 7, api.Lin{}, api.ErrArg},
	} {
		if l, e := lin.Cut(x.l, x.i); !same(l, x.r) || e != x.e {
			t.Errorf("Cut(%v, %d) = %v, %d", x.l, x.i, l, e)
		}
	}
	for _, x := range []struct {
		l    api.Lin
		i, k int
		r    api.Lin
		e    api.Errno
	}{
		{of(3, 2, -1), 1, 2, of(3, 2, 0, 0, -1), api.OK}, {of(3, 2), 0, 1, of(3, 0, 2), api.OK}, {of(3, 2), 1, 1, of(3, 2, 0), api.OK}, {of(3, 2), 1, 0, of(3, 2), api.OK},
		{of(3), 0, 12, of(3, make([]int, 12)...), api.OK}, {of(3), 0, 13, api.Lin{}, api.ErrFull}, {of(3, 2), 1, 12, api.Lin{}, api.ErrFull}, {of(3, 2), 1, 11, of(3, append([]int{2}, make([]int, 11)...)...), api.OK},
		{of(3, 2), 1, math.MaxInt, api.Lin{}, api.ErrFull}, {of(3, 2), 2, 1, api.Lin{}, api.ErrRange}, {of(3, 2), -1, 1, api.Lin{}, api.ErrRange}, {of(3, 2), 0, -1, api.Lin{}, api.ErrRange},
		{of(3, 2), 2, math.MaxInt, api.Lin{}, api.ErrRange}, {of(3, 2), 0, math.MinInt, api.Lin{}, api.ErrRange}, {of(most+1, 2), 2, -1, api.Lin{}, api.ErrArg},
	} {
		if l, e := lin.Room(x.l, x.i, x.k); !same(l, x.r) || e != x.e {
			t.Errorf("Room(%v, %d, %d) = %v, %d", x.l, x.i, x.k, l, e)
		}
	}
}

// P2.7.
func TestCompare(t *testing.T) {
	sorted := []api.Lin{of(5, -3, 9), of(-1, 0, -2), of(4, 0, -2), of(-9, 0, 7), of(2, 1, -5), of(3, 1, -5)}
	for i, a := range sorted {
		for j, b := range sorted {
			want := 0
			if i < j {
				want = -1
			} else if i > j {
				want = 1
			}
			if n, e := lin.Compare(a, b); n != want || e != api.OK {
				t.Errorf("Compare(%v, %v) = %d, %d", a, b, n, e)
			}
		}
	}
	if n, e := lin.Compare(api.Lin{}, api.Lin{C: []int{}}); n != 0 || e != api.OK {
		t.Errorf("Compare of empty ones: %d, %d", n, e)
	}
	if n, e := lin.Compare(of(1), of(1, 2)); n != 0 || e != api.ErrDim {
		t.Errorf("Compare: %d, %d", n, e)
	}
	for _, b := range bad() {
		if n, e := lin.Compare(b, of(0)); n != 0 || e != api.ErrArg {
			t.Errorf("Compare(%v): %d, %d", b, n, e)
		}
		if n, e := lin.Compare(of(0), b); n != 0 || e != api.ErrArg {
			t.Errorf("Compare(.., %v): %d, %d", b, n, e)
		}
	}
}

// P2.8.
func TestValues(t *testing.T) {
	r := rand.New(rand.NewSource(3))
	some := func(n, most int) []int {
		l := make([]int, n)
		for i := range l {
			l[i] = r.Intn(2*most+1) - most
		}
		return l
	}
	at := func(l api.Lin, x []int) int {
		n, e := lin.At(l, x)
		if e != api.OK {
			t.Fatalf("At(%v, %v): %d", l, x, e)
		}
		return n
	}
	for range 500 {
		n := r.Intn(6) + 1
		a, b := of(r.Intn(99)-49, some(n, 50)...), of(r.Intn(99)-49, some(n, 50)...)
		x, k, i := some(n, 1<<20), r.Intn(99)-49, r.Intn(n)
		sum, _ := lin.Add(a, b)
		dif, _ := lin.Sub(a, b)
		mul, _ := lin.Scale(a, k)
		put, _ := lin.Put(a, i, b)
		if at(sum, x) != at(a, x)+at(b, x) || at(dif, x) != at(a, x)-at(b, x) || at(mul, x) != k*at(a, x) {
			t.Fatalf("values of %v, %v at %v", a, b, x)
		}
		y := slices.Clone(x)
		y[i] = at(b, x)
		if at(put, x) != at(a, y) {
			t.Fatalf("Put(%v, %d, %v) at %v", a, i, b, x)
		}
		wide, _ := lin.Room(a, i, 2)
		z := slices.Insert(slices.Clone(x), i, 77, -5)
		cut, e := lin.Cut(wide, i)
		if at(wide, z) != at(a, x) || e != api.OK || at(cut, slices.Delete(slices.Clone(z), i, i+1)) != at(a, x) {
			t.Fatalf("Room and Cut of %v", a)
		}
	}
}

// A result shares no memory with an argument, and no argument is changed.
func TestMemory(t *testing.T) {
	a, b := of(1, 2, 0, 4), of(5, 6, 7, 8)
	results := []api.Lin{}
	for _, f := range []func() (api.Lin, api.Errno){
		func() (api.Lin, api.Errno) { return lin.Add(a, b) }, func() (api.Lin, api.Errno) { return lin.Sub(a, b) },
		func() (api.Lin, api.Errno) { return lin.Scale(a, 1) }, func() (api.Lin, api.Errno) { return lin.Put(a, 1, b) },
		func() (api.Lin, api.Errno) { return lin.Cut(a, 1) }, func() (api.Lin, api.Errno) { return lin.Room(a, 3, 0) },
	} {
		l, e := f()
		if e != api.OK {
			t.Fatal(e)
		}
		results = append(results, l)
	}
	for _, l := range results {
		for i := range l.C {
			l.C[i] = 99
		}
	}
	if !same(a, of(1, 2, 0, 4)) || !same(b, of(5, 6, 7, 8)) {
		t.Errorf("%v, %v", a, b)
	}
}
