package farkas

import (
	"headland/api"
	"math/bits"
)

// small is the greatest size of a denominator and of a numerator of a rational point.
const small = 1 << 28

// fraction is a number with a positive denominator.
type fraction struct{ num, den int }

// Inner returns a rational point that satisfies all Ge and Eq conditions of a piece over n variables: numerators and their denominator.
func Inner(p []api.Cond, n int) (x []int, den int, e api.Errno) {
	defer func() {
		if e != api.OK {
			x, den = nil, 0
		}
	}()
	l, e := stages(p, n)
	if e != api.OK {
		return nil, 0, e
	}
	if _, ok := refutation(l[0]); ok {
		return nil, 0, api.ErrNone
	}
	den = 1
	for v := range n {
		if x, den, e = joined(x, den, chosen(l[v+1], x, den)); e != api.OK {
			return x, den, e
		}
	}
	return x, den, api.OK
}

// chosen returns the value of the variable after those in x, by rows that mention no later ones.
func chosen(l []row, x []int, den int) fraction {
	v := len(x)
	var low, high fraction
	for _, r := range l {
		a := r.vector[v]
		if a == 0 {
			continue
		}
		rest := r.constant() * den
		for i, n := range x {
			rest += r.vector[i] * n
		}
		// a times the value plus rest / den is 0, or is at least 0.
		f := fraction{-rest, a * den}
		if a < 0 {
			f = fraction{rest, -a * den}
		}
		f = f.reduced()
		switch {
		case r.eq:
			return f
		case a > 0 && (low.den == 0 || low.less(f)):
			low = f
		case a < 0 && (high.den == 0 || f.less(high)):
			high = f
		}
	}
	switch {
	case low.den > 0:
		return low
	case high.den > 0:
		return high
	}
	return fraction{0, 1}
}

func (f fraction) reduced() fraction {
	a, b := f.num, f.den
	for b != 0 {
		a, b = b, a%b
	}
	a = max(a, -a)
	return fraction{f.num / a, f.den / a}
}

// less compares two fractions; their products need 128 bits.
func (f fraction) less(g fraction) bool {
	if f.num < 0 != (g.num < 0) {
		return f.num < 0
	}
	a, b := product(f.num, g.den), product(g.num, f.den)
	if f.num < 0 {
		a, b = b, a
	}
	return a[0] < b[0] || a[0] == b[0] && a[1] < b[1]
}

// product returns the size of a times b.
func product(a, b int) [2]uint64 {
	high, low := bits.Mul64(uint64(max(a, -a)), uint64(b))
	return [2]uint64{high, low}
}

// joined appends a value to values with a common denominator.
func joined(x []int, den int, f fraction) ([]int, int, api.Errno) {
	if f.den > small || f.num > small || f.num < -small {
		return nil, 0, api.ErrFull
	}
	shared := fraction{den, f.den}.reduced() // den / f.den
	all := f.den * shared.num
	var r []int
	for _, n := range x {
		r = append(r, n*shared.den)
	}
	r = append(r, f.num*shared.num)
	if all > small || !vector[int](r).within(small) {
		return nil, 0, api.ErrFull
	}
	return r, all, api.OK
}
