// Package num is layer 1: exact integer arithmetic.
package num

import "headland/api"

// Floor returns the greatest integer that is at most a / b, for b of at least 1.
func Floor(a, b int) (int, api.Errno) {
	if b < 1 {
		return 0, api.ErrArg
	}
	q := a / b
	if a%b < 0 {
		q--
	}
	return q, api.OK
}

// Ceil returns the least integer that is at least a / b, for b of at least 1.
func Ceil(a, b int) (int, api.Errno) {
	if b < 1 {
		return 0, api.ErrArg
	}
	q := a / b
	if a%b > 0 {
		q++
	}
	return q, api.OK
}

// Mod returns a - b floor(a / b), for b of at least 1.
func Mod(a, b int) (int, api.Errno) {
	if b < 1 {
		return 0, api.ErrArg
	}
	r := a % b
	if r < 0 {
		r += b
	}
	return r, api.OK
}

// Gcd returns the greatest common divisor of its arguments.
func Gcd(l ...int) (int, api.Errno) {
	g := fold(l, uint64(0), func(g uint64, n int) uint64 { return divisor(g, size(n)) })
	// Only the least int has an absolute value that no int equals.
	if g > 1<<63-1 {
		return 0, api.ErrFull
	}
	return int(g), api.OK
}

// Lcm returns the least common multiple of its arguments, which is at most MaxMod.
func Lcm(l ...int) (int, api.Errno) {
	if !fold(l, true, func(good bool, n int) bool { return good && n >= 1 }) {
		return 0, api.ErrArg
	}
	m := fold(l, uint64(1), multiple)
	if m > api.MaxMod {
		return 0, api.ErrFull
	}
	return int(m), api.OK
}

// fold combines the elements of a list, from the first one to the last one.
func fold[E, R any](l []E, start R, join func(R, E) R) R {
	for _, e := range l {
		start = join(start, e)
	}
	return start
}

// size returns the absolute value of n, which fits for the least int, too.
func size(n int) uint64 {
	if n < 0 {
		return -uint64(n)
	}
	return uint64(n)
}

func divisor(a, b uint64) uint64 {
	for b != 0 {
		a, b = b, a%b
	}
	return a
}

// multiple returns the least common multiple of m and n, or some number above MaxMod if it is above that: a multiple of such a number is above it, too, and the product of numbers up to MaxMod does not overflow.
func multiple(m uint64, n int) uint64 {
	if m > api.MaxMod || n > api.MaxMod {
		return api.MaxMod + 1
	}
	return m / divisor(m, uint64(n)) * uint64(n)
}

// Fits reports whether n is a valid coefficient.
func Fits(n int) bool {
	return -api.MaxCoef <= n && n <= api.MaxCoef
}

// Wrap returns the value that differs from n by a multiple of 2^32.
func Wrap(n int) int {
	return int(int32(n))
}

// Dot returns the sum of the products of the coefficients c and the coordinates x.
func Dot(c, x []int) (int, api.Errno) {
	if len(c) != len(x) {
		return 0, api.ErrDim
	}
	if len(c) > api.MaxVars {
		return 0, api.ErrFull
	}
	sum := 0
	for i := range c {
		if !Fits(c[i]) || x[i] < -api.MaxCoord || x[i] > api.MaxCoord {
			return 0, api.ErrRange
		}
		sum += c[i] * x[i]
	}
	return sum, api.OK
}

// Split returns the greatest common divisor g of a and b, with a x + b y = g and the least x that is not negative (if b is 0, the x of the least size).
func Split(a, b int) (g, x, y int, e api.Errno) {
	if !Fits(a) || !Fits(b) {
		return 0, 0, 0, api.ErrRange
	}
	// At each turn g = a x + (some multiple of b) and rest = a next + (some multiple of b).
	g, rest := a, b
	x, next := 1, 0
	for rest != 0 {
		q := g / rest
		g, rest, x, next = rest, g-q*rest, next, x-q*next
	}
	if g < 0 {
		g, x = -g, -x
	}
	if g == 0 {
		return 0, 0, 0, api.OK
	}
	if b == 0 {
		return g, x, 0, api.OK
	}
	x, _ = Mod(x, int(size(b))/g)
	return g, x, (g - a*x) / b, api.OK
}
