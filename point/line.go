package point

import (
	"headland/api"
	"headland/num"
)

// far is beyond every bound that conditions at a point may give (2^20 + 12 2^52), and far more than a coordinate.
const far = 1 << 58

// class is a residue class: the integers that are r modulo m, with r from 0 to m - 1.
type class struct{ r, m int }

// line is a piece of one variable: its values are from low to high, and in all classes. Without a bound, low is -far and high is far. The first class may have a great modulus; the others have small ones.
type line struct {
	low, high int
	step      class
	others    []class
}

// bounded reports which bounds the line has.
func (l line) bounded() (below, above bool) {
	return l.low > -far, l.high < far
}

// term is a condition a v + k of one variable v.
type term struct {
	kind, m, a, k int
}

// drawn returns the line of some conditions, and false if it has no values.
func drawn(terms []term) (line, bool) {
	l := line{low: -far, high: far, step: class{0, 1}}
	var classes []class
	for _, t := range terms {
		var ok bool
		switch {
		case t.kind == api.Div:
			var c class
			c, ok = residue(t)
			classes = append(classes, c)
		default:
			ok = l.bound(t)
		}
		if !ok {
			return line{}, false
		}
	}
	if l.low > l.high || !compatible(classes) {
		return line{}, false
	}
	l.combine(classes)
	return l, true
}

// bound takes over a Ge or an Eq.
func (l *line) bound(t term) bool {
	if t.a == 0 {
		return t.k == 0 || t.k > 0 && t.kind == api.Ge
	}
	if t.kind == api.Eq {
		if t.k%t.a != 0 {
			return false
		}
		l.low, l.high = max(l.low, -t.k/t.a), min(l.high, -t.k/t.a)
		return true
	}
	if t.a > 0 {
		low, _ := num.Ceil(-t.k, t.a)
		l.low = max(l.low, low)
	} else {
		high, _ := num.Floor(t.k, -t.a)
		l.high = min(l.high, high)
	}
	return true
}

// residue returns the class of the values at which m divides a v + k, and false if there are none.
func residue(t term) (class, bool) {
	a, _ := num.Mod(t.a, t.m)
	k, _ := num.Mod(-t.k, t.m)
	g, x, _, _ := num.Split(a, t.m)
	if k%g != 0 {
		return class{}, false
	}
	m := t.m / g
	return class{k / g * x % m, m}, true
}

// compatible reports whether an integer is in all classes: it is enough that one is in each two of them.
func compatible(l []class) bool {
	for i, c := range l {
		for _, d := range l[:i] {
			g, _ := num.Gcd(c.m, d.m)
			if (c.r-d.r)%g != 0 {
				return false
			}
		}
	}
	return true
}

// combine joins classes to one as long as its modulus stays so small that nothing overflows. Few values of that one are within the bounds if others are left.
func (l *line) combine(classes []class) {
	for i, c := range classes {
		if l.step.m > 1<<44 {
			l.others = classes[i:]
			return
		}
		g, _ := num.Gcd(l.step.m, c.m)
		r := l.step.r
		for (r-c.r)%c.m != 0 {
			r += l.step.m
		}
		l.step = class{r, l.step.m / g * c.m}
	}
}

// mirrored returns the line of the negated values.
func (l line) mirrored() line {
	turn := func(c class) class {
		r, _ := num.Mod(-c.r, c.m)
		return class{r, c.m}
	}
	m := line{low: -l.high, high: -l.low, step: turn(l.step)}
	for _, c := range l.others {
		m.others = append(m.others, turn(c))
	}
	return m
}

// next returns the least value that is at least from, which is not below -far; it may be a number above far that stands for such a value. It returns false if there is none.
func (l line) next(from int) (int, bool) {
	from = max(from, l.low)
	gap, _ := num.Mod(l.step.r-from, l.step.m)
	x := from + gap
	for x <= l.high && x <= far && !l.in(x) {
		x += l.step.m
	}
	_, above := l.bounded()
	return x, !above || x <= l.high
}

// in reports whether x is in all the classes that could not be combined.
func (l line) in(x int) bool {
	for _, c := range l.others {
		if (x-c.r)%c.m != 0 {
			return false
		}
	}
	return true
}
