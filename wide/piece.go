package wide

import (
	"headland/api"
	"slices"
)

// Piece normalizes a piece. It returns ErrFull if the piece is refused, and true if it is void.
func Piece(l []api.Cond) (p []api.Cond, void bool, e api.Errno) {
	p, fits, void := normals(l)
	if void {
		return nil, true, api.OK
	}
	slices.SortFunc(p, Order)
	p, void = settled(p)
	if void {
		return nil, true, api.OK
	}
	if !fits || len(p) > api.MaxConds {
		return nil, false, api.ErrFull
	}
	return p, false, api.OK
}

// normals normalizes each condition, and leaves out those that always hold. It reports whether all the others fit, and whether one of them never holds.
func normals(l []api.Cond) (p []api.Cond, fits, void bool) {
	p = make([]api.Cond, 0, len(l))
	fits = true
	for _, c := range l {
		n, v := Normal(c)
		switch v {
		case Never:
			return nil, false, true
		case Open:
			fits = fits && Fits(n)
			p = append(p, n)
		}
	}
	return p, fits, false
}

// settled compares the sorted and normalized conditions of a piece with each other.
func settled(p []api.Cond) (r []api.Cond, void bool) {
	eqs, ges, divs := kinds(p)
	ges = slices.CompactFunc(ges, sameSlope)
	tight, ges, void := paired(ges)
	if void {
		return nil, true
	}
	if len(tight) > 0 {
		eqs = slices.Concat(eqs, tight)
		slices.SortFunc(eqs, Order)
	}
	eqs = slices.CompactFunc(eqs, equal)
	for i := range len(eqs) - 1 {
		if sameSlope(eqs[i], eqs[i+1]) {
			return nil, true
		}
	}
	ges, void = unimplied(eqs, ges)
	if void {
		return nil, true
	}
	return slices.Concat(eqs, ges, slices.CompactFunc(divs, equal)), false
}

// kinds divides a sorted list by the kinds of its conditions.
func kinds(p []api.Cond) (eqs, ges, divs []api.Cond) {
	a := 0
	for a < len(p) && p[a].Kind == api.Eq {
		a++
	}
	b := a
	for b < len(p) && p[b].Kind == api.Ge {
		b++
	}
	return p[:a:a], p[a:b:b], p[b:]
}

func sameSlope(a, b api.Cond) bool {
	return slices.Equal(a.L.C, b.L.C)
}

func equal(a, b api.Cond) bool {
	return Order(a, b) == 0
}

// paired compares each Ge with the one of the opposite coefficients. Pairs that leave one value become Eqs.
func paired(ges []api.Cond) (tight, rest []api.Cond, void bool) {
	gone := make([]bool, len(ges))
	for i, c := range ges {
		if Lead(c.L.C) < 0 {
			continue
		}
		j, ok := find(ges, c.L.C, -1)
		if !ok {
			continue
		}
		switch k := c.L.K + ges[j].L.K; {
		case k < 0:
			return nil, nil, true
		case k == 0:
			gone[i], gone[j] = true, true
			tight = append(tight, api.Cond{Kind: api.Eq, L: c.L})
		}
	}
	for i, c := range ges {
		if !gone[i] {
			rest = append(rest, c)
		}
	}
	return tight, rest, false
}

// unimplied returns the Ges about which no Eq decides; the piece is void if an Eq contradicts one.
func unimplied(eqs, ges []api.Cond) (rest []api.Cond, void bool) {
	if len(eqs) == 0 {
		return ges, false
	}
	for _, c := range ges {
		sign := 1
		if Lead(c.L.C) < 0 {
			sign = -1
		}
		i, ok := find(eqs, c.L.C, sign)
		if !ok {
			rest = append(rest, c)
		} else if c.L.K-sign*eqs[i].L.K < 0 {
			// Where C x + k = 0, the value of sign C x + K is K - sign k.
			return nil, true
		}
	}
	return rest, false
}

// find looks in a list that is sorted by coefficients for sign times c.
func find(l []api.Cond, c []int, sign int) (int, bool) {
	return slices.BinarySearchFunc(l, c, func(a api.Cond, c []int) int {
		for i, n := range a.L.C {
			if n != sign*c[i] {
				if n < sign*c[i] {
					return -1
				}
				return 1
			}
		}
		return 0
	})
}

// Key returns a string that differs for different pieces.
func Key(p []api.Cond) string {
	var b []byte
	for _, c := range p {
		b = append(b, byte(c.Kind))
		b = number(b, c.M)
		for _, n := range c.L.C {
			b = number(b, n)
		}
		b = number(b, c.L.K)
	}
	return string(b)
}

// number appends n, of any size, in a form of which none begins another one.
func number(b []byte, n int) []byte {
	u := uint64(n)<<1 ^ uint64(n>>63)
	for u >= 0x80 {
		b = append(b, byte(u)|0x80)
		u >>= 7
	}
	return append(b, byte(u))
}

// Clone returns a copy of a piece.
func Clone(p []api.Cond) []api.Cond {
	r := slices.Clone(p)
	for i := range r {
		r[i].L.C = slices.Clone(r[i].L.C)
	}
	return r
}
