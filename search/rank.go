package search

import (
	"headland/api"
	"math/bits"
)

// number is an element of a field.
type number[T any] interface {
	minus(T) T
	times(T) T
	inverse() T
	zero() bool
}

// basis is a list of independent rows. Each has a position at which it is not 0, but the rows after it are.
type basis[T number[T]] struct {
	rows [][]T
	lead []int
}

// rest subtracts multiples of the rows of the basis from a row, and returns the first position at which it is not 0 then, or -1 if there is none.
func (b *basis[T]) rest(row []T) ([]T, int) {
	for i, r := range b.rows {
		row = without(row, r, b.lead[i])
	}
	for j, x := range row {
		if !x.zero() {
			return row, j
		}
	}
	return row, -1
}

// add adds a row if it is independent.
func (b *basis[T]) add(row []T) {
	if r, j := b.rest(row); j >= 0 {
		b.rows, b.lead = append(b.rows, r), append(b.lead, j)
	}
}

// without subtracts the multiple of by from row that makes its element at position j 0.
func without[T number[T]](row, by []T, j int) []T {
	k := row[j].times(by[j].inverse())
	r := make([]T, len(row))
	for i := range row {
		r[i] = row[i].minus(by[i].times(k))
	}
	return r
}

// residue is an integer modulo a prime. The determinant of at most 12 rows of at most 12 numbers from -8 to 8 is less than 2^58, so it is 0 modulo the prime only if it is 0, and rows are independent modulo the prime if they are.
type residue uint64

const prime = 1<<61 - 1

func (a residue) zero() bool { return a == 0 }

func (a residue) minus(b residue) residue { return (a + prime - b) % prime }

func (a residue) times(b residue) residue {
	high, low := bits.Mul64(uint64(a), uint64(b))
	return residue(bits.Rem64(high, low, prime))
}

// inverse returns the power of prime - 2.
func (a residue) inverse() residue {
	r := residue(1)
	for n := uint64(prime - 2); n > 0; n /= 2 {
		if n%2 == 1 {
			r = r.times(a)
		}
		a = a.times(a)
	}
	return r
}

func residues(l []int) []residue {
	r := make([]residue, len(l))
	for i, n := range l {
		r[i] = residue((n + prime) % prime)
	}
	return r
}

// based returns the basis of some rows.
func based(rows [][]int) *basis[residue] {
	b := &basis[residue]{}
	for _, l := range rows {
		b.add(residues(l))
	}
	return b
}

// independent reports whether a row is independent of those of a basis.
func (b *basis[T]) independent(row []T) bool {
	_, j := b.rest(row)
	return j >= 0
}

// Rank returns how many rows are independent of the rows before them.
func Rank(rows [][]int) (int, api.Errno) {
	if len(rows) > api.MaxVars {
		return 0, api.ErrFull
	}
	for _, l := range rows {
		if len(l) != len(rows[0]) {
			return 0, api.ErrDim
		}
	}
	if len(rows) > 0 && len(rows[0]) > api.MaxVars {
		return 0, api.ErrFull
	}
	for _, l := range rows {
		for _, n := range l {
			if n < -8 || n > 8 {
				return 0, api.ErrRange
			}
		}
	}
	return len(based(rows).rows), api.OK
}
