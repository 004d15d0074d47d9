// Package clean removes pieces that say nothing from lists of pieces.
package clean

import (
	"headland/api"
	"headland/elim"
	"headland/wide"
)

// Pieces makes each piece over dim variables normal, and leaves out those that are void, have no points, or are equal to an earlier one. The numbers of the pieces may exceed the limits.
func Pieces(l [][]api.Cond, dim int) ([][]api.Cond, api.Errno) {
	seen := map[string]bool{}
	var kept [][]api.Cond
	for _, p := range l {
		q, void, e := wide.Piece(p)
		key := wide.Key(q)
		if e != api.OK {
			return nil, e
		}
		if void || seen[key] {
			goto next
		}
		seen[key] = true
		if none, e := elim.Empty(api.Set{Dim: dim, Pieces: [][]api.Cond{q}}); e != api.OK {
			return nil, e
		} else if none {
			goto next
		}
		if len(kept) == api.MaxPieces {
			return nil, api.ErrFull
		}
		kept = append(kept, q)
	next:
	}
	return kept, api.OK
}
