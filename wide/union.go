package wide

import "headland/api"

// Union collects the different pieces of a normalized set.
type Union struct {
	pieces [][]api.Cond
	seen   map[string]bool
}

// NewUnion returns an empty union.
func NewUnion() *Union {
	return &Union{seen: map[string]bool{}}
}

// Add normalizes a piece and keeps it, unless it is void or there already. It returns ErrFull if the piece or the set is refused.
func (u *Union) Add(l []api.Cond) api.Errno {
	p, void, e := Piece(l)
	if e != api.OK || void {
		return e
	}
	return u.Keep(p)
}

// Keep keeps a normalized piece, unless it is there already.
func (u *Union) Keep(p []api.Cond) api.Errno {
	key := Key(p)
	if u.seen[key] {
		return api.OK
	}
	// The pieces only become more, so the first one too many decides.
	if len(u.pieces) == api.MaxPieces {
		return api.ErrFull
	}
	u.seen[key] = true
	u.pieces = append(u.pieces, p)
	return api.OK
}

// Pieces returns the pieces.
func (u *Union) Pieces() [][]api.Cond {
	return u.pieces
}

// Where returns the points of s at which conditions that may exceed the limits hold; they count together with each piece.
func Where(s api.Set, l []api.Cond) (api.Set, api.Errno) {
	u := NewUnion()
	for _, p := range s.Pieces {
		if e := u.Add(append(p[:len(p):len(p)], l...)); e != api.OK {
			return api.Set{}, e
		}
	}
	return api.Set{Dim: s.Dim, Pieces: u.Pieces()}, api.OK
}
