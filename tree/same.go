package tree

import (
	"headland/api"
	"slices"
)

// SameLin reports whether two expressions are equal.
func SameLin(a, b api.Lin) bool {
	return a.K == b.K && slices.Equal(a.C, b.C)
}

// SameRow reports whether two rows are equal.
func SameRow(a, b api.Row) bool {
	return a.Div == b.Div && SameLin(a.L, b.L)
}

// SameRows reports whether two lists of rows are equal.
func SameRows(a, b []api.Row) bool {
	return slices.EqualFunc(a, b, SameRow)
}

// SameCond reports whether two conditions are equal.
func SameCond(a, b api.Cond) bool {
	return a.Kind == b.Kind && a.M == b.M && SameLin(a.L, b.L)
}

// SamePiece reports whether two pieces are equal.
func SamePiece(a, b []api.Cond) bool {
	return slices.EqualFunc(a, b, SameCond)
}

// SameSet reports whether two sets are equal.
func SameSet(a, b api.Set) bool {
	return a.Dim == b.Dim && slices.EqualFunc(a.Pieces, b.Pieces, SamePiece)
}

// SameRef reports whether two cells are equal.
func SameRef(a, b api.Ref) bool {
	return a.Array == b.Array && slices.EqualFunc(a.Subs, b.Subs, SameLin)
}

// SameExpr reports whether two expressions are equal.
func SameExpr(a, b api.Expr) bool {
	return a.Op == b.Op && a.K == b.K && SameLin(a.L, b.L) && SameRef(a.R, b.R) && slices.EqualFunc(a.Args, b.Args, SameExpr)
}

// SameStmt reports whether two statements are equal.
func SameStmt(a, b api.Stmt) bool {
	return a.Kind == b.Kind && a.Name == b.Name && a.Step == b.Step && a.Mark == b.Mark &&
		slices.EqualFunc(a.Low.Parts, b.Low.Parts, SameRows) && slices.EqualFunc(a.High.Parts, b.High.Parts, SameRows) &&
		SameSet(a.Test, b.Test) && SameRef(a.Target, b.Target) && SameExpr(a.Value, b.Value) &&
		slices.EqualFunc(a.Body, b.Body, SameStmt) && slices.EqualFunc(a.Else, b.Else, SameStmt)
}

// SameArray reports whether two arrays are equal.
func SameArray(a, b api.Array) bool {
	return a.Name == b.Name && slices.EqualFunc(a.Sizes, b.Sizes, SameLin)
}

// SameProgram reports whether two programs are equal.
func SameProgram(a, b api.Program) bool {
	return slices.Equal(a.Params, b.Params) && slices.EqualFunc(a.Arrays, b.Arrays, SameArray) && slices.EqualFunc(a.Body, b.Body, SameStmt)
}
