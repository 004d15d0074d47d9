/-
  Contracts for together, fitting and At of package lin, and for both, fit, Point, Value and At of its reference.
-/
import Derived.Test.YtbjkijifpikhkaaProg
import Derived.Test.YtbjkijifpikhkaaLinKit
import Derived.Test.YtbjkijifpikhkaaLinTerms
import Derived.Test.YtbjkijifpikhkaaLinBase
import Derived.Test.YtbjkijifpikhkaaNumDot
namespace Go.Proofs.Ytbjkijifpikhkaa
open Go.RowKit
set_option linter.unusedVariables false

/-- The error that two expressions together cause. -/
def pairErr (xs : List Int) (K : Int) (ys : List Int) (L : Int) : Int := if validB xs K = true ∧ validB ys L = true then (if xs.length = ys.length then 0 else 2) else 1

theorem lin_pair (A : Option Addr) (n c : Nat) (K : Int) (xs : List Int) (A' : Option Addr) (n' c' : Nat) (L : Int) (ys : List Int) (w : World) (hI : IntsAt w A n xs) (hI' : IntsAt w A' n' ys) :
    Calls Try.prog 53 #[.agg #[.slice A n c, .int .i64 K], .agg #[.slice A' n' c', .int .i64 L]] w fun e w' => e = .returned (.int .i64 (pairErr xs K ys L)) ∧ Below w.heap.size w w' := by
  have hsm := hI.small
  have hsm' := hI'.small
  have HL := Lib.hid hI.len
  have HL' := Lib.hid hI'.len
  have hB := below_step (below_alloc w (.cells #[.slice A n c, .int .i64 K] 24)) (below_alloc _ (.cells #[.slice A' n' c', .int .i64 L] 24))
  have h1 := hI.step hB
  have h2 := hI'.step hB
  have B1 := (LBox.new w A n c K).alloc (.cells #[.slice A' n' c', .int .i64 L] 24)
  have B2 := LBox.new (w.alloc (.cells #[.slice A n c, .int .i64 K] 24)) A' n' c' L
  rw [World.size_alloc] at B2
  clear hI hI'
  cases hv : validB xs K
  · have HE := Lib.hid (show pairErr xs K ys L = 1 by unfold pairErr; rw [hv]; simp)
    go_enter Try.func53, Try.ntmps53
    go_wp2_with (go_at_call 27; refine (lin_valid _ _ _ _ xs _ h1).mono ?_; rintro e w' ⟨rfl, hb⟩; replace hB := below_step hB hb)
    go_ret
    exact ⟨ret1 (vint HE.out.symm), hB⟩
  · cases hv' : validB ys L
    · have HE := Lib.hid (show pairErr xs K ys L = 1 by unfold pairErr; rw [hv']; simp)
      go_enter Try.func53, Try.ntmps53
      go_wp2_with (first
        | (go_at_call 27; refine (lin_valid _ _ _ _ xs _ h1).mono ?_; clear h1; rintro e w' ⟨rfl, hb⟩; replace h2 := h2.step hb; replace B2 := B2.step hb; have c20 := B2.c0; have c21 := B2.c1; replace hB := below_step hB hb)
        | (go_at_call 27; refine (lin_valid _ _ _ _ ys _ h2).mono ?_; rintro e w' ⟨rfl, hb⟩; replace hB := below_step hB hb))
      go_ret
      exact ⟨ret1 (vint HE.out.symm), hB⟩
    · by_cases hn : n = n'
      · subst hn
        have HE := Lib.hid (show pairErr xs K ys L = 0 by unfold pairErr; rw [hv, hv', if_pos ⟨rfl, rfl⟩, if_pos (by rw [HL.out, HL'.out])])
        go_enter Try.func53, Try.ntmps53
        go_wp2_with (first
          | (go_at_call 27; refine (lin_valid _ _ _ _ xs _ h1).mono ?_; clear h1; rintro e w' ⟨rfl, hb⟩; replace h2 := h2.step hb; replace B1 := B1.step hb; replace B2 := B2.step hb; have c20 := B2.c0; have c21 := B2.c1; replace hB := below_step hB hb)
          | (go_at_call 27; refine (lin_valid _ _ _ _ ys _ h2).mono ?_; rintro e w' ⟨rfl, hb⟩; replace B1 := B1.step hb; replace B2 := B2.step hb; have d10 := B1.c0; have d20 := B2.c0; replace hB := below_step hB hb))
        go_ret
        exact ⟨ret1 (vint HE.out.symm), hB⟩
      · have HE := Lib.hid (show pairErr xs K ys L = 2 by unfold pairErr; rw [hv, hv', if_pos ⟨rfl, rfl⟩, if_neg (by rw [HL.out, HL'.out]; exact hn)])
        have hn1 : ((n : Int) != (n' : Int)) = true := by simpa using fun e => hn (by omega)
        have hn2 : ((n : Int) == (n' : Int)) = false := by simpa using fun e => hn (by omega)
        go_enter Try.func53, Try.ntmps53
        go_wp2_with (first
          | (go_at_call 27; refine (lin_valid _ _ _ _ xs _ h1).mono ?_; clear h1; rintro e w' ⟨rfl, hb⟩; replace h2 := h2.step hb; replace B1 := B1.step hb; replace B2 := B2.step hb; have c20 := B2.c0; have c21 := B2.c1; replace hB := below_step hB hb)
          | (go_at_call 27; refine (lin_valid _ _ _ _ ys _ h2).mono ?_; rintro e w' ⟨rfl, hb⟩; replace B1 := B1.step hb; replace B2 := B2.step hb; have d10 := B1.c0; have d20 := B2.c0; replace hB := below_step hB hb))
        go_ret
        exact ⟨ret1 (vint HE.out.symm), hB⟩

end Go.Proofs.Ytbjkijifpikhkaa
