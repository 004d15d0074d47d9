/-
  the errors of the reference's Put.
-/
import Derived.Test.YtdcapokamdmneabProg
import Derived.Test.YtdcapokamdmneabLinKit
import Derived.Test.YtdcapokamdmneabLinTerms
import Derived.Test.YtdcapokamdmneabLinAt
import Derived.Test.YtdcapokamdmneabLinClone
import Derived.Test.YtdcapokamdmneabLinPut
import Derived.Test.YtdcapokamdmneabLinMake
import Derived.Test.YtdcapokamdmneabLinSum
import Derived.Test.YtdcapokamdmneabLinBase
namespace Go.Proofs.Ytdcapokamdmneab
open Go.RowKit
set_option linter.unusedVariables false
set_option linter.unusedSimpArgs false

theorem ref_put_err (A : Option Addr) (n c : Nat) (K : Int) (xs : List Int) (i : Int) (A' : Option Addr) (n' c' : Nat) (L : Int) (ys : List Int) (w : World) (hI : IntsAt w A n xs) (hI' : IntsAt w A' n' ys) (hp : pairErr xs K ys L ≠ 0) :
    Calls Try.prog 8 #[.agg #[.slice A n c, .int .i64 K], .int .i64 i, .agg #[.slice A' n' c', .int .i64 L]] w fun e w' => RetF w e w' [] 0 (pairErr xs K ys L) := by
  have hsm := hI.small
  have B1 := ((LBox.new w A n c K).alloc (.cells #[.slice A' n' c', .int .i64 L] 24)).alloc (.cells #[.slice none 0 0, .int .i64 0] 24)
  have B3 := LBox.new ((w.alloc (.cells #[.slice A n c, .int .i64 K] 24)).alloc (.cells #[.slice A' n' c', .int .i64 L] 24)) none 0 0 0
  have hB := below_step (below_step (below_alloc w (.cells #[.slice A n c, .int .i64 K] 24)) (below_alloc _ (.cells #[.slice A' n' c', .int .i64 L] 24))) (below_alloc _ (.cells #[.slice none 0 0, .int .i64 0] 24))
  have h1 := hI.step hB
  have h2 := hI'.step hB
  simp only [World.size_alloc] at B3
  have q1 : (pairErr xs K ys L != 0) = true := by simpa using hp
  have q2 : (pairErr xs K ys L == 0) = false := by simpa using hp
  clear hp
  all_goals
    go_enter Try.func8, Try.ntmps8
    go_wp2_with (go_at_call 27; refine (headlandref02_pair _ _ _ _ xs _ _ _ _ ys _ h1 h2).mono ?_; rintro e w1 ⟨rfl, hb⟩; replace h1 := h1.step hb; replace h2 := h2.step hb; replace B1 := B1.step hb; replace B3 := B3.step hb; have c10 := B1.c0; have c11 := B1.c1; have c20 := B3.c0; have c21 := B3.c1; have f20 := B3.f 0; have f21 := B3.f 1; have c40 := B3.s0 (.slice none 0 0); have c41 := (B3.store none 0 0 0).c1; replace hB := below_step hB hb)
    refine bodyPost_ret (v := .tuple #[.agg #[.slice none 0 0, .int .i64 0], .int .i64 (pairErr xs K ys L)]) (by simp [results, Try.results8, go_sem, c40, c41]) rfl ?_
    exact ret_f rfl rfl (ints_nil _ _) (below_store2 hB (by omega) _ _) (.inl rfl)

theorem ref_put_rng (A : Option Addr) (n c : Nat) (K : Int) (xs : List Int) (i : Int) (A' : Option Addr) (n' c' : Nat) (L : Int) (ys : List Int) (w : World) (hI : IntsAt w A n xs) (hI' : IntsAt w A' n' ys) (hp : pairErr xs K ys L = 0) (hi : i < 0 ∨ (n : Int) ≤ i) :
    Calls Try.prog 8 #[.agg #[.slice A n c, .int .i64 K], .int .i64 i, .agg #[.slice A' n' c', .int .i64 L]] w fun e w' => RetF w e w' [] 0 6 := by
  have hsm := hI.small
  have B1 := ((LBox.new w A n c K).alloc (.cells #[.slice A' n' c', .int .i64 L] 24)).alloc (.cells #[.slice none 0 0, .int .i64 0] 24)
  have B3 := LBox.new ((w.alloc (.cells #[.slice A n c, .int .i64 K] 24)).alloc (.cells #[.slice A' n' c', .int .i64 L] 24)) none 0 0 0
  have hB := below_step (below_step (below_alloc w (.cells #[.slice A n c, .int .i64 K] 24)) (below_alloc _ (.cells #[.slice A' n' c', .int .i64 L] 24))) (below_alloc _ (.cells #[.slice none 0 0, .int .i64 0] 24))
  have h1 := hI.step hB
  have h2 := hI'.step hB
  simp only [World.size_alloc] at B3
  have HP := Lib.hid hp
  clear hp hI hI'
  rcases (show i < 0 ∨ (0 ≤ i ∧ (n : Int) ≤ i) by omega) with hi | ⟨hi0, hi⟩
  all_goals
    go_enter Try.func8, Try.ntmps8
    go_wp2_with (go_at_call 27; refine (headlandref02_pair _ _ _ _ xs _ _ _ _ ys _ h1 h2).mono ?_; rintro e w1 ⟨rfl, hb⟩; rw [HP.out]; replace h1 := h1.step hb; replace h2 := h2.step hb; replace B1 := B1.step hb; replace B3 := B3.step hb; have c10 := B1.c0; have c11 := B1.c1; have c20 := B3.c0; have c21 := B3.c1; have f20 := B3.f 0; have f21 := B3.f 1; have c40 := B3.s0 (.slice none 0 0); have c41 := (B3.store none 0 0 0).c1; replace hB := below_step hB hb)
    refine bodyPost_ret (v := .tuple #[.agg #[.slice none 0 0, .int .i64 0], .int .i64 6]) (by simp [results, Try.results8, go_sem, c40, c41]) rfl ?_
    exact ret_f rfl rfl (ints_nil _ _) (below_store2 hB (by omega) _ _) (.inl rfl)

end Go.Proofs.Ytdcapokamdmneab
