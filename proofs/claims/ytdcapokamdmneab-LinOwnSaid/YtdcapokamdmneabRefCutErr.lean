/-
  the errors of the reference's Cut.
-/
import Derived.Test.YtdcapokamdmneabProg
import Derived.Test.YtdcapokamdmneabLinKit
import Derived.Test.YtdcapokamdmneabLinTerms
import Derived.Test.YtdcapokamdmneabLinAt
import Derived.Test.YtdcapokamdmneabLinClone
import Derived.Test.YtdcapokamdmneabLinPut
import Derived.Test.YtdcapokamdmneabLinMake
import Derived.Test.YtdcapokamdmneabLinSum
import Derived.Test.YtdcapokamdmneabLinBase
namespace Go.Proofs.Ytdcapokamdmneab
open Go.RowKit
set_option linter.unusedVariables false
set_option linter.unusedSimpArgs false

theorem ref_cut_inv (A : Option Addr) (n c : Nat) (K : Int) (xs : List Int) (i : Int) (w : World) (hI : IntsAt w A n xs) (hv : validB xs K = false) :
    Calls Try.prog 10 #[.agg #[.slice A n c, .int .i64 K], .int .i64 i] w fun e w' => RetF w e w' [] 0 1 := by
  have hsm := hI.small
  have B1 := (LBox.new w A n c K).alloc (.cells #[.slice none 0 0, .int .i64 0] 24)
  have B2 := LBox.new (w.alloc (.cells #[.slice A n c, .int .i64 K] 24)) none 0 0 0
  have hB := below_step (below_alloc w (.cells #[.slice A n c, .int .i64 K] 24)) (below_alloc _ (.cells #[.slice none 0 0, .int .i64 0] 24))
  have h1 := hI.step hB
  rw [World.size_alloc] at B2
  go_enter Try.func10, Try.ntmps10
  go_wp2_with (go_at_call 32; refine (ref_valid _ _ _ _ xs _ h1).mono ?_; rintro e w1 ⟨rfl, hb⟩; replace h1 := h1.step hb; replace B1 := B1.step hb; replace B2 := B2.step hb; have c10 := B1.c0; have c11 := B1.c1; have c20 := B2.c0; have c21 := B2.c1; have f20 := B2.f 0; have f21 := B2.f 1; have c40 := B2.s0 (.slice none 0 0); have c41 := (B2.store none 0 0 0).c1; replace hB := below_step hB hb)
  refine bodyPost_ret (v := .tuple #[.agg #[.slice none 0 0, .int .i64 0], .int .i64 1]) (by simp [results, Try.results10, go_sem, c40, c41]) rfl ?_
  exact ret_f rfl rfl (ints_nil _ _) (below_store2 hB (by omega) _ _) (.inl rfl)

theorem ref_cut_rng (A : Option Addr) (n c : Nat) (K : Int) (xs : List Int) (i : Int) (w : World) (hI : IntsAt w A n xs) (hv : validB xs K = true) (hi : i < 0 ∨ (n : Int) ≤ i) :
    Calls Try.prog 10 #[.agg #[.slice A n c, .int .i64 K], .int .i64 i] w fun e w' => RetF w e w' [] 0 6 := by
  have hsm := hI.small
  have B1 := (LBox.new w A n c K).alloc (.cells #[.slice none 0 0, .int .i64 0] 24)
  have B2 := LBox.new (w.alloc (.cells #[.slice A n c, .int .i64 K] 24)) none 0 0 0
  have hB := below_step (below_alloc w (.cells #[.slice A n c, .int .i64 K] 24)) (below_alloc _ (.cells #[.slice none 0 0, .int .i64 0] 24))
  have h1 := hI.step hB
  rw [World.size_alloc] at B2
  rcases (show i < 0 ∨ (0 ≤ i ∧ (n : Int) ≤ i) by omega) with hi | ⟨hi0, hi⟩
  all_goals
    go_enter Try.func10, Try.ntmps10
    go_wp2_with (go_at_call 32; refine (ref_valid _ _ _ _ xs _ h1).mono ?_; rintro e w1 ⟨rfl, hb⟩; replace h1 := h1.step hb; replace B1 := B1.step hb; replace B2 := B2.step hb; have c10 := B1.c0; have c11 := B1.c1; have c20 := B2.c0; have c21 := B2.c1; have f20 := B2.f 0; have f21 := B2.f 1; have c40 := B2.s0 (.slice none 0 0); have c41 := (B2.store none 0 0 0).c1; replace hB := below_step hB hb)
    refine bodyPost_ret (v := .tuple #[.agg #[.slice none 0 0, .int .i64 0], .int .i64 6]) (by simp [results, Try.results10, go_sem, c40, c41]) rfl ?_
    exact ret_f rfl rfl (ints_nil _ _) (below_store2 hB (by omega) _ _) (.inl rfl)

theorem ref_cut_form (b off n c : Nat) (K : Int) (xs : List Int) (i : Nat) (w : World) (hI : IntsAt w (some ⟨b, off, none⟩) n xs) (hbl : b < w.heap.size) (hcs : ∀ j, j < n → w.cell? ⟨b, off + j, none⟩ = some (.int .i64 (xs[j]?.getD 0)))
    (hv : validB xs K = true) (hi : i < n) (hz : xs[i]?.getD 0 ≠ 0) :
    Calls Try.prog 10 #[.agg #[.slice (some ⟨b, off, none⟩) n c, .int .i64 K], .int .i64 i] w fun e w' => RetF w e w' [] 0 4 := by
  have hsm := hI.small
  have B1 := (LBox.new w (some ⟨b, off, none⟩) n c K).alloc (.cells #[.slice none 0 0, .int .i64 0] 24)
  have B2 := LBox.new (w.alloc (.cells #[.slice (some ⟨b, off, none⟩) n c, .int .i64 K] 24)) none 0 0 0
  have hB := below_step (below_alloc w (.cells #[.slice (some ⟨b, off, none⟩) n c, .int .i64 K] 24)) (below_alloc _ (.cells #[.slice none 0 0, .int .i64 0] 24))
  have h1 := hI.step hB
  rw [World.size_alloc] at B2
  have hx := (hB.cell (p := ⟨b, off + i, none⟩) hbl).trans (hcs i hi)
  have hi1 : (i : Int) < n := by omega
  have hz1 : (xs[i]?.getD 0 != 0) = true := by simpa using hz
  have hz2 : (xs[i]?.getD 0 == 0) = false := by simpa using hz
  clear hcs hI hz
  go_enter Try.func10, Try.ntmps10
  go_wp2_with (go_at_call 32; refine (ref_valid _ _ _ _ xs _ h1).mono ?_; rintro e w1 ⟨rfl, hb⟩; replace h1 := h1.step hb; replace B1 := B1.step hb; replace B2 := B2.step hb; have c10 := B1.c0; have c11 := B1.c1; have c20 := B2.c0; have c21 := B2.c1; have f20 := B2.f 0; have f21 := B2.f 1; have c40 := B2.s0 (.slice none 0 0); have c41 := (B2.store none 0 0 0).c1; replace hB := below_step hB hb; replace hx := (hb.cell (p := ⟨b, off + i, none⟩) (by simp; omega)).trans hx)
  refine bodyPost_ret (v := .tuple #[.agg #[.slice none 0 0, .int .i64 0], .int .i64 4]) (by simp [results, Try.results10, go_sem, c40, c41]) rfl ?_
  exact ret_f rfl rfl (ints_nil _ _) (below_store2 hB (by omega) _ _) (.inl rfl)
end Go.Proofs.Ytdcapokamdmneab
