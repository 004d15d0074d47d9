/-
  the reference's Cut and lin's: they answer the same.
-/
import Derived.Test.YtdcapokamdmneabProg
import Derived.Test.YtdcapokamdmneabLinKit
import Derived.Test.YtdcapokamdmneabLinTerms
import Derived.Test.YtdcapokamdmneabLinAt
import Derived.Test.YtdcapokamdmneabLinClone
import Derived.Test.YtdcapokamdmneabLinPut
import Derived.Test.YtdcapokamdmneabLinMake
import Derived.Test.YtdcapokamdmneabLinSum
import Derived.Test.YtdcapokamdmneabLinBase
import Derived.Test.YtdcapokamdmneabLinAwake
import Derived.Test.YtdcapokamdmneabLinArgsC
import Derived.Test.YtdcapokamdmneabLinCut
import Derived.Test.YtdcapokamdmneabRefCutErr
import Derived.Test.YtdcapokamdmneabRefWithout
namespace Go.Proofs.Ytdcapokamdmneab
open Go.RowKit
set_option linter.unusedVariables false
set_option linter.unusedSimpArgs false

theorem ref_cut_ok (b off n c : Nat) (K : Int) (xs : List Int) (i : Nat) (w : World) (hI : IntsAt w (some ⟨b, off, none⟩) n xs) (hbl : b < w.heap.size) (hcs : ∀ j, j < n → w.cell? ⟨b, off + j, none⟩ = some (.int .i64 (xs[j]?.getD 0)))
    (hv : validB xs K = true) (hi : i < n) (hz : xs[i]?.getD 0 = 0) :
    Calls Try.prog 10 #[.agg #[.slice (some ⟨b, off, none⟩) n c, .int .i64 K], .int .i64 i] w fun e w' => RetF w e w' (xs.eraseIdx i) K 0 := by
  have hsm := hI.small
  have hn12 : n ≤ 12 := by have := (validB_true.1 hv).1; have := hI.len; omega
  have B1 := (LBox.new w (some ⟨b, off, none⟩) n c K).alloc (.cells #[.slice none 0 0, .int .i64 0] 24)
  have B2 := LBox.new (w.alloc (.cells #[.slice (some ⟨b, off, none⟩) n c, .int .i64 K] 24)) none 0 0 0
  have hB := below_step (below_alloc w (.cells #[.slice (some ⟨b, off, none⟩) n c, .int .i64 K] 24)) (below_alloc _ (.cells #[.slice none 0 0, .int .i64 0] 24))
  have h1 := hI.step hB
  rw [World.size_alloc] at B2
  have hx := (hB.cell (p := ⟨b, off + i, none⟩) hbl).trans (hcs i hi)
  rw [hz] at hx
  have hi1 : (i : Int) < n := by omega
  clear hcs hI hz
  go_enter Try.func10, Try.ntmps10
  go_wp2_with (first
    | (go_at_call 32; refine (ref_valid _ _ _ _ xs _ h1).mono ?_; rintro e w1 ⟨rfl, hb⟩; replace h1 := h1.step hb; replace B1 := B1.step hb; replace B2 := B2.step hb; have c10 := B1.c0; have c11 := B1.c1; replace hB := below_step hB hb; replace hx := (hb.cell (p := ⟨b, off + i, none⟩) (by simp; omega)).trans hx)
    | (go_at_call 33; refine (ref_without _ _ _ _ _ xs _ _ h1 hn12 hi).mono ?_; rintro e w2 ⟨A2, c2, rfl, I2, hb2, hfr⟩; have l1 := B2.lt; replace B2 := B2.step hb2; have c20 := B2.c0; have c21 := B2.c1; have f20 := B2.f 0; have f21 := B2.f 1; have c40 := B2.s0 (.slice A2 (n - 1) c2); have c41 := (B2.store A2 (n - 1) c2 K).c1; replace hB := below_step hB hb2))
  refine bodyPost_ret (v := .tuple #[.agg #[.slice A2 (n - 1) c2, .int .i64 K], .int .i64 0]) (by simp [results, Try.results10, go_sem, c40, c41]) rfl ?_
  exact ret_f rfl rfl (ints_keep2 I2 (hfr.imp id fun ⟨g, e, hg⟩ => ⟨g, e, by omega⟩) _ _) (below_store2 hB (by omega) _ _) (hfr.imp id fun ⟨g, e, hg⟩ => ⟨g, e, by omega⟩)

/-- What both answer. -/
theorem cut_ans (K : Int) (xs : List Int) (i : Int) : ∃ X M E, ∀ (A : Option Addr) (n c : Nat), CapOf A n c → ∀ w : World, IntsAt w A n xs →
    (Calls Try.prog 9 #[.agg #[.slice A n c, .int .i64 K], .int .i64 i] w fun e w' => LinRet w e w' X M E) ∧
    (Calls Try.prog 10 #[.agg #[.slice A n c, .int .i64 K], .int .i64 i] w fun e w' => LinRet w e w' X M E) := by
  cases hv : validB xs K
  · exact ⟨[], 0, 1, fun A n c _ w hI => ⟨(lin_cut_inv A n c K xs i w hI hv).mono fun _ _ h => h.lin, (ref_cut_inv A n c K xs i w hI hv).mono fun _ _ h => h.lin⟩⟩
  · by_cases hi : 0 ≤ i ∧ i < (xs.length : Int)
    · obtain ⟨k, rfl⟩ : ∃ k : Nat, i = k := ⟨i.toNat, by omega⟩
      by_cases hz : xs[k]?.getD 0 = 0
      · refine ⟨xs.eraseIdx k, K, 0, fun A n c hC w hI => ?_⟩
        have hl := hI.len
        obtain ⟨b, off, rfl, hb, hc⟩ := hI.cells (by omega)
        obtain ⟨_, hnc, hcc⟩ := hC
        exact ⟨(lin_cut_ok b off n c K xs k w hI hb hc hnc (by omega) hv (by omega) hz).mono fun _ _ h => h.lin, (ref_cut_ok b off n c K xs k w hI hb hc hv (by omega) hz).mono fun _ _ h => h.lin⟩
      · refine ⟨[], 0, 4, fun A n c hC w hI => ?_⟩
        have hl := hI.len
        obtain ⟨b, off, rfl, hb, hc⟩ := hI.cells (by omega)
        exact ⟨(lin_cut_form b off n c K xs k w hI hb hc hv (by omega) hz).mono fun _ _ h => h.lin, (ref_cut_form b off n c K xs k w hI hb hc hv (by omega) hz).mono fun _ _ h => h.lin⟩
    · refine ⟨[], 0, 6, fun A n c hC w hI => ?_⟩
      have hl := hI.len
      exact ⟨(lin_cut_rng A n c K xs i w hI hv (by omega)).mono fun _ _ h => h.lin, (ref_cut_rng A n c K xs i w hI hv (by omega)).mono fun _ _ h => h.lin⟩
end Go.Proofs.Ytdcapokamdmneab
