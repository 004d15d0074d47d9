/-
  The reference's Compare, in one.
-/
import Derived.Test.YtdcapokamdmneabProg
import Derived.Test.YtdcapokamdmneabLinKit
import Derived.Test.YtdcapokamdmneabLinAt
import Derived.Test.YtdcapokamdmneabLinMake
import Derived.Test.YtdcapokamdmneabLinComp
import Derived.Test.YtdcapokamdmneabRefCmp
namespace Go.Proofs.Ytdcapokamdmneab
open Go.RowKit
set_option linter.unusedVariables false
set_option linter.unusedSimpArgs false

theorem ref_comp (A : Option Addr) (n c : Nat) (K : Int) (xs : List Int) (A' : Option Addr) (n' c' : Nat) (L : Int) (ys : List Int) (w : World) (hI : IntsAt w A n xs) (hI' : IntsAt w A' n' ys) (hK : -9223372036854775808 ≤ K ∧ K ≤ 9223372036854775807) (hL : -9223372036854775808 ≤ L ∧ L ≤ 9223372036854775807) :
    Calls Try.prog 16 #[.agg #[.slice A n c, .int .i64 K], .agg #[.slice A' n' c', .int .i64 L]] w fun e w' => e = .returned (.tuple #[.int .i64 (if pairErr xs K ys L = 0 then ordE xs K ys L else 0), .int .i64 (pairErr xs K ys L)]) ∧ Below w.heap.size w w' := by
  have B1 := (LBox.new w A n c K).alloc (.cells #[.slice A' n' c', .int .i64 L] 24)
  have B2 := LBox.new (w.alloc (.cells #[.slice A n c, .int .i64 K] 24)) A' n' c' L
  have hB := below_step (below_alloc w (.cells #[.slice A n c, .int .i64 K] 24)) (below_alloc _ (.cells #[.slice A' n' c', .int .i64 L] 24))
  have h1 := hI.step hB
  have h2 := hI'.step hB
  simp only [World.size_alloc] at B2
  by_cases hp : pairErr xs K ys L = 0
  · obtain ⟨hv, hv', hll⟩ := pair_zero hp
    have hn12 : n ≤ 12 := by have := (validB_true.1 hv).1; have := hI.len; omega
    have hnn : n = n' := by have a1 := hI.len; have a2 := hI'.len; omega
    subst hnn
    have HO := Lib.hid (ordL_snoc xs ys K L hll)
    have HP := Lib.hid hp
    rw [if_pos hp, hp]
    obtain ⟨o, ho⟩ : ∃ o, ordE xs K ys L = o := ⟨_, rfl⟩
    rw [ho]
    have HQ := Lib.hid ho
    clear ho hp hv hv' hll hI hI'
    go_enter Try.func16, Try.ntmps16
    go_wp2_with (first
      | (go_at_call 27; refine (headlandref02_pair _ _ _ _ xs _ _ _ _ ys _ h1 h2).mono ?_; rintro e w1 ⟨rfl, hb⟩; rw [HP.out]; replace h1 := h1.step hb; replace h2 := h2.step hb; replace B1 := B1.step hb; replace B2 := B2.step hb; replace hB := below_step hB hb; have c10 := B1.c0; have c11 := B1.c1; have c20 := B2.c0; have c21 := B2.c1)
      | (go_at_call 36; refine (ref_cmp _ _ _ _ xs _ _ _ ys _ h1 h2 hn12 hK hL).mono ?_; rintro e w2 ⟨rfl, hb⟩; rw [HO.out, HQ.out]; replace hB := below_step hB hb))
    refine bodyPost_ret (v := .tuple #[.int .i64 o, .int .i64 0]) (by simp [results, Try.results16, go_sem]) rfl ?_
    exact ⟨by first | rfl | simp, hB⟩
  · have q1 : (pairErr xs K ys L != 0) = true := by simpa using hp
    have q2 : (pairErr xs K ys L == 0) = false := by simpa using hp
    rw [if_neg hp]
    clear hp hI hI'
    go_enter Try.func16, Try.ntmps16
    go_wp2_with (go_at_call 27; refine (headlandref02_pair _ _ _ _ xs _ _ _ _ ys _ h1 h2).mono ?_; rintro e w1 ⟨rfl, hb⟩; replace hB := below_step hB hb)
    refine bodyPost_ret (v := .tuple #[.int .i64 0, .int .i64 (pairErr xs K ys L)]) (by simp [results, Try.results16, go_sem]) rfl ?_
    exact ⟨by first | rfl | simp, hB⟩
end Go.Proofs.Ytdcapokamdmneab
