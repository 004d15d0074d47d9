/-
  the reference's Put, in one.
-/
import Derived.Test.YtdcapokamdmneabProg
import Derived.Test.YtdcapokamdmneabLinKit
import Derived.Test.YtdcapokamdmneabLinAwake
import Derived.Test.YtdcapokamdmneabRefPutErr
import Derived.Test.YtdcapokamdmneabRefPutMain
namespace Go.Proofs.Ytdcapokamdmneab
open Go.RowKit
set_option linter.unusedVariables false

theorem ref_put (A : Option Addr) (n c : Nat) (K : Int) (xs : List Int) (i : Int) (A' : Option Addr) (n' c' : Nat) (L : Int) (ys : List Int) (w : World) (hI : IntsAt w A n xs) (hI' : IntsAt w A' n' ys) :
    Calls Try.prog 8 #[.agg #[.slice A n c, .int .i64 K], .int .i64 i, .agg #[.slice A' n' c', .int .i64 L]] w fun e w' => LinRet w e w' (pXs xs K i ys L) (pK xs K i ys L) (pE xs K i ys L) := by
  have hlen := hI.len
  by_cases hp : pairErr xs K ys L = 0
  · by_cases hi : inB xs i = true
    · have e1 : pXs xs K i ys L = putXs n xs K i.toNat ys L := by unfold pXs; rw [if_pos hp, if_pos hi, hlen]
      have e2 : pK xs K i ys L = putK n xs K i.toNat ys L := by unfold pK; rw [if_pos hp, if_pos hi, hlen]
      have e3 : pE xs K i ys L = putE n xs K i.toNat ys L := by unfold pE; rw [if_pos hp, if_pos hi, hlen]
      rw [e1, e2, e3]
      obtain ⟨hv, hv', hll⟩ := pair_zero hp
      have hnn : n' = n := by have := hI'.len; omega
      subst hnn
      unfold inB at hi
      have hi' : 0 ≤ i ∧ i < (n' : Int) := by rw [← hlen]; simpa using hi
      obtain ⟨k, rfl⟩ : ∃ k : Nat, i = k := ⟨i.toNat, by omega⟩
      obtain ⟨b, off, rfl, hb, hc⟩ := hI.cells (by omega)
      exact ref_put_main b off n' c K xs k A' c' L ys w hI hI' hp (by omega)
    · have e1 : pXs xs K i ys L = [] := by unfold pXs; rw [if_pos hp, if_neg hi]
      have e2 : pK xs K i ys L = 0 := by unfold pK; rw [if_pos hp, if_neg hi]
      have e3 : pE xs K i ys L = 6 := by unfold pE; rw [if_pos hp, if_neg hi]
      rw [e1, e2, e3]
      refine (ref_put_rng A n c K xs i A' n' c' L ys w hI hI' hp ?_).mono fun _ _ h => h.lin
      unfold inB at hi
      simp only [decide_eq_true_eq] at hi
      omega
  · have e1 : pXs xs K i ys L = [] := by unfold pXs; rw [if_neg hp]
    have e2 : pK xs K i ys L = 0 := by unfold pK; rw [if_neg hp]
    have e3 : pE xs K i ys L = pairErr xs K ys L := by unfold pE; rw [if_neg hp]
    rw [e1, e2, e3]
    exact (ref_put_err A n c K xs i A' n' c' L ys w hI hI' hp).mono fun _ _ h => h.lin
end Go.Proofs.Ytdcapokamdmneab
