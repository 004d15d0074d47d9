/-
  lin.Put for all arguments, and the examples of layer 2.
-/
import Derived.Test.YtdcapokamdmneabProg
import Derived.Test.YtdcapokamdmneabLinKit
import Derived.Test.YtdcapokamdmneabLinBase
import Derived.Test.YtdcapokamdmneabLinAt
import Derived.Test.YtdcapokamdmneabLinPoint
import Derived.Test.YtdcapokamdmneabLinPut
import Derived.Test.YtdcapokamdmneabNumSplit
namespace Go.Proofs.Ytdcapokamdmneab
open Go.RowKit
set_option linter.unusedVariables false
set_option linter.unusedSimpArgs false

def inB (xs : List Int) (i : Int) : Bool := decide (0 ≤ i ∧ i < (xs.length : Int))
def pE (xs : List Int) (K : Int) (i : Int) (ys : List Int) (L : Int) : Int := if pairErr xs K ys L = 0 then (if inB xs i = true then putE xs.length xs K i.toNat ys L else 6) else pairErr xs K ys L
def pXs (xs : List Int) (K : Int) (i : Int) (ys : List Int) (L : Int) : List Int := if pairErr xs K ys L = 0 then (if inB xs i = true then putXs xs.length xs K i.toNat ys L else []) else []
def pK (xs : List Int) (K : Int) (i : Int) (ys : List Int) (L : Int) : Int := if pairErr xs K ys L = 0 then (if inB xs i = true then putK xs.length xs K i.toNat ys L else 0) else 0

theorem lin_putO (A : Option Addr) (n c : Nat) (K : Int) (xs : List Int) (i : Int) (A' : Option Addr) (n' c' : Nat) (L : Int) (ys : List Int) (w : World) (hI : IntsAt w A n xs) (hI' : IntsAt w A' n' ys) :
    Calls Try.prog 7 #[.agg #[.slice A n c, .int .i64 K], .int .i64 i, .agg #[.slice A' n' c', .int .i64 L]] w fun e w' => RetO w e w' (pXs xs K i ys L) (pK xs K i ys L) (pE xs K i ys L) := by
  have hlen := hI.len
  by_cases hp : pairErr xs K ys L = 0
  · by_cases hi : inB xs i = true
    · have e1 : pXs xs K i ys L = putXs n xs K i.toNat ys L := by unfold pXs; rw [if_pos hp, if_pos hi, hlen]
      have e2 : pK xs K i ys L = putK n xs K i.toNat ys L := by unfold pK; rw [if_pos hp, if_pos hi, hlen]
      have e3 : pE xs K i ys L = putE n xs K i.toNat ys L := by unfold pE; rw [if_pos hp, if_pos hi, hlen]
      rw [e1, e2, e3]
      obtain ⟨hv, hv', hll⟩ := pair_zero hp
      have hnn : n' = n := by have := hI'.len; omega
      subst hnn
      unfold inB at hi
      have hi' : 0 ≤ i ∧ i < (n' : Int) := by rw [← hlen]; simpa using hi
      obtain ⟨k, rfl⟩ : ∃ k : Nat, i = k := ⟨i.toNat, by omega⟩
      obtain ⟨b, off, rfl, hb, hc⟩ := hI.cells (by omega)
      exact lin_put_main b off n' c K xs k A' c' L ys w hI hb hc hI' hp hv hv' (by omega)
    · have e1 : pXs xs K i ys L = [] := by unfold pXs; rw [if_pos hp, if_neg hi]
      have e2 : pK xs K i ys L = 0 := by unfold pK; rw [if_pos hp, if_neg hi]
      have e3 : pE xs K i ys L = 6 := by unfold pE; rw [if_pos hp, if_neg hi]
      rw [e1, e2, e3]
      refine (lin_put_rng A n c K xs i A' n' c' L ys w hI hI' hp ?_).mono fun _ _ h => h.o_nil
      unfold inB at hi
      simp only [decide_eq_true_eq] at hi
      omega
  · have e1 : pXs xs K i ys L = [] := by unfold pXs; rw [if_neg hp]
    have e2 : pK xs K i ys L = 0 := by unfold pK; rw [if_neg hp]
    have e3 : pE xs K i ys L = pairErr xs K ys L := by unfold pE; rw [if_neg hp]
    rw [e1, e2, e3]
    exact (lin_put_err A n c K xs i A' n' c' L ys w hI hI' hp).mono fun _ _ h => h.o_nil

theorem lin_put (A : Option Addr) (n c : Nat) (K : Int) (xs : List Int) (i : Int) (A' : Option Addr) (n' c' : Nat) (L : Int) (ys : List Int) (w : World) (hI : IntsAt w A n xs) (hI' : IntsAt w A' n' ys) :
    Calls Try.prog 7 #[.agg #[.slice A n c, .int .i64 K], .int .i64 i, .agg #[.slice A' n' c', .int .i64 L]] w fun e w' => LinRet w e w' (pXs xs K i ys L) (pK xs K i ys L) (pE xs K i ys L) :=
  (lin_putO A n c K xs i A' n' c' L ys w hI hI').mono fun _ _ h => h.lin

theorem awake_at : atVal [2, -1] 3 [1, 2] = 3 ∧ atErr [2, -1] 3 [1, 2] = 0 := by
  have h : dotErr [2, -1] [1, 2] = 0 := dotErr_zero.2 ⟨rfl, by decide, fun i hi => by
    rcases (show i = 0 ∨ i = 1 by simp at hi; omega) with rfl | rfl <;> (unfold goodAt; decide)⟩
  have h2 := at_ok (xs := [2, -1]) (ps := [1, 2]) (K := 3) (by decide) h
  rw [dotVal_zero h] at h2
  exact ⟨h2.1.symm.trans (by decide +kernel), h2.2.symm⟩
theorem awake_put : pXs [2, -1] 3 0 [0, 1] 1 = [0, 1] ∧ pK [2, -1] 3 0 [0, 1] 1 = 5 ∧ pE [2, -1] 3 0 [0, 1] 1 = 0 := by decide +kernel

theorem pair_at (w : World) (a b : Int) (ha : -9223372036854775808 ≤ a ∧ a ≤ 9223372036854775807) (hb : -9223372036854775808 ≤ b ∧ b ≤ 9223372036854775807) :
    IntsAt (w.alloc (.cells #[.int .i64 a, .int .i64 b] 3)) (some ⟨w.heap.size, 0, none⟩) 2 [a, b] := by
  unfold IntsAt
  rw [World.size_alloc]
  exact ints_pair w a b ha hb

theorem awake2 (w : World) : Calls Try.prog 14 #[] w fun e w' => e = .returned (.bool true) ∧ Below w.heap.size w w' := by
  have P1 := ((pair_at w 2 (-1) (by omega) (by omega)).step (below_alloc _ (.cells #[.slice (some ⟨w.heap.size, 0, none⟩) 2 2, .int .i64 3] 24))).step (below_alloc _ (.cells #[.int .i64 1, .int .i64 2] 3))
  have Q1 := pair_at ((w.alloc (.cells #[.int .i64 2, .int .i64 (-1)] 3)).alloc (.cells #[.slice (some ⟨w.heap.size, 0, none⟩) 2 2, .int .i64 3] 24)) 1 2 (by omega) (by omega)
  have B1 := (LBox.new (w.alloc (.cells #[.int .i64 2, .int .i64 (-1)] 3)) (some ⟨w.heap.size, 0, none⟩) 2 2 3).alloc (.cells #[.int .i64 1, .int .i64 2] 3)
  have hB := below_step (below_step (below_alloc w (.cells #[.int .i64 2, .int .i64 (-1)] 3)) (below_alloc _ (.cells #[.slice (some ⟨w.heap.size, 0, none⟩) 2 2, .int .i64 3] 24))) (below_alloc _ (.cells #[.int .i64 1, .int .i64 2] 3))
  simp only [World.size_alloc] at Q1 B1
  have AT := Lib.hid awake_at
  have PT := Lib.hid awake_put
  go_enter Try.func14, Try.ntmps14
  go_wp2_with (first
    | (go_at_call 18; refine (lin_at _ _ _ _ [2, -1] _ _ _ [1, 2] _ P1 Q1).mono ?_; rintro e w1 ⟨rfl, hb1⟩; rw [AT.out.1, AT.out.2]; replace P1 := P1.step hb1; replace B1 := B1.step hb1; have c0 := B1.c0; have c1 := B1.c1; replace hB := below_step hB hb1; replace P1 := P1.step (below_alloc _ (.cells #[.int .i64 0, .int .i64 1] 3)); have Q2 := pair_at w1 0 1 (by omega) (by omega); replace hB := below_step hB (below_alloc _ (.cells #[.int .i64 0, .int .i64 1] 3)))
    | (go_at_call 7; refine (lin_put _ _ _ _ [2, -1] _ _ _ _ _ [0, 1] _ P1 Q2).mono ?_; rintro e w2 ⟨A3, n3, c3, rfl, I3, hb2⟩; rw [PT.out.1] at I3; rw [PT.out.2.1, PT.out.2.2]; replace hB := below_step hB hb2; have hB4 := below_alloc w2 (.cells #[.slice A3 n3 c3, .int .i64 5] 24); replace I3 := (I3.step hB4).step (below_alloc _ (.cells #[.int .i64 0, .int .i64 1] 3)); replace hB := below_step (below_step hB hB4) (below_alloc _ (.cells #[.int .i64 0, .int .i64 1] 3)); have Q3 := pair_at (w2.alloc (.cells #[.slice A3 n3 c3, .int .i64 5] 24)) 0 1 (by omega) (by omega); rw [World.size_alloc] at Q3)
    | (go_at_call 17; refine (ref_same _ _ _ _ [0, 1] _ _ _ _ [0, 1] _ I3 Q3).mono ?_; rintro e w3 ⟨rfl, hb3⟩; rw [sameB_self]; replace hB := below_step hB hb3))
  go_ret
  exact ⟨rfl, hB⟩
end Go.Proofs.Ytdcapokamdmneab
