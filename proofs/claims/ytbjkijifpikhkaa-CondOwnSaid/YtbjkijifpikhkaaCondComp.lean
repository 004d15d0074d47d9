/-
  Comparing conditions: cond.Compare, the reference's Cmp and Compare.
-/
import Derived.Test.YtbjkijifpikhkaaProg
import Derived.Test.YtbjkijifpikhkaaKit
import Derived.Test.YtbjkijifpikhkaaLinKit
import Derived.Test.YtbjkijifpikhkaaLinAt
import Derived.Test.YtbjkijifpikhkaaLinComp
import Derived.Test.YtbjkijifpikhkaaRefComp
import Derived.Test.YtbjkijifpikhkaaCondKit
import Derived.Test.YtbjkijifpikhkaaCondHolds
import Derived.Test.YtbjkijifpikhkaaCondRank
import Derived.Test.YtbjkijifpikhkaaRegInv
import Derived.Test.YtbjkijifpikhkaaAppendInts
import Derived.Deep.Cut
namespace Go.Proofs.Ytbjkijifpikhkaa
open Go.RowKit
set_option linter.unusedVariables false
set_option linter.unusedSimpArgs false

/-- The order of two conditions. -/
def ordC (q M : Int) (xs : List Int) (K : Int) (q' M' : Int) (ys : List Int) (L : Int) : Int := leadI [cmpI (rankI q) (rankI q'), cmpI M M', ordE xs K ys L]
def ccErr (q M : Int) (xs : List Int) (K : Int) (q' M' : Int) (ys : List Int) (L : Int) : Int := if validC q M xs K = true ∧ validC q' M' ys L = true then (if xs.length = ys.length then 0 else 2) else 1
def ccVal (q M : Int) (xs : List Int) (K : Int) (q' M' : Int) (ys : List Int) (L : Int) : Int := if ccErr q M xs K q' M' ys L = 0 then ordC q M xs K q' M' ys L else 0
theorem cmp_bd (x y : Int) : -1 ≤ cmpI x y ∧ cmpI x y ≤ 1 := by unfold cmpI; split <;> (try split) <;> omega
theorem rank_bd (q : Int) : 0 ≤ rankI q ∧ rankI q ≤ 2 := by unfold rankI; split <;> (try split) <;> omega
theorem ord_bd : ∀ xs ys : List Int, -1 ≤ ordL xs ys ∧ ordL xs ys ≤ 1
  | [], [] => by decide
  | [], _ :: _ => by simp [ordL]
  | _ :: _, [] => by simp [ordL]
  | x :: xs, y :: ys => by
    have := ord_bd xs ys
    simp only [ordL]
    split <;> (try split) <;> omega
theorem ordL_two (a b c d : Int) : ordL [a, b] [c, d] = if cmpI a c = 0 then cmpI b d else cmpI a c := by
  unfold cmpI ordL ordL ordL
  split <;> (try split) <;> (try split) <;> (try split) <;> simp_all
theorem ordE_bd (xs : List Int) (K : Int) (ys : List Int) (L : Int) : -1 ≤ ordE xs K ys L ∧ ordE xs K ys L ≤ 1 := by
  unfold ordE
  have h1 := cmp_bd K L
  have h2 := ord_bd xs ys
  split <;> omega

/-- The facts of the operations. -/
def ccFacts (b1 b2 : Nat) (q M q' M' : Int) (o : Int) (B : Nat) : Nat → Fact B
  | 0 => .val (.pointer (some ⟨b1, 0, none⟩))
  | 1 => .val (.int .i64 q)
  | 2 => .val (.int .i64 (rankI q))
  | 3 => .val (.pointer (some ⟨b2, 0, none⟩))
  | 4 => .val (.int .i64 q')
  | 5 => .val (.int .i64 (rankI q'))
  | 6 => .val (.int .i64 (cmpI (rankI q) (rankI q')))
  | 7 => .val (.pointer (some ⟨b1, 1, none⟩))
  | 8 => .val (.int .i64 M)
  | 9 => .val (.pointer (some ⟨b2, 1, none⟩))
  | 10 => .val (.int .i64 M')
  | 11 => .val (.int .i64 (cmpI M M'))
  | 12 => .val (.int .i64 o)
  | 13 => .own 3 3 (vals [cmpI (rankI q) (rankI q'), cmpI M M', o])
  | 14 => .val (.int .i64 (leadI [cmpI (rankI q) (rankI q'), cmpI M M', o]))
  | 15 => .val (.int .i64 (leadI [cmpI (rankI q) (rankI q'), cmpI M M', o]))
  | 16 => .val (.int .i64 0)
  | _ => .any

def ccPlan : Plan where
  slots := [27, 28, 29, 30, 31, 32, 33, 34, 35, 36, 37, 38, 39, 40, 41, 4, 5]
  kill := [[], [], [], [], [], [], [], [], [], [], [], [], [], [], [], [], []]
  need := [[], [0], [1], [], [3], [4], [2, 5], [], [7], [], [9], [8, 10], [], [6, 11, 12], [13], [14], []]

/-- The facts of the operations. -/
def rcFacts (b1 b2 : Nat) (q M q' M' : Int) (B : Nat) : Nat → Fact B
  | 0 => .val (.pointer (some ⟨b1, 0, none⟩))
  | 1 => .val (.int .i64 q)
  | 2 => .val (.int .i64 (rankI q))
  | 3 => .val (.pointer (some ⟨b1, 1, none⟩))
  | 4 => .val (.int .i64 M)
  | 5 => .own 3 2 (vals [rankI q, M])
  | 6 => .val (.pointer (some ⟨b2, 0, none⟩))
  | 7 => .val (.int .i64 q')
  | 8 => .val (.int .i64 (rankI q'))
  | 9 => .val (.pointer (some ⟨b2, 1, none⟩))
  | 10 => .val (.int .i64 M')
  | 11 => .own 3 2 (vals [rankI q', M'])
  | 12 => .val (.int .i64 (ordL [rankI q, M] [rankI q', M']))
  | 13 => .val (.int .i64 (ordL [rankI q, M] [rankI q', M']))
  | _ => .any

def rcPlan : Plan where
  slots := [6, 7, 8, 9, 10, 11, 12, 13, 14, 15, 16, 17, 18, 5]
  kill := [[], [], [], [], [], [], [], [], [], [], [], [], [], []]
  need := [[], [0], [1], [], [3], [2, 4], [], [6], [7], [], [9], [8, 10], [5, 11], [12]]

theorem fits_wide0 {x : Int} (h : fitsB x = true) : -9223372036854775808 ≤ x ∧ x ≤ 9223372036854775807 := by
  rw [fitsB_true] at h; omega

section
variable (q M : Int) (A : Option Addr) (n c : Nat) (K : Int) (xs : List Int) (q' M' : Int) (A' : Option Addr) (n' c' : Nat) (L : Int) (ys : List Int) (w : World) (hI : IntsAt w A n xs) (hI' : IntsAt w A' n' ys)
include hI hI'

theorem cond_comp_bad1 (hv : validC q M xs K = false) : Calls Try.prog 20 #[condV q M A n c K, condV q' M' A' n' c' L] w fun e w' => e = .returned (.tuple #[.int .i64 0, .int .i64 1]) ∧ Below w.heap.size w w' := by
  have hB := below_step (below_alloc w (.cells #[.int .i64 q, .int .i64 M, .slice A n c, .int .i64 K] 26)) (below_alloc _ (.cells #[.int .i64 q', .int .i64 M', .slice A' n' c', .int .i64 L] 26)); have h1 := hI.step hB; have h2 := hI'.step hB; have B1 := (CBox.new w q M A n c K).alloc (.cells #[.int .i64 q', .int .i64 M', .slice A' n' c', .int .i64 L] 26); have B2 := CBox.new (w.alloc (.cells #[.int .i64 q, .int .i64 M, .slice A n c, .int .i64 K] 26)) q' M' A' n' c' L; simp only [World.size_alloc] at B2; have c0 := B1.c0; have c1 := B1.c1; have c2 := B1.c2; have c3 := B1.c3; have d0 := B2.c0; have d1 := B2.c1; have d2 := B2.c2; have d3 := B2.c3; clear hI hI'
  have HV := Lib.hid hv
  clear hv
  go_enter Try.func20, Try.ntmps20
  go_wp2_with (go_at_call 12; refine (cond_valid _ _ _ _ _ _ xs _ h1).mono ?_; rintro e w1 ⟨rfl, hb⟩; rw [HV.out]; replace hB := below_step hB hb; replace h1 := h1.step hb; replace h2 := h2.step hb; replace B1 := B1.step hb; replace B2 := B2.step hb; have c0 := B1.c0; have c1 := B1.c1; have c2 := B1.c2; have c3 := B1.c3; have d0 := B2.c0; have d1 := B2.c1; have d2 := B2.c2; have d3 := B2.c3)
  go_ret2
  exact ⟨rfl, hB⟩

theorem cond_comp_bad2 (hv : validC q M xs K = true) (hv' : validC q' M' ys L = false) : Calls Try.prog 20 #[condV q M A n c K, condV q' M' A' n' c' L] w fun e w' => e = .returned (.tuple #[.int .i64 0, .int .i64 1]) ∧ Below w.heap.size w w' := by
  have hB := below_step (below_alloc w (.cells #[.int .i64 q, .int .i64 M, .slice A n c, .int .i64 K] 26)) (below_alloc _ (.cells #[.int .i64 q', .int .i64 M', .slice A' n' c', .int .i64 L] 26)); have h1 := hI.step hB; have h2 := hI'.step hB; have B1 := (CBox.new w q M A n c K).alloc (.cells #[.int .i64 q', .int .i64 M', .slice A' n' c', .int .i64 L] 26); have B2 := CBox.new (w.alloc (.cells #[.int .i64 q, .int .i64 M, .slice A n c, .int .i64 K] 26)) q' M' A' n' c' L; simp only [World.size_alloc] at B2; have c0 := B1.c0; have c1 := B1.c1; have c2 := B1.c2; have c3 := B1.c3; have d0 := B2.c0; have d1 := B2.c1; have d2 := B2.c2; have d3 := B2.c3; clear hI hI'
  have HV := Lib.hid hv
  have HV' := Lib.hid hv'
  clear hv hv'
  have T1 : True := trivial
  go_enter Try.func20, Try.ntmps20
  go_wp2_with (first
    | (go_at_call 12; have t1 := T1; clear T1 t1; refine (cond_valid _ _ _ _ _ _ xs _ h1).mono ?_; rintro e w1 ⟨rfl, hb⟩; rw [HV.out]; replace hB := below_step hB hb; replace h1 := h1.step hb; replace h2 := h2.step hb; replace B1 := B1.step hb; replace B2 := B2.step hb; have c0 := B1.c0; have c1 := B1.c1; have c2 := B1.c2; have c3 := B1.c3; have d0 := B2.c0; have d1 := B2.c1; have d2 := B2.c2; have d3 := B2.c3)
    | (go_at_call 12; refine (cond_valid _ _ _ _ _ _ ys _ h2).mono ?_; rintro e w1 ⟨rfl, hb⟩; rw [HV'.out]; replace hB := below_step hB hb; replace h1 := h1.step hb; replace h2 := h2.step hb; replace B1 := B1.step hb; replace B2 := B2.step hb; have c0 := B1.c0; have c1 := B1.c1; have c2 := B1.c2; have c3 := B1.c3; have d0 := B2.c0; have d1 := B2.c1; have d2 := B2.c2; have d3 := B2.c3))
  go_ret2
  exact ⟨rfl, hB⟩

theorem rcond_comp_bad1 (hv : validC q M xs K = false) : Calls Try.prog 21 #[condV q M A n c K, condV q' M' A' n' c' L] w fun e w' => e = .returned (.tuple #[.int .i64 0, .int .i64 1]) ∧ Below w.heap.size w w' := by
  have hB := below_step (below_alloc w (.cells #[.int .i64 q, .int .i64 M, .slice A n c, .int .i64 K] 26)) (below_alloc _ (.cells #[.int .i64 q', .int .i64 M', .slice A' n' c', .int .i64 L] 26)); have h1 := hI.step hB; have h2 := hI'.step hB; have B1 := (CBox.new w q M A n c K).alloc (.cells #[.int .i64 q', .int .i64 M', .slice A' n' c', .int .i64 L] 26); have B2 := CBox.new (w.alloc (.cells #[.int .i64 q, .int .i64 M, .slice A n c, .int .i64 K] 26)) q' M' A' n' c' L; simp only [World.size_alloc] at B2; have c0 := B1.c0; have c1 := B1.c1; have c2 := B1.c2; have c3 := B1.c3; have d0 := B2.c0; have d1 := B2.c1; have d2 := B2.c2; have d3 := B2.c3; clear hI hI'
  have HV := Lib.hid hv
  clear hv
  go_enter Try.func21, Try.ntmps21
  go_wp2_with (go_at_call 13; refine (ref_cvalid _ _ _ _ _ _ xs _ h1).mono ?_; rintro e w1 ⟨rfl, hb⟩; rw [HV.out]; replace hB := below_step hB hb; replace h1 := h1.step hb; replace h2 := h2.step hb; replace B1 := B1.step hb; replace B2 := B2.step hb; have c0 := B1.c0; have c1 := B1.c1; have c2 := B1.c2; have c3 := B1.c3; have d0 := B2.c0; have d1 := B2.c1; have d2 := B2.c2; have d3 := B2.c3)
  go_ret2
  exact ⟨rfl, hB⟩

theorem rcond_comp_bad2 (hv : validC q M xs K = true) (hv' : validC q' M' ys L = false) : Calls Try.prog 21 #[condV q M A n c K, condV q' M' A' n' c' L] w fun e w' => e = .returned (.tuple #[.int .i64 0, .int .i64 1]) ∧ Below w.heap.size w w' := by
  have hB := below_step (below_alloc w (.cells #[.int .i64 q, .int .i64 M, .slice A n c, .int .i64 K] 26)) (below_alloc _ (.cells #[.int .i64 q', .int .i64 M', .slice A' n' c', .int .i64 L] 26)); have h1 := hI.step hB; have h2 := hI'.step hB; have B1 := (CBox.new w q M A n c K).alloc (.cells #[.int .i64 q', .int .i64 M', .slice A' n' c', .int .i64 L] 26); have B2 := CBox.new (w.alloc (.cells #[.int .i64 q, .int .i64 M, .slice A n c, .int .i64 K] 26)) q' M' A' n' c' L; simp only [World.size_alloc] at B2; have c0 := B1.c0; have c1 := B1.c1; have c2 := B1.c2; have c3 := B1.c3; have d0 := B2.c0; have d1 := B2.c1; have d2 := B2.c2; have d3 := B2.c3; clear hI hI'
  have HV := Lib.hid hv
  have HV' := Lib.hid hv'
  clear hv hv'
  have T1 : True := trivial
  go_enter Try.func21, Try.ntmps21
  go_wp2_with (first
    | (go_at_call 13; have t1 := T1; clear T1 t1; refine (ref_cvalid _ _ _ _ _ _ xs _ h1).mono ?_; rintro e w1 ⟨rfl, hb⟩; rw [HV.out]; replace hB := below_step hB hb; replace h1 := h1.step hb; replace h2 := h2.step hb; replace B1 := B1.step hb; replace B2 := B2.step hb; have c0 := B1.c0; have c1 := B1.c1; have c2 := B1.c2; have c3 := B1.c3; have d0 := B2.c0; have d1 := B2.c1; have d2 := B2.c2; have d3 := B2.c3)
    | (go_at_call 13; refine (ref_cvalid _ _ _ _ _ _ ys _ h2).mono ?_; rintro e w1 ⟨rfl, hb⟩; rw [HV'.out]; replace hB := below_step hB hb; replace h1 := h1.step hb; replace h2 := h2.step hb; replace B1 := B1.step hb; replace B2 := B2.step hb; have c0 := B1.c0; have c1 := B1.c1; have c2 := B1.c2; have c3 := B1.c3; have d0 := B2.c0; have d1 := B2.c1; have d2 := B2.c2; have d3 := B2.c3))
  go_ret2
  exact ⟨rfl, hB⟩


theorem cond_comp_dim (hv : validC q M xs K = true) (hv' : validC q' M' ys L = true) (hl : xs.length ≠ ys.length) : Calls Try.prog 20 #[condV q M A n c K, condV q' M' A' n' c' L] w fun e w' => e = .returned (.tuple #[.int .i64 0, .int .i64 2]) ∧ Below w.heap.size w w' := by
  have hB := below_step (below_alloc w (.cells #[.int .i64 q, .int .i64 M, .slice A n c, .int .i64 K] 26)) (below_alloc _ (.cells #[.int .i64 q', .int .i64 M', .slice A' n' c', .int .i64 L] 26)); have h1 := hI.step hB; have h2 := hI'.step hB; have B1 := (CBox.new w q M A n c K).alloc (.cells #[.int .i64 q', .int .i64 M', .slice A' n' c', .int .i64 L] 26); have B2 := CBox.new (w.alloc (.cells #[.int .i64 q, .int .i64 M, .slice A n c, .int .i64 K] 26)) q' M' A' n' c' L; simp only [World.size_alloc] at B2; have c0 := B1.c0; have c1 := B1.c1; have c2 := B1.c2; have c3 := B1.c3; have d0 := B2.c0; have d1 := B2.c1; have d2 := B2.c2; have d3 := B2.c3; clear hI hI'
  have HP := Lib.hid (show pairErr xs K ys L = 2 by unfold pairErr; rw [if_pos ⟨(validC_kind hv).1, (validC_kind hv').1⟩, if_neg hl])
  have HV := Lib.hid hv
  have HV' := Lib.hid hv'
  clear hv hv' hl
  have T1 : True := trivial
  go_enter Try.func20, Try.ntmps20
  go_wp2_with (first
    | (go_at_call 12; have t1 := T1; clear T1 t1; refine (cond_valid _ _ _ _ _ _ xs _ h1).mono ?_; rintro e w1 ⟨rfl, hb⟩; rw [HV.out]; replace hB := below_step hB hb; replace h1 := h1.step hb; replace h2 := h2.step hb; replace B1 := B1.step hb; replace B2 := B2.step hb; have c0 := B1.c0; have c1 := B1.c1; have c2 := B1.c2; have c3 := B1.c3; have d0 := B2.c0; have d1 := B2.c1; have d2 := B2.c2; have d3 := B2.c3)
    | (go_at_call 12; refine (cond_valid _ _ _ _ _ _ ys _ h2).mono ?_; rintro e w1 ⟨rfl, hb⟩; rw [HV'.out]; replace hB := below_step hB hb; replace h1 := h1.step hb; replace h2 := h2.step hb; replace B1 := B1.step hb; replace B2 := B2.step hb; have c0 := B1.c0; have c1 := B1.c1; have c2 := B1.c2; have c3 := B1.c3; have d0 := B2.c0; have d1 := B2.c1; have d2 := B2.c2; have d3 := B2.c3)
    | (go_at_call 34; refine (lin_comp _ _ _ _ xs _ _ _ _ ys _ h1 h2).mono ?_; rintro e w1 ⟨rfl, hb⟩; rw [HP.out]; replace hB := below_step hB hb; replace h1 := h1.step hb; replace h2 := h2.step hb; replace B1 := B1.step hb; replace B2 := B2.step hb; have c0 := B1.c0; have c1 := B1.c1; have c2 := B1.c2; have c3 := B1.c3; have d0 := B2.c0; have d1 := B2.c1; have d2 := B2.c2; have d3 := B2.c3))
  go_ret2
  exact ⟨rfl, hB⟩

theorem rcond_comp_dim (hv : validC q M xs K = true) (hv' : validC q' M' ys L = true) (hl : xs.length ≠ ys.length) : Calls Try.prog 21 #[condV q M A n c K, condV q' M' A' n' c' L] w fun e w' => e = .returned (.tuple #[.int .i64 0, .int .i64 2]) ∧ Below w.heap.size w w' := by
  have l1 := hI.len
  have l2 := hI'.len
  have hB := below_step (below_alloc w (.cells #[.int .i64 q, .int .i64 M, .slice A n c, .int .i64 K] 26)) (below_alloc _ (.cells #[.int .i64 q', .int .i64 M', .slice A' n' c', .int .i64 L] 26)); have h1 := hI.step hB; have h2 := hI'.step hB; have B1 := (CBox.new w q M A n c K).alloc (.cells #[.int .i64 q', .int .i64 M', .slice A' n' c', .int .i64 L] 26); have B2 := CBox.new (w.alloc (.cells #[.int .i64 q, .int .i64 M, .slice A n c, .int .i64 K] 26)) q' M' A' n' c' L; simp only [World.size_alloc] at B2; have c0 := B1.c0; have c1 := B1.c1; have c2 := B1.c2; have c3 := B1.c3; have d0 := B2.c0; have d1 := B2.c1; have d2 := B2.c2; have d3 := B2.c3; clear hI hI'
  have hne : n ≠ n' := by omega
  have HV := Lib.hid hv
  have HV' := Lib.hid hv'
  have q1 : ((n : Int) != (n' : Int)) = true := by simp; omega
  have q2 : ((n : Int) == (n' : Int)) = false := by simp; omega
  clear hv hv' hl
  have T1 : True := trivial
  go_enter Try.func21, Try.ntmps21
  go_wp2_with (first
    | (go_at_call 13; have t1 := T1; clear T1 t1; refine (ref_cvalid _ _ _ _ _ _ xs _ h1).mono ?_; rintro e w1 ⟨rfl, hb⟩; rw [HV.out]; replace hB := below_step hB hb; replace h1 := h1.step hb; replace h2 := h2.step hb; replace B1 := B1.step hb; replace B2 := B2.step hb; have c0 := B1.c0; have c1 := B1.c1; have c2 := B1.c2; have c3 := B1.c3; have d0 := B2.c0; have d1 := B2.c1; have d2 := B2.c2; have d3 := B2.c3)
    | (go_at_call 13; refine (ref_cvalid _ _ _ _ _ _ ys _ h2).mono ?_; rintro e w1 ⟨rfl, hb⟩; rw [HV'.out]; replace hB := below_step hB hb; replace h1 := h1.step hb; replace h2 := h2.step hb; replace B1 := B1.step hb; replace B2 := B2.step hb; have c0 := B1.c0; have c1 := B1.c1; have c2 := B1.c2; have c3 := B1.c3; have d0 := B2.c0; have d1 := B2.c1; have d2 := B2.c2; have d3 := B2.c3))
  go_ret2
  exact ⟨rfl, hB⟩

set_option maxHeartbeats 4000000 in
theorem cond_comp_ok (hv : validC q M xs K = true) (hv' : validC q' M' ys L = true) (hl : xs.length = ys.length) : Calls Try.prog 20 #[condV q M A n c K, condV q' M' A' n' c' L] w fun e w' => e = .returned (.tuple #[.int .i64 (ordC q M xs K q' M' ys L), .int .i64 0]) ∧ Below w.heap.size w w' := by
  have hB := below_step (below_alloc w (.cells #[.int .i64 q, .int .i64 M, .slice A n c, .int .i64 K] 26)) (below_alloc _ (.cells #[.int .i64 q', .int .i64 M', .slice A' n' c', .int .i64 L] 26)); have h1 := hI.step hB; have h2 := hI'.step hB; have B1 := (CBox.new w q M A n c K).alloc (.cells #[.int .i64 q', .int .i64 M', .slice A' n' c', .int .i64 L] 26); have B2 := CBox.new (w.alloc (.cells #[.int .i64 q, .int .i64 M, .slice A n c, .int .i64 K] 26)) q' M' A' n' c' L; simp only [World.size_alloc] at B2; have c0 := B1.c0; have c1 := B1.c1; have c2 := B1.c2; have c3 := B1.c3; have d0 := B2.c0; have d1 := B2.c1; have d2 := B2.c2; have d3 := B2.c3; clear hI hI'
  have hp : pairErr xs K ys L = 0 := by unfold pairErr; rw [if_pos ⟨(validC_kind hv).1, (validC_kind hv').1⟩, if_pos hl]
  have HP := Lib.hid hp
  have HPO := Lib.hid (show (if pairErr xs K ys L = 0 then ordE xs K ys L else 0) = ordE xs K ys L by rw [if_pos hp])
  have HV := Lib.hid hv
  have HV' := Lib.hid hv'
  have hq1 : q = 0 ∨ q = 1 ∨ q = 2 := by rcases (validC_kind hv).2 with h | h | h <;> simp [h.1]
  have hq2 : q' = 0 ∨ q' = 1 ∨ q' = 2 := by rcases (validC_kind hv').2 with h | h | h <;> simp [h.1]
  have HQ := Lib.hid (And.intro hq1 hq2)
  have hob := ordE_bd xs K ys L
  unfold ordC
  obtain ⟨o, hoo⟩ : ∃ o, ordE xs K ys L = o := ⟨_, rfl⟩
  rw [hoo] at hob ⊢
  have HO2 := Lib.hid hoo
  clear hoo
  have HW3 := Lib.hid (show ∀ x ∈ [cmpI (rankI q) (rankI q'), cmpI M M', o], -9223372036854775808 ≤ x ∧ x ≤ 9223372036854775807 by
    intro x hx
    have k1 := cmp_bd (rankI q) (rankI q')
    have k2 := cmp_bd M M'
    simp only [List.mem_cons, List.not_mem_nil, or_false] at hx
    rcases hx with rfl | rfl | rfl <;> omega)
  clear hv hv' hl hp hq1 hq2 hob
  have T1 : True := trivial
  go_enter Try.func20, Try.ntmps20
  go_wp2_with (first
    | (go_at_call 12; have t1 := T1; clear T1 t1; refine (cond_valid _ _ _ _ _ _ xs _ h1).mono ?_; rintro e w1 ⟨rfl, hb⟩; rw [HV.out]; replace hB := below_step hB hb; replace h1 := h1.step hb; replace h2 := h2.step hb; replace B1 := B1.step hb; replace B2 := B2.step hb; have c0 := B1.c0; have c1 := B1.c1; have c2 := B1.c2; have c3 := B1.c3; have d0 := B2.c0; have d1 := B2.c1; have d2 := B2.c2; have d3 := B2.c3)
    | (go_at_call 12; refine (cond_valid _ _ _ _ _ _ ys _ h2).mono ?_; rintro e w1 ⟨rfl, hb⟩; rw [HV'.out]; replace hB := below_step hB hb; replace h1 := h1.step hb; replace h2 := h2.step hb; replace B1 := B1.step hb; replace B2 := B2.step hb; have c0 := B1.c0; have c1 := B1.c1; have c2 := B1.c2; have c3 := B1.c3; have d0 := B2.c0; have d1 := B2.c1; have d2 := B2.c2; have d3 := B2.c3)
    | (go_at_call 34; refine (lin_comp _ _ _ _ xs _ _ _ _ ys _ h1 h2).mono ?_; rintro e w1 ⟨rfl, hb⟩; rw [HP.out, if_pos rfl, HO2.out]; replace hB := below_step hB hb; replace h1 := h1.step hb; replace h2 := h2.step hb; replace B1 := B1.step hb; replace B2 := B2.step hb; have c0 := B1.c0; have c1 := B1.c1; have c2 := B1.c2; have c3 := B1.c3; have d0 := B2.c0; have d1 := B2.c1; have d2 := B2.c2; have d3 := B2.c3))
  clear c0 c1 c2 c3 d0 d1 d2 d3
  rename_i hwalk
  obtain ⟨hq1, hq2⟩ := HQ.out
  refine wp_region_plan (by rfl) ccPlan (ccFacts w.heap.size (w.heap.size + 1) q M q' M' o w1.heap.size) (fun W => Below w1.heap.size w1 W) (by kernel_rfl) rfl (Below.refl _ _).drew ?_ ?_
  case refine_2 =>
    intro a W hS hsz hdf hold hf
    have e1 := getd (show a.tmps.getD 4 undef = _ from hf 15 (by decide) (by decide))
    have e2 := getd (show a.tmps.getD 5 undef = _ from hf 16 (by decide) (by decide))
    refine hwalk a W ?_
    go_wp2
    refine bodyPost_ret (v := .tuple #[.int .i64 (leadI [cmpI (rankI q) (rankI q'), cmpI M M', o]), .int .i64 0]) ?_ hdf ⟨rfl, below_step hB hS⟩
    simp [results, Try.results20, go_sem, e1, e2]
  refine ⟨?_, ?_, ?_, ?_, ?_, ?_, ?_, ?_, ?_, ?_, ?_, ?_, ?_, ?_, ?_, ?_, ?_, trivial⟩ <;> intro a W hS hold hn hap hsz0 <;> have hsz : Hid (a.tmps.size = 42) := Lib.hid hsz0 <;> clear hsz0
  · have o1 := getd (hold 2 rfl)
    refine step_val rfl rfl (slot_lt hsz (by kernel_rfl)) ?_ hS
    go_simp
  · obtain ⟨f1, _⟩ := hn
    have e1 := getd (show a.tmps.getD 27 undef = _ from f1)
    have c1 := (B1.below hS B1.lt).c0
    refine step_val rfl rfl (slot_lt hsz (by kernel_rfl)) ?_ hS
    go_simp
  · obtain ⟨f1, _⟩ := hn
    have e1 := getd (show a.tmps.getD 28 undef = _ from f1)
    refine step_call (f := 37) (args := #[.int .i64 q]) rfl rfl (slot_lt hsz (by kernel_rfl)) ?_ ((cond_rank q hq1 W).mono ?_)
    · go_simp
    · rintro e w' ⟨rfl, rfl⟩; exact ⟨rfl, hS, grown_same _⟩
  · have o1 := getd (hold 3 rfl)
    refine step_val rfl rfl (slot_lt hsz (by kernel_rfl)) ?_ hS
    go_simp
  · obtain ⟨f1, _⟩ := hn
    have e1 := getd (show a.tmps.getD 30 undef = _ from f1)
    have c1 := (B2.below hS B2.lt).c0
    refine step_val rfl rfl (slot_lt hsz (by kernel_rfl)) ?_ hS
    go_simp
  · obtain ⟨f1, _⟩ := hn
    have e1 := getd (show a.tmps.getD 31 undef = _ from f1)
    refine step_call (f := 37) (args := #[.int .i64 q']) rfl rfl (slot_lt hsz (by kernel_rfl)) ?_ ((cond_rank q' hq2 W).mono ?_)
    · go_simp
    · rintro e w' ⟨rfl, rfl⟩; exact ⟨rfl, hS, grown_same _⟩
  · obtain ⟨f1, f2, _⟩ := hn
    have e1 := getd (show a.tmps.getD 29 undef = _ from f1)
    have e2 := getd (show a.tmps.getD 32 undef = _ from f2)
    refine step_call (f := 36) (args := #[.int .i64 (rankI q), .int .i64 (rankI q')]) rfl rfl (slot_lt hsz (by kernel_rfl)) ?_ ((cmp_compare _ _ W).mono ?_)
    · go_simp
    · rintro e w' ⟨rfl, rfl⟩; exact ⟨rfl, hS, grown_same _⟩
  · have o1 := getd (hold 2 rfl)
    refine step_val rfl rfl (slot_lt hsz (by kernel_rfl)) ?_ hS
    go_simp
  · obtain ⟨f1, _⟩ := hn
    have e1 := getd (show a.tmps.getD 34 undef = _ from f1)
    have c1 := (B1.below hS B1.lt).c1
    refine step_val rfl rfl (slot_lt hsz (by kernel_rfl)) ?_ hS
    go_simp
  · have o1 := getd (hold 3 rfl)
    refine step_val rfl rfl (slot_lt hsz (by kernel_rfl)) ?_ hS
    go_simp
  · obtain ⟨f1, _⟩ := hn
    have e1 := getd (show a.tmps.getD 36 undef = _ from f1)
    have c1 := (B2.below hS B2.lt).c1
    refine step_val rfl rfl (slot_lt hsz (by kernel_rfl)) ?_ hS
    go_simp
  · obtain ⟨f1, f2, _⟩ := hn
    have e1 := getd (show a.tmps.getD 35 undef = _ from f1)
    have e2 := getd (show a.tmps.getD 37 undef = _ from f2)
    refine step_call (f := 36) (args := #[.int .i64 M, .int .i64 M']) rfl rfl (slot_lt hsz (by kernel_rfl)) ?_ ((cmp_compare _ _ W).mono ?_)
    · go_simp
    · rintro e w' ⟨rfl, rfl⟩; exact ⟨rfl, hS, grown_same _⟩
  · have o1 := getd (hold 6 rfl)
    refine step_val rfl rfl (slot_lt hsz (by kernel_rfl)) ?_ hS
    go_simp
  · obtain ⟨f1, f2, f3, _⟩ := hn
    have e1 := getd (show a.tmps.getD 33 undef = _ from f1)
    have e2 := getd (show a.tmps.getD 38 undef = _ from f2)
    have e3 := getd (show a.tmps.getD 39 undef = _ from f3)
    refine step_lit (cs := (vals [cmpI (rankI q) (rankI q'), cmpI M M', o]).toArray) rfl rfl (slot_lt hsz (by kernel_rfl)) rfl (by decide) hS.size ?_ (hS.alloc hS.size _)
    go_simp
    try rfl
  · obtain ⟨f1, _⟩ := hn
    have f1 : W.ownsRow w1.heap.size 3 1 (a.tmps.getD 40 undef) (3) (vals [cmpI (rankI q) (rankI q'), cmpI M M', o]) := f1
    obtain ⟨A9, c9, e9, i9⟩ := own_ints f1 (by omega) HW3.out
    have e1 := getd e9
    refine step_call (f := 35) (args := #[.slice A9 3 c9]) rfl rfl (slot_lt hsz (by kernel_rfl)) ?_ ((cmp_or A9 3 c9 _ W i9).mono ?_)
    · go_simp
    · rintro e w' ⟨rfl, rfl⟩; exact ⟨rfl, hS, grown_same _⟩
  · obtain ⟨f1, _⟩ := hn
    have e1 := getd (show a.tmps.getD 41 undef = _ from f1)
    refine step_val rfl rfl (slot_lt hsz (by kernel_rfl)) ?_ hS
    go_simp
  · refine step_val rfl rfl (slot_lt hsz (by kernel_rfl)) ?_ hS
    go_simp

set_option maxHeartbeats 4000000 in
theorem rcond_cmp (hnn : n = n') (hn12 : n ≤ 12) (hM : -9223372036854775808 ≤ M ∧ M ≤ 9223372036854775807) (hM' : -9223372036854775808 ≤ M' ∧ M' ≤ 9223372036854775807) (hK : -9223372036854775808 ≤ K ∧ K ≤ 9223372036854775807) (hL : -9223372036854775808 ≤ L ∧ L ≤ 9223372036854775807) : Calls Try.prog 38 #[condV q M A n c K, condV q' M' A' n' c' L] w fun e w' => e = .returned (.int .i64 (ordC q M xs K q' M' ys L)) ∧ Below w.heap.size w w' := by
  have hll : xs.length = ys.length := by rw [hI.len, hI'.len, hnn]
  have hB := below_step (below_alloc w (.cells #[.int .i64 q, .int .i64 M, .slice A n c, .int .i64 K] 26)) (below_alloc _ (.cells #[.int .i64 q', .int .i64 M', .slice A' n' c', .int .i64 L] 26)); have h1 := hI.step hB; have h2 := hI'.step hB; have B1 := (CBox.new w q M A n c K).alloc (.cells #[.int .i64 q', .int .i64 M', .slice A' n' c', .int .i64 L] 26); have B2 := CBox.new (w.alloc (.cells #[.int .i64 q, .int .i64 M, .slice A n c, .int .i64 K] 26)) q' M' A' n' c' L; simp only [World.size_alloc] at B2; have c0 := B1.c0; have c1 := B1.c1; have c2 := B1.c2; have c3 := B1.c3; have d0 := B2.c0; have d1 := B2.c1; have d2 := B2.c2; have d3 := B2.c3; clear hI hI'
  subst hnn
  have HW1 := Lib.hid (show ∀ x ∈ [rankI q, M], -9223372036854775808 ≤ x ∧ x ≤ 9223372036854775807 by
    intro x hx
    have k1 := rank_bd q
    simp only [List.mem_cons, List.not_mem_nil, or_false] at hx
    rcases hx with rfl | rfl <;> omega)
  have HW2 := Lib.hid (show ∀ x ∈ [rankI q', M'], -9223372036854775808 ≤ x ∧ x ≤ 9223372036854775807 by
    intro x hx
    have k1 := rank_bd q'
    simp only [List.mem_cons, List.not_mem_nil, or_false] at hx
    rcases hx with rfl | rfl <;> omega)
  have HO := Lib.hid (ordL_snoc xs ys K L hll)
  have hOC : ordC q M xs K q' M' ys L = if ordL [rankI q, M] [rankI q', M'] = 0 then ordE xs K ys L else ordL [rankI q, M] [rankI q', M'] := by
    rw [ordL_two]
    unfold ordC leadI leadI leadI leadI
    generalize cmpI (rankI q) (rankI q') = a
    generalize cmpI M M' = b
    generalize ordE xs K ys L = o
    by_cases ha : a = 0
    · rw [if_pos ha, if_pos ha]
      by_cases hb : b = 0
      · rw [if_pos hb, if_pos hb]; split <;> simp_all
      · rw [if_neg hb, if_neg hb]
    · rw [if_neg ha, if_neg ha, if_neg ha]
  obtain ⟨v, hvv⟩ : ∃ v, ordC q M xs K q' M' ys L = v := ⟨_, rfl⟩
  rw [hvv]
  have HVV := Lib.hid (hvv.symm.trans hOC)
  clear hll hOC hvv
  go_enter Try.func38, Try.ntmps38
  go_wp2
  generalize hw1 : ((w.alloc (.cells #[.int .i64 q, .int .i64 M, .slice A n c, .int .i64 K] 26)).alloc (.cells #[.int .i64 q', .int .i64 M', .slice A' n c', .int .i64 L] 26)) = w1 at *
  clear hw1 c0 c1 c2 c3 d0 d1 d2 d3
  go_cut [5] from 6 (fun v W => v = .int .i64 (ordL [rankI q, M] [rankI q', M']) ∧ Below w1.heap.size w1 W)
  case first =>
    rename_i hJ hK2
    refine wp_region_plan (by rfl) rcPlan (rcFacts w.heap.size (w.heap.size + 1) q M q' M' w1.heap.size) (fun W => Below w1.heap.size w1 W) (by kernel_rfl) rfl (Below.refl _ _).drew ?_ ?_
    case refine_2 =>
      intro a W hS hsz hdf hold hf
      refine hK2 _ _ (Met.intro (hJ _ _ ?_))
      repeat apply Exists.intro
      refine ⟨?_, act_lit (n := 27) rcPlan hsz hdf hold⟩
      exact ⟨hf 13 (by decide) (by decide), hS⟩
    refine ⟨?_, ?_, ?_, ?_, ?_, ?_, ?_, ?_, ?_, ?_, ?_, ?_, ?_, ?_, trivial⟩ <;> intro a W hS hold hn hap hsz0 <;> have hsz : Hid (a.tmps.size = 27) := Lib.hid hsz0 <;> clear hsz0
    · have o1 := getd (hold 2 rfl)
      refine step_val rfl rfl (slot_lt hsz (by kernel_rfl)) ?_ hS
      go_simp
    · obtain ⟨f1, _⟩ := hn
      have e1 := getd (show a.tmps.getD 6 undef = _ from f1)
      have c1 := (B1.below hS B1.lt).c0
      refine step_val rfl rfl (slot_lt hsz (by kernel_rfl)) ?_ hS
      go_simp
    · obtain ⟨f1, _⟩ := hn
      have e1 := getd (show a.tmps.getD 7 undef = _ from f1)
      refine step_call (f := 57) (args := #[.int .i64 q]) rfl rfl (slot_lt hsz (by kernel_rfl)) ?_ ((ref_rank q W).mono ?_)
      · go_simp
      · rintro e w' ⟨rfl, rfl⟩; exact ⟨rfl, hS, grown_same _⟩
    · have o1 := getd (hold 2 rfl)
      refine step_val rfl rfl (slot_lt hsz (by kernel_rfl)) ?_ hS
      go_simp
    · obtain ⟨f1, _⟩ := hn
      have e1 := getd (show a.tmps.getD 9 undef = _ from f1)
      have c1 := (B1.below hS B1.lt).c1
      refine step_val rfl rfl (slot_lt hsz (by kernel_rfl)) ?_ hS
      go_simp
    · obtain ⟨f1, f2, _⟩ := hn
      have e1 := getd (show a.tmps.getD 8 undef = _ from f1)
      have e2 := getd (show a.tmps.getD 10 undef = _ from f2)
      refine step_lit (cs := (vals [rankI q, M]).toArray) rfl rfl (slot_lt hsz (by kernel_rfl)) rfl (by decide) hS.size ?_ (hS.alloc hS.size _)
      go_simp
      try rfl
    · have o1 := getd (hold 3 rfl)
      refine step_val rfl rfl (slot_lt hsz (by kernel_rfl)) ?_ hS
      go_simp
    · obtain ⟨f1, _⟩ := hn
      have e1 := getd (show a.tmps.getD 12 undef = _ from f1)
      have c1 := (B2.below hS B2.lt).c0
      refine step_val rfl rfl (slot_lt hsz (by kernel_rfl)) ?_ hS
      go_simp
    · obtain ⟨f1, _⟩ := hn
      have e1 := getd (show a.tmps.getD 13 undef = _ from f1)
      refine step_call (f := 57) (args := #[.int .i64 q']) rfl rfl (slot_lt hsz (by kernel_rfl)) ?_ ((ref_rank q' W).mono ?_)
      · go_simp
      · rintro e w' ⟨rfl, rfl⟩; exact ⟨rfl, hS, grown_same _⟩
    · have o1 := getd (hold 3 rfl)
      refine step_val rfl rfl (slot_lt hsz (by kernel_rfl)) ?_ hS
      go_simp
    · obtain ⟨f1, _⟩ := hn
      have e1 := getd (show a.tmps.getD 15 undef = _ from f1)
      have c1 := (B2.below hS B2.lt).c1
      refine step_val rfl rfl (slot_lt hsz (by kernel_rfl)) ?_ hS
      go_simp
    · obtain ⟨f1, f2, _⟩ := hn
      have e1 := getd (show a.tmps.getD 14 undef = _ from f1)
      have e2 := getd (show a.tmps.getD 16 undef = _ from f2)
      refine step_lit (cs := (vals [rankI q', M']).toArray) rfl rfl (slot_lt hsz (by kernel_rfl)) rfl (by decide) hS.size ?_ (hS.alloc hS.size _)
      go_simp
      try rfl
    · obtain ⟨f1, f2, _⟩ := hn
      have f1 : W.ownsRow w1.heap.size 3 1 (a.tmps.getD 11 undef) (2) (vals [rankI q, M]) := f1
      have f2 : W.ownsRow w1.heap.size 3 1 (a.tmps.getD 17 undef) (2) (vals [rankI q', M']) := f2
      obtain ⟨A8, c8, e8, i8⟩ := own_ints f1 (by omega) HW1.out
      obtain ⟨A9, c9, e9, i9⟩ := own_ints f2 (by omega) HW2.out
      have e1 := getd e8
      have e2 := getd e9
      refine step_call (f := 56) (args := #[.slice A8 2 c8, .slice A9 2 c9]) rfl rfl (slot_lt hsz (by kernel_rfl)) ?_ ((ref_order W A8 A9 2 c8 c9 _ _ i8 i9).mono ?_)
      · go_simp
      · rintro e w' ⟨rfl, k, rfl⟩; exact ⟨rfl, hS.trans ((below_of_drewN k).mono hS.size), ⟨rfl, rfl, rfl, Nat.le_refl _, fun _ _ _ => rfl⟩⟩
    · obtain ⟨f1, _⟩ := hn
      have e1 := getd (show a.tmps.getD 18 undef = _ from f1)
      refine step_val rfl rfl (slot_lt hsz (by kernel_rfl)) ?_ hS
      go_simp
  case rest =>
    obtain ⟨rfl, hb⟩ := hcut
    replace hB := below_step hB hb; replace h1 := h1.step hb; replace h2 := h2.step hb; replace B1 := B1.step hb; replace B2 := B2.step hb; have c0 := B1.c0; have c1 := B1.c1; have c2 := B1.c2; have c3 := B1.c3; have d0 := B2.c0; have d1 := B2.c1; have d2 := B2.c2; have d3 := B2.c3
    clear hb
    generalize ordL [rankI q, M] [rankI q', M'] = o at *
    by_cases ho : o = 0
    · subst ho
      go_wp2_with (go_at_call 58; refine (ref_cmp _ _ _ _ xs _ _ _ ys _ h1 h2 hn12 hK hL).mono ?_; rintro e w2 ⟨rfl, hb⟩; rw [HO.out]; replace hB := below_step hB hb)
      go_ret
      exact ⟨ret1 (vint (by rw [HVV.out]; simp)), hB⟩
    · have HNE := Lib.hid ho
      have q1 : (o != 0) = true := by simpa using ho
      have q2 : (o == 0) = false := by simpa using ho
      clear ho
      go_wp2
      go_ret
      exact ⟨ret1 (vint (by rw [HVV.out]; simp [HNE.out])), hB⟩

theorem rcond_comp_ok (hv : validC q M xs K = true) (hv' : validC q' M' ys L = true) (hl : xs.length = ys.length) : Calls Try.prog 21 #[condV q M A n c K, condV q' M' A' n' c' L] w fun e w' => e = .returned (.tuple #[.int .i64 (ordC q M xs K q' M' ys L), .int .i64 0]) ∧ Below w.heap.size w w' := by
  have l1 := hI.len
  have l2 := hI'.len
  have hB := below_step (below_alloc w (.cells #[.int .i64 q, .int .i64 M, .slice A n c, .int .i64 K] 26)) (below_alloc _ (.cells #[.int .i64 q', .int .i64 M', .slice A' n' c', .int .i64 L] 26)); have h1 := hI.step hB; have h2 := hI'.step hB; have B1 := (CBox.new w q M A n c K).alloc (.cells #[.int .i64 q', .int .i64 M', .slice A' n' c', .int .i64 L] 26); have B2 := CBox.new (w.alloc (.cells #[.int .i64 q, .int .i64 M, .slice A n c, .int .i64 K] 26)) q' M' A' n' c' L; simp only [World.size_alloc] at B2; have c0 := B1.c0; have c1 := B1.c1; have c2 := B1.c2; have c3 := B1.c3; have d0 := B2.c0; have d1 := B2.c1; have d2 := B2.c2; have d3 := B2.c3; clear hI hI'
  have hnn : n = n' := by omega
  subst hnn
  have hk1 := fits_wide0 (validB_true.1 (validC_kind hv).1).2.1
  have hk2 := fits_wide0 (validB_true.1 (validC_kind hv').1).2.1
  have h12 : n ≤ 12 := by have := (validB_true.1 (validC_kind hv).1).1; omega
  have hM1 : -9223372036854775808 ≤ M ∧ M ≤ 9223372036854775807 := by rcases (validC_kind hv).2 with h | h | h <;> omega
  have hM2 : -9223372036854775808 ≤ M' ∧ M' ≤ 9223372036854775807 := by rcases (validC_kind hv').2 with h | h | h <;> omega
  have HC := Lib.hid (fun W (g1 : IntsAt W A n xs) (g2 : IntsAt W A' n ys) => rcond_cmp q M A n c K xs q' M' A' n c' L ys W g1 g2 rfl h12 hM1 hM2 hk1 hk2)
  have HV := Lib.hid hv
  have HV' := Lib.hid hv'
  generalize ordC q M xs K q' M' ys L = o at *
  clear hv hv' hl hk1 hk2 hM1 hM2
  have T1 : True := trivial
  go_enter Try.func21, Try.ntmps21
  go_wp2_with (first
    | (go_at_call 13; have t1 := T1; clear T1 t1; refine (ref_cvalid _ _ _ _ _ _ xs _ h1).mono ?_; rintro e w1 ⟨rfl, hb⟩; rw [HV.out]; replace hB := below_step hB hb; replace h1 := h1.step hb; replace h2 := h2.step hb; replace B1 := B1.step hb; replace B2 := B2.step hb; have c0 := B1.c0; have c1 := B1.c1; have c2 := B1.c2; have c3 := B1.c3; have d0 := B2.c0; have d1 := B2.c1; have d2 := B2.c2; have d3 := B2.c3)
    | (go_at_call 13; refine (ref_cvalid _ _ _ _ _ _ ys _ h2).mono ?_; rintro e w1 ⟨rfl, hb⟩; rw [HV'.out]; replace hB := below_step hB hb; replace h1 := h1.step hb; replace h2 := h2.step hb; replace B1 := B1.step hb; replace B2 := B2.step hb; have c0 := B1.c0; have c1 := B1.c1; have c2 := B1.c2; have c3 := B1.c3; have d0 := B2.c0; have d1 := B2.c1; have d2 := B2.c2; have d3 := B2.c3)
    | (go_at_call 38; refine (HC.out _ h1 h2).mono ?_; rintro e w1 ⟨rfl, hb⟩; replace hB := below_step hB hb; replace h1 := h1.step hb; replace h2 := h2.step hb; replace B1 := B1.step hb; replace B2 := B2.step hb; have c0 := B1.c0; have c1 := B1.c1; have c2 := B1.c2; have c3 := B1.c3; have d0 := B2.c0; have d1 := B2.c1; have d2 := B2.c2; have d3 := B2.c3))
  go_ret2
  exact ⟨rfl, hB⟩

theorem cond_comp : Calls Try.prog 20 #[condV q M A n c K, condV q' M' A' n' c' L] w fun e w' => e = .returned (.tuple #[.int .i64 (ccVal q M xs K q' M' ys L), .int .i64 (ccErr q M xs K q' M' ys L)]) ∧ Below w.heap.size w w' := by
  unfold ccVal ccErr
  cases hv : validC q M xs K
  · exact cond_comp_bad1 q M A n c K xs q' M' A' n' c' L ys w hI hI' hv
  · cases hv' : validC q' M' ys L
    · exact cond_comp_bad2 q M A n c K xs q' M' A' n' c' L ys w hI hI' hv hv'
    · by_cases hl : xs.length = ys.length
      · have h := cond_comp_ok q M A n c K xs q' M' A' n' c' L ys w hI hI' hv hv' hl
        simpa [hl] using h
      · have h := cond_comp_dim q M A n c K xs q' M' A' n' c' L ys w hI hI' hv hv' hl
        simpa [hl] using h

theorem rcond_comp : Calls Try.prog 21 #[condV q M A n c K, condV q' M' A' n' c' L] w fun e w' => e = .returned (.tuple #[.int .i64 (ccVal q M xs K q' M' ys L), .int .i64 (ccErr q M xs K q' M' ys L)]) ∧ Below w.heap.size w w' := by
  unfold ccVal ccErr
  cases hv : validC q M xs K
  · exact rcond_comp_bad1 q M A n c K xs q' M' A' n' c' L ys w hI hI' hv
  · cases hv' : validC q' M' ys L
    · exact rcond_comp_bad2 q M A n c K xs q' M' A' n' c' L ys w hI hI' hv hv'
    · by_cases hl : xs.length = ys.length
      · have h := rcond_comp_ok q M A n c K xs q' M' A' n' c' L ys w hI hI' hv hv' hl
        simpa [hl] using h
      · have h := rcond_comp_dim q M A n c K xs q' M' A' n' c' L ys w hI hI' hv hv' hl
        simpa [hl] using h

end
end Go.Proofs.Ytbjkijifpikhkaa
