/-
  The reference's Same of conditions.
-/
import Derived.Test.YtbjkijifpikhkaaProg
import Derived.Test.YtbjkijifpikhkaaKit
import Derived.Test.YtbjkijifpikhkaaLinKit
import Derived.Test.YtbjkijifpikhkaaLinTerms
import Derived.Test.YtbjkijifpikhkaaLinBase
import Derived.Test.YtbjkijifpikhkaaCondKit
namespace Go.Proofs.Ytbjkijifpikhkaa
open Go.RowKit
set_option linter.unusedVariables false
set_option linter.unusedSimpArgs false

def sameC (q M : Int) (xs : List Int) (K : Int) (q' M' : Int) (ys : List Int) (K' : Int) : Bool := (q == q') && ((M == M') && sameB xs K ys K')

set_option maxHeartbeats 2000000 in
theorem cond_same (q M : Int) (A : Option Addr) (n c : Nat) (K : Int) (xs : List Int) (q' M' : Int) (A' : Option Addr) (n' c' : Nat) (K' : Int) (ys : List Int) (w : World) (hI : IntsAt w A n xs) (hI' : IntsAt w A' n' ys) :
    Calls Try.prog 17 #[condV q M A n c K, condV q' M' A' n' c' K'] w fun e w' => e = .returned (.bool (sameC q M xs K q' M' ys K')) ∧ Below w.heap.size w w' := by
  have b1 := below_alloc w (.cells #[.int .i64 q, .int .i64 M, .slice A n c, .int .i64 K] 26)
  have hB := below_step b1 (below_alloc _ (.cells #[.int .i64 q', .int .i64 M', .slice A' n' c', .int .i64 K'] 26))
  have h1 := hI.step hB
  have h2 := hI'.step hB
  have B1 := (CBox.new w q M A n c K).alloc (.cells #[.int .i64 q', .int .i64 M', .slice A' n' c', .int .i64 K'] 26)
  have B2 := CBox.new (w.alloc (.cells #[.int .i64 q, .int .i64 M, .slice A n c, .int .i64 K] 26)) q' M' A' n' c' K'
  rw [World.size_alloc] at B2
  have c0 := B1.c0
  have c1 := B1.c1
  have c2 := B1.c2
  have c3 := B1.c3
  have d0 := B2.c0
  have d1 := B2.c1
  have d2 := B2.c2
  have d3 := B2.c3
  obtain ⟨v, hv⟩ : ∃ v, sameB xs K ys K' = v := ⟨_, rfl⟩
  have HV := Lib.hid hv
  clear hI hI' b1
  by_cases hq : q = q'
  · subst hq
    by_cases hm : M = M'
    · subst hm
      have e : sameC q M xs K q M ys K' = v := by unfold sameC; rw [hv]; simp
      rw [e]
      clear e hv
      go_enter Try.func17, Try.ntmps17
      go_wp2_with (go_at_call 31; refine (ref_same _ _ _ _ xs _ _ _ _ ys _ h1 h2).mono ?_; rintro e w1 ⟨rfl, hb⟩; rw [HV.out]; replace hB := below_step hB hb)
      go_ret
      exact ⟨ret_bool (by simp), hB⟩
    · have e : sameC q M xs K q M' ys K' = false := by unfold sameC; simp [hm]
      rw [e]
      have g : (M == M') = false := by simpa using hm
      clear e hv
      go_enter Try.func17, Try.ntmps17
      go_wp2
      go_ret
      exact ⟨ret_bool (by simp), hB⟩
  · have e : sameC q M xs K q' M' ys K' = false := by unfold sameC; simp [hq]
    rw [e]
    have g : (q == q') = false := by simpa using hq
    clear e hv
    go_enter Try.func17, Try.ntmps17
    go_wp2
    go_ret
    exact ⟨ret_bool (by simp), hB⟩
end Go.Proofs.Ytbjkijifpikhkaa
