/-
  Add and Sub of the reference of package lin.
-/
import Derived.Test.YtbjkijifpikhkaaProg
import Derived.Test.YtbjkijifpikhkaaLinKit
import Derived.Test.YtbjkijifpikhkaaLinAt
import Derived.Test.YtbjkijifpikhkaaLinMix
import Derived.Test.YtbjkijifpikhkaaLinMake
namespace Go.Proofs.Ytbjkijifpikhkaa
open Go.RowKit
set_option linter.unusedVariables false
set_option linter.unusedSimpArgs false

def sE (s : Int) (xs : List Int) (K : Int) (ys : List Int) (L : Int) : Int := if pairErr xs K ys L = 0 then (if validB (mixL xs.length 1 xs s ys) (1 * K + s * L) = true then 0 else 3) else pairErr xs K ys L
def sX (s : Int) (xs : List Int) (K : Int) (ys : List Int) (L : Int) : List Int := if pairErr xs K ys L = 0 then (if validB (mixL xs.length 1 xs s ys) (1 * K + s * L) = true then mixL xs.length 1 xs s ys else []) else []
def sK (s : Int) (xs : List Int) (K : Int) (ys : List Int) (L : Int) : Int := if pairErr xs K ys L = 0 then (if validB (mixL xs.length 1 xs s ys) (1 * K + s * L) = true then 1 * K + s * L else 0) else 0
section
variable {s : Int} {xs : List Int} {K : Int} {ys : List Int} {L : Int} {n : Nat}
theorem s_err (h : pairErr xs K ys L ≠ 0) : sE s xs K ys L = pairErr xs K ys L ∧ sX s xs K ys L = [] ∧ sK s xs K ys L = 0 := by
  unfold sE sX sK; rw [if_neg h, if_neg h, if_neg h]; exact ⟨rfl, rfl, rfl⟩
theorem s_bad (h : pairErr xs K ys L = 0) (hn : xs.length = n) (hv : validB (mixL n 1 xs s ys) (1 * K + s * L) = false) : sE s xs K ys L = 3 ∧ sX s xs K ys L = [] ∧ sK s xs K ys L = 0 := by
  unfold sE sX sK; rw [hn, if_pos h, if_pos h, if_pos h, hv]; exact ⟨rfl, rfl, rfl⟩
theorem s_ok (h : pairErr xs K ys L = 0) (hn : xs.length = n) (hv : validB (mixL n 1 xs s ys) (1 * K + s * L) = true) : sE s xs K ys L = 0 ∧ sX s xs K ys L = mixL n 1 xs s ys ∧ sK s xs K ys L = 1 * K + s * L := by
  unfold sE sX sK; rw [hn, if_pos h, if_pos h, if_pos h, hv]; exact ⟨rfl, rfl, rfl⟩
theorem valid_tame (h : validB xs K = true) : Tame xs := valid_at h
theorem valid_k (h : validB xs K = true) : -1048576 ≤ K ∧ K ≤ 1048576 := fitsB_true.1 (validB_true.1 h).2.1
end

end Go.Proofs.Ytbjkijifpikhkaa
