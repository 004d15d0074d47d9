/-
  Scale of the reference of package lin.
-/
import Derived.Test.YtbjkijifpikhkaaProg
import Derived.Test.YtbjkijifpikhkaaLinKit
import Derived.Test.YtbjkijifpikhkaaLinBase
import Derived.Test.YtbjkijifpikhkaaLinAt
import Derived.Test.YtbjkijifpikhkaaLinMix
import Derived.Test.YtbjkijifpikhkaaLinMake
import Derived.Test.YtbjkijifpikhkaaLinSumRef
namespace Go.Proofs.Ytbjkijifpikhkaa
open Go.RowKit
set_option linter.unusedVariables false
set_option linter.unusedSimpArgs false

def zB (xs : List Int) (K : Int) : Bool := sameB xs K (zeros xs.length) 0
def scL (n : Nat) (k : Int) (xs : List Int) : List Int := mixL n k xs 0 (zeros n)
def scK (k K : Int) : Int := k * K + 0 * 0
def kE (xs : List Int) (K k : Int) : Int := if validB xs K = true then (if zB xs K = true then 0 else if fitsB k = true then (if validB (scL xs.length k xs) (scK k K) = true then 0 else 3) else 3) else 1
def kX (xs : List Int) (K k : Int) : List Int := if validB xs K = true then (if zB xs K = true then zeros xs.length else if fitsB k = true then (if validB (scL xs.length k xs) (scK k K) = true then scL xs.length k xs else []) else []) else []
def kK (xs : List Int) (K k : Int) : Int := if validB xs K = true then (if zB xs K = true then 0 else if fitsB k = true then (if validB (scL xs.length k xs) (scK k K) = true then scK k K else 0) else 0) else 0
section
variable {xs : List Int} {K k : Int} {n : Nat}
theorem k_inv (h : validB xs K = false) : kE xs K k = 1 ∧ kX xs K k = [] ∧ kK xs K k = 0 := by unfold kE kX kK; rw [h]; exact ⟨rfl, rfl, rfl⟩
theorem k_zero (h : validB xs K = true) (hz : zB xs K = true) (hn : xs.length = n) : kE xs K k = 0 ∧ kX xs K k = zeros n ∧ kK xs K k = 0 := by unfold kE kX kK; rw [h, hz, hn]; exact ⟨rfl, rfl, rfl⟩
theorem k_fit (h : validB xs K = true) (hz : zB xs K = false) (hk : fitsB k = false) : kE xs K k = 3 ∧ kX xs K k = [] ∧ kK xs K k = 0 := by unfold kE kX kK; rw [h, hz, hk]; exact ⟨rfl, rfl, rfl⟩
theorem k_bad (h : validB xs K = true) (hz : zB xs K = false) (hk : fitsB k = true) (hn : xs.length = n) (hr : validB (scL n k xs) (scK k K) = false) : kE xs K k = 3 ∧ kX xs K k = [] ∧ kK xs K k = 0 := by
  unfold kE kX kK; rw [h, hz, hk, hn, hr]; exact ⟨rfl, rfl, rfl⟩
theorem k_ok (h : validB xs K = true) (hz : zB xs K = false) (hk : fitsB k = true) (hn : xs.length = n) (hr : validB (scL n k xs) (scK k K) = true) : kE xs K k = 0 ∧ kX xs K k = scL n k xs ∧ kK xs K k = scK k K := by
  unfold kE kX kK; rw [h, hz, hk, hn, hr]; exact ⟨rfl, rfl, rfl⟩
theorem zeros_tame (n : Nat) : Tame (zeros n) := fun j => by
  by_cases h : j < n <;> simp [zeros, h]
end

end Go.Proofs.Ytbjkijifpikhkaa