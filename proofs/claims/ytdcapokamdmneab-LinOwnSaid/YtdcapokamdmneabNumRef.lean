/-
  Contracts for Gcd and Lcm of the reference of package num.
-/
import Derived.Test.YtdcapokamdmneabProg
import Derived.Test.YtdcapokamdmneabKit
import Derived.Test.YtdcapokamdmneabNumBase
import Derived.Test.YtdcapokamdmneabNumMath
import Derived.Test.YtdcapokamdmneabNumGcd
namespace Go.Proofs.Ytdcapokamdmneab
open Go.RowKit
set_option linter.unusedVariables false

def divStep (m : Nat) (g : Bool) (x : Int) : Bool := g && decide ((m : Int) % x = 0)

theorem divStep_all (m : Nat) (xs : List Int) : ∀ g, xs.foldl (divStep m) g = (g && xs.all fun x => decide ((m : Int) % x = 0)) := by
  induction xs with
  | nil => intro g; simp
  | cons x r ih => intro g; simp only [List.foldl_cons, ih, divStep, List.all_cons]; rw [Bool.and_assoc]

theorem div_iff {m : Nat} {xs : List Int} (hx : ∀ x ∈ xs, 1 ≤ x) : xs.foldl (divStep m) true = true ↔ ∀ x ∈ xs, x.toNat ∣ m := by
  rw [divStep_all, Bool.true_and, List.all_eq_true]
  have key : ∀ x : Int, 1 ≤ x → (((m : Int) % x = 0) ↔ x.toNat ∣ m) := fun x h => by
    obtain ⟨j, rfl⟩ : ∃ j : Nat, x = j := ⟨x.toNat, by omega⟩
    rw [Int.toNat_natCast, ← Int.natCast_emod, Nat.dvd_iff_mod_eq_zero]; omega
  exact ⟨fun h x hm => (key x (hx x hm)).1 (by simpa using h x hm), fun h x hm => by simpa using (key x (hx x hm)).2 (h x hm)⟩

theorem lcm_found {xs : List Int} {m : Nat} (hx : ∀ x ∈ xs, 1 ≤ x) (h1 : 1 ≤ m) (h2 : m ≤ 512) (hno : ∀ j, 1 ≤ j → j < m → ¬ xs.foldl (divStep j) true = true) (hd : xs.foldl (divStep m) true = true) :
    (m : Int) = lcmVal xs ∧ 0 = lcmErr xs := by
  have hm := (div_iff hx).1 hd
  rcases lcm_list xs hx with ⟨h3, h4⟩ | ⟨h3, h4⟩
  · have hle := Nat.le_of_dvd h1 (h4.2.2 m h1 hm)
    have hge : ¬ xs.foldl mulStep 1 < m := fun hl => hno _ h4.1 hl ((div_iff hx).2 h4.2.1)
    have e : xs.foldl mulStep 1 = m := by omega
    exact ⟨by unfold lcmVal; rw [if_pos hx, if_pos h3, e], by unfold lcmErr; rw [if_pos hx, if_pos h3]⟩
  · exact absurd (h4 m h1 hm) (by omega)

theorem lcm_none {xs : List Int} (hx : ∀ x ∈ xs, 1 ≤ x) (hno : ∀ j, 1 ≤ j → j < 513 → ¬ xs.foldl (divStep j) true = true) : 0 = lcmVal xs ∧ 3 = lcmErr xs := by
  rcases lcm_list xs hx with ⟨h3, h4⟩ | ⟨h3, h4⟩
  · exact absurd ((div_iff hx).2 h4.2.1) (hno _ h4.1 (by omega))
  · exact ⟨by unfold lcmVal; rw [if_pos hx, if_neg (by omega)], by unfold lcmErr; rw [if_pos hx, if_neg (by omega)]⟩

theorem lcm_bad {xs : List Int} {i : Nat} (hi : i < xs.length) (h : xs[i]?.getD 0 < 1) : 0 = lcmVal xs ∧ 1 = lcmErr xs := by
  have hx : ¬ ∀ x ∈ xs, 1 ≤ x := fun hx => by
    have e : xs[i]?.getD 0 = xs[i] := by simp [hi]
    have := hx _ (List.getElem_mem hi)
    omega
  exact ⟨by unfold lcmVal; rw [if_neg hx], by unfold lcmErr; rw [if_neg hx]⟩

theorem take_good {xs : List Int} {i : Nat} (hi : i < xs.length) (hg : ∀ j, j < i → 1 ≤ xs[j]?.getD 0) (h : ¬ xs[i]?.getD 0 < 1) : ∀ j, j < i + 1 → 1 ≤ xs[j]?.getD 0 := fun j hj => by
  rcases Nat.lt_or_eq_of_le (Nat.le_of_lt_succ hj) with h1 | h1
  · exact hg j h1
  · subst h1; omega

theorem all_good {xs : List Int} (h : ∀ j, j < xs.length → 1 ≤ xs[j]?.getD 0) : ∀ x ∈ xs, 1 ≤ x := fun x hx => by
  obtain ⟨j, hj, rfl⟩ := List.getElem_of_mem hx
  have := h j hj
  have e : xs[j]?.getD 0 = xs[j] := by simp [hj]
  omega

end Go.Proofs.Ytdcapokamdmneab