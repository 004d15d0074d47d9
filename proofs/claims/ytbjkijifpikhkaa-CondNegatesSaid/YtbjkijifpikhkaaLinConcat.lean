/-
  slices.Grow of nil, and slices.Concat.
-/
import Derived.Test.YtbjkijifpikhkaaProg
import Derived.Test.YtbjkijifpikhkaaLinKit
import Derived.Test.YtbjkijifpikhkaaLinClone
import Derived.OwnWalk
import Derived.Laws.OwnMore
import Derived.Laws.AppendOwnNone
import Derived.Lib.AppendZerosOnto
import Derived.Lib.Walk
import Derived.Lib.SliceRun
namespace Go.Proofs.Ytbjkijifpikhkaa
open Go.ChangeShapes Go.WideShapes Go.ChangeAt Go.RowKit
set_option linter.unusedVariables false
set_option linter.unusedSimpArgs false

/-- A part of a concatenation. -/
structure Part where
  A : Option Addr
  n : Nat
  c : Nat
  xs : List Int
def tot (P : Nat → Part) : Nat → Nat
  | 0 => 0
  | k + 1 => tot P k + (P k).n
def cat (P : Nat → Part) : Nat → List Int
  | 0 => []
  | k + 1 => cat P k ++ (P k).xs
theorem tot_mono (P : Nat → Part) {i m : Nat} (h : i ≤ m) : tot P i ≤ tot P m := by
  induction h with
  | refl => exact Nat.le_refl _
  | step _ ih => exact Nat.le_trans ih (by simp [tot])
/-- The cells of a slice of slices, and what these hold. -/
def PartsAt (w : World) (b off m : Nat) (P : Nat → Part) : Prop :=
  ∀ j, j < m → w.cell? ⟨b, off + j, none⟩ = some (.slice (P j).A (P j).n (P j).c) ∧ IntsAt w (P j).A (P j).n (P j).xs ∧ ((P j).A = none → (P j).n = 0 ∧ (P j).c = 0)
theorem cat_len {w : World} {b off m : Nat} {P : Nat → Part} (h : PartsAt w b off m P) : ∀ k, k ≤ m → (cat P k).length = tot P k
  | 0, _ => rfl
  | k + 1, hk => by
    have := (h k (by omega)).2.1.len
    simp only [cat, tot, List.length_append]
    rw [cat_len h k (by omega), this]

theorem own_base {w : World} {base : Nat} {e : TypeId} {size n k : Nat} {v : Value} {xs : List Value} (h : w.ownsRow base e size v n xs) (hk : v.ownBlock = some k) : base ≤ k := by
  obtain ⟨_, ⟨rfl, _⟩ | ⟨g, cap, cur, rfl, hb, _⟩⟩ := h
  · cases hk
  · cases hk; exact hb

theorem own_cap {w : World} {base : Nat} {e : TypeId} {size g n m cap : Nat} {xs : List Value} (h : w.ownsRow base e size (.slice (some ⟨g, 0, none⟩) m cap) n xs) : n ≤ cap ∧ cap ≤ 9223372036854775807 := by
  obtain ⟨_, ⟨h, _⟩ | ⟨g', cap', cur, h, _, _, h1, h2, _⟩⟩ := h
  · cases h
  · simp only [Value.slice.injEq] at h
    unfold maxLen at h2
    omega

end Go.Proofs.Ytbjkijifpikhkaa