/-
  lin.Cut.
-/
import Derived.Test.YtbjkijifpikhkaaProg
import Derived.Test.YtbjkijifpikhkaaLinKit
import Derived.Test.YtbjkijifpikhkaaLinTerms
import Derived.Test.YtbjkijifpikhkaaLinAt
import Derived.Test.YtbjkijifpikhkaaLinClone
import Derived.Test.YtbjkijifpikhkaaLinPut
import Derived.Test.YtbjkijifpikhkaaLinMake
import Derived.Test.YtbjkijifpikhkaaLinConcat
import Derived.Test.YtbjkijifpikhkaaLinSum
import Derived.Deep.RegionHeld3
namespace Go.Proofs.Ytbjkijifpikhkaa
open Go.RowKit
set_option linter.unusedVariables false
set_option linter.unusedSimpArgs false

theorem below_step0 {w w' : World} {o : Obj} (h : Below w.heap.size (w.alloc o).drew w') : Below w.heap.size w w' := ((below_alloc w o).drew).trans h

/-- A piece of a slice of integers. -/
theorem ints_sub {w : World} {b off n d k : Nat} {xs : List Int} (hl : xs.length = n) (hs : n ≤ 17592186044416) (hw : ∀ x ∈ xs, -9223372036854775808 ≤ x ∧ x ≤ 9223372036854775807) (hb : b < w.heap.size)
    (hc : ∀ j, j < n → w.cell? ⟨b, off + j, none⟩ = some (.int .i64 (xs[j]?.getD 0))) (hdk : d + k ≤ n) : IntsAt w (some ⟨b, off + d, none⟩) k ((xs.drop d).take k) := by
  refine ⟨by simp [hl]; omega, by omega, fun x hx => hw x (List.mem_of_mem_drop (List.mem_of_mem_take hx)), fun _ => ⟨b, off + d, rfl, hb, fun j hj => ?_⟩⟩
  rw [show off + d + j = off + (d + j) by omega, hc (d + j) (by omega)]
  simp [hj, List.getElem?_take]

/-- The two parts that Cut joins. -/
def cutP (b off n c i : Nat) (xs : List Int) (j : Nat) : Part :=
  if j = 0 then ⟨some ⟨b, off, none⟩, i, c, xs.take i⟩ else ⟨(if c = i + 1 then some ⟨b, off, none⟩ else some ⟨b, off + (i + 1), none⟩), n - (i + 1), c - (i + 1), xs.drop (i + 1)⟩

theorem cut_parts {w : World} {b off n c i : Nat} {xs : List Int} (hl : xs.length = n) (hs : n ≤ 17592186044416) (hw : ∀ x ∈ xs, -9223372036854775808 ≤ x ∧ x ≤ 9223372036854775807) (hb : b < w.heap.size)
    (hc : ∀ j, j < n → w.cell? ⟨b, off + j, none⟩ = some (.int .i64 (xs[j]?.getD 0))) (hi : i < n) (hnc : n ≤ c) :
    PartsAt (w.alloc (.cells #[.slice (some ⟨b, off, none⟩) i c, .slice (if c = i + 1 then some ⟨b, off, none⟩ else some ⟨b, off + (i + 1), none⟩) (n - (i + 1)) (c - (i + 1))] 22)).drew w.heap.size 0 2 (cutP b off n c i xs) := by
  obtain ⟨o, ho⟩ : ∃ o, o = (Obj.cells #[.slice (some ⟨b, off, none⟩) i c, .slice (if c = i + 1 then some ⟨b, off, none⟩ else some ⟨b, off + (i + 1), none⟩) (n - (i + 1)) (c - (i + 1))] 22) := ⟨_, rfl⟩
  have hst : Below w.heap.size w (w.alloc o).drew := (below_alloc w o).drew
  intro j hj
  rcases (show j = 0 ∨ j = 1 by omega) with rfl | rfl
  · refine ⟨?_, ?_, fun h => by simp [cutP] at h⟩
    · rw [World.cell?_drew, World.cell?_alloc_at _ _ _ _ rfl]; rfl
    · rw [← ho]
      have h := ints_sub (d := 0) (k := i) hl hs hw hb hc (by omega)
      exact IntsAt.step (by simpa [cutP] using h) hst
  · refine ⟨?_, ?_, fun h => by
      have h' : (if c = i + 1 then some (⟨b, off, none⟩ : Addr) else some ⟨b, off + (i + 1), none⟩) = none := h
      split at h' <;> cases h'⟩
    · rw [World.cell?_drew, World.cell?_alloc_at _ _ _ _ rfl]; rfl
    · rw [← ho]
      refine IntsAt.step ?_ hst
      show IntsAt w (if c = i + 1 then some ⟨b, off, none⟩ else some ⟨b, off + (i + 1), none⟩) (n - (i + 1)) (xs.drop (i + 1))
      have h := ints_sub (d := i + 1) (k := n - (i + 1)) hl hs hw hb hc (by omega)
      have e : (xs.drop (i + 1)).take (n - (i + 1)) = xs.drop (i + 1) := List.take_of_length_le (by simp [hl])
      rw [e] at h
      by_cases h1 : c = i + 1
      · have h0 : n - (i + 1) = 0 := by omega
        rw [h0] at h ⊢
        exact ⟨h.len, h.small, h.wf, fun hn => absurd hn (by omega)⟩
      · rw [if_neg h1]; exact h

theorem cut_tot {b off n c i : Nat} {xs : List Int} (hi : i < n) : tot (cutP b off n c i xs) 2 = n - 1 := by simp [tot, cutP]; omega
theorem cut_cat {b off n c i : Nat} {xs : List Int} : cat (cutP b off n c i xs) 2 = xs.eraseIdx i := by simp [cat, cutP, List.eraseIdx_eq_take_drop_succ]

end Go.Proofs.Ytbjkijifpikhkaa