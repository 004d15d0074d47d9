/-
  Const and Var of package lin and of its reference; the comparison of two answers.
-/
import Derived.Test.YtbjkijifpikhkaaProg
import Derived.Test.YtbjkijifpikhkaaLinKit
import Derived.Test.YtbjkijifpikhkaaLinBase
import Derived.Test.YtbjkijifpikhkaaLinAt
import Derived.Test.YtbjkijifpikhkaaLinClone
import Derived.Test.YtbjkijifpikhkaaLinPut
namespace Go.Proofs.Ytbjkijifpikhkaa
open Go.RowKit
set_option linter.unusedVariables false
set_option linter.unusedSimpArgs false

def cErr (n k : Int) : Int := if 0 ≤ n ∧ n ≤ 12 then (if fitsB k = true then 0 else 3) else 6
def cXs (n k : Int) : List Int := if 0 ≤ n ∧ n ≤ 12 then (if fitsB k = true then zeros n.toNat else []) else []
def cK (n k : Int) : Int := if 0 ≤ n ∧ n ≤ 12 then (if fitsB k = true then k else 0) else 0
theorem c_rng {n k : Int} (h : ¬ (0 ≤ n ∧ n ≤ 12)) : cErr n k = 6 ∧ cXs n k = [] ∧ cK n k = 0 := by unfold cErr cXs cK; rw [if_neg h, if_neg h, if_neg h]; exact ⟨rfl, rfl, rfl⟩
theorem c_full {n k : Int} (h : 0 ≤ n ∧ n ≤ 12) (hk : fitsB k = false) : cErr n k = 3 ∧ cXs n k = [] ∧ cK n k = 0 := by
  unfold cErr cXs cK; rw [if_pos h, if_pos h, if_pos h, hk]; exact ⟨rfl, rfl, rfl⟩
theorem c_ok {m : Nat} {k : Int} (h : m ≤ 12) (hk : fitsB k = true) : cErr m k = 0 ∧ cXs m k = zeros m ∧ cK m k = k := by
  have h' : 0 ≤ (m : Int) ∧ (m : Int) ≤ 12 := by omega
  unfold cErr cXs cK; rw [if_pos h', if_pos h', if_pos h', hk]; exact ⟨rfl, by simp, rfl⟩
theorem zeros_wf (m : Nat) : ∀ x ∈ zeros m, -9223372036854775808 ≤ x ∧ x ≤ 9223372036854775807 := fun x hx => by
  have := (List.mem_replicate.1 hx).2
  omega
theorem zeros_valid {m : Nat} (h : m ≤ 12) (k : Int) : validB (zeros m) k = fitsB k := by
  cases hk : fitsB k
  · unfold validB; rw [hk]; simp
  · refine validB_true.2 ⟨by rw [zeros_len]; exact h, hk, fun x hx => ?_⟩
    rw [(List.mem_replicate.1 hx).2]; rfl

theorem ret_lin {A : Option Addr} {n c : Nat} {K err : Int} {w w' : World} {ys : List Int} {K' err' : Int} (h1 : err' = err) (h2 : K' = K) (hI : IntsAt w' A n ys) (hb : Below w.heap.size w w') :
    LinRet w (.returned (.tuple #[.agg #[.slice A n c, .int .i64 K], .int .i64 err])) w' ys K' err' := by
  subst h1; subst h2; exact ⟨A, n, c, rfl, hI, hb⟩

theorem ints_store2 {w : World} {g b n : Nat} {xs : List Int} (h : IntsAt w (some ⟨g, 0, none⟩) n xs) {x : Option Addr} (hx : x = some ⟨g, 0, none⟩) (hb : b ≠ g) (u v : Value) : IntsAt ((w.setCell ⟨b, 0, none⟩ u).setCell ⟨b, 1, none⟩ v) x n xs := by
  subst hx
  refine ⟨h.len, h.small, h.wf, fun hn => ?_⟩
  obtain ⟨b', off, e, hlt, hc⟩ := h.cells hn
  obtain ⟨rfl, rfl⟩ : g = b' ∧ 0 = off := by simpa using e
  refine ⟨g, 0, rfl, by simpa using hlt, fun j hj => ?_⟩
  rw [World.cell?_setCell_far _ ⟨b, 1, none⟩ ⟨g, 0 + j, none⟩ _ hb, World.cell?_setCell_far _ ⟨b, 0, none⟩ ⟨g, 0 + j, none⟩ _ hb]
  exact hc j hj

theorem new_ints (w : World) (xs : List Int) (n : Nat) (hl : xs.length = n) (hs : n ≤ 17592186044416) (hw : ∀ x ∈ xs, -9223372036854775808 ≤ x ∧ x ≤ 9223372036854775807) (g : Nat) (hg : g = w.heap.size) :
    IntsAt (w.alloc (.cells (xs.map (Value.int .i64)).toArray 3)) (some ⟨g, 0, none⟩) n xs := by subst hg; exact (OwnRow.new w xs n hl).ints hs hw

def vErr (n i : Int) : Int := if 0 ≤ n ∧ n ≤ 12 ∧ 0 ≤ i ∧ i < n then 0 else 6
def vXs (n i : Int) : List Int := if 0 ≤ n ∧ n ≤ 12 ∧ 0 ≤ i ∧ i < n then (zeros n.toNat).set i.toNat 1 else []
theorem v_bad {n i : Int} (h : ¬ (0 ≤ n ∧ n ≤ 12 ∧ 0 ≤ i ∧ i < n)) : vErr n i = 6 ∧ vXs n i = [] := by unfold vErr vXs; rw [if_neg h, if_neg h]; exact ⟨rfl, rfl⟩
theorem v_ok {m j : Nat} (h : m ≤ 12) (hj : j < m) : vErr m j = 0 ∧ vXs m j = (zeros m).set j 1 := by unfold vErr vXs; rw [if_pos (by omega), if_pos (by omega)]; exact ⟨rfl, by simp⟩
theorem set_wf {xs : List Int} (h : ∀ x ∈ xs, -9223372036854775808 ≤ x ∧ x ≤ 9223372036854775807) (j : Nat) {v : Int} (hv : -9223372036854775808 ≤ v ∧ v ≤ 9223372036854775807) : ∀ x ∈ xs.set j v, -9223372036854775808 ≤ x ∧ x ≤ 9223372036854775807 := fun x hx => by
  rcases List.mem_or_eq_of_mem_set hx with h1 | h1
  · exact h x h1
  · subst h1; exact hv

end Go.Proofs.Ytbjkijifpikhkaa
