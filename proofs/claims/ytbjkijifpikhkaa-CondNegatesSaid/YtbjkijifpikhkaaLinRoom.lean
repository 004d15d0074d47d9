/-
  lin.Room, where the list is not nil.
-/
import Derived.Test.YtbjkijifpikhkaaProg
import Derived.Test.YtbjkijifpikhkaaLinKit
import Derived.Test.YtbjkijifpikhkaaLinTerms
import Derived.Test.YtbjkijifpikhkaaLinAt
import Derived.Test.YtbjkijifpikhkaaLinClone
import Derived.Test.YtbjkijifpikhkaaLinPut
import Derived.Test.YtbjkijifpikhkaaLinMake
import Derived.Test.YtbjkijifpikhkaaLinConcat
import Derived.Test.YtbjkijifpikhkaaLinSum
import Derived.Test.YtbjkijifpikhkaaLinCut
import Derived.Deep.RegionHeld3
namespace Go.Proofs.Ytbjkijifpikhkaa
open Go.RowKit
set_option linter.unusedVariables false
set_option linter.unusedSimpArgs false

/-- As RetF, and the capacity is no less than the length. -/
def RetC (w : World) (e : Ending) (w' : World) (ys : List Int) (K err : Int) : Prop :=
  ∃ A n c, e = .returned (.tuple #[.agg #[.slice A n c, .int .i64 K], .int .i64 err]) ∧ IntsAt w' A n ys ∧ Below w.heap.size w w' ∧ (n = 0 ∨ ∃ g, A = some ⟨g, 0, none⟩ ∧ w.heap.size ≤ g ∧ OwnRow w' g n ys) ∧ n ≤ c ∧ c ≤ 9223372036854775807
theorem RetC.f {w : World} {e : Ending} {w' : World} {ys : List Int} {K err : Int} (h : RetC w e w' ys K err) : RetF w e w' ys K err := by
  obtain ⟨A, n, c, h1, h2, h3, h4, _⟩ := h
  exact ⟨A, n, c, h1, h2, h3, h4.imp id fun ⟨g, a, b, _⟩ => ⟨g, a, b⟩⟩
theorem RetC.o {w : World} {e : Ending} {w' : World} {ys : List Int} {K err : Int} (h : RetC w e w' ys K err) : RetO w e w' ys K err := by
  obtain ⟨A, n, c, h1, h2, h3, h4, _⟩ := h
  exact ⟨A, n, c, h1, h2, h3, h4⟩
theorem RetC.lin {w : World} {e : Ending} {w' : World} {ys : List Int} {K err : Int} (h : RetC w e w' ys K err) : LinRet w e w' ys K err := h.f.lin
theorem ret_c {A : Option Addr} {n c : Nat} {K err : Int} {w w' : World} {ys : List Int} {K' err' : Int} (hc : n ≤ c ∧ c ≤ 9223372036854775807) (h1 : err' = err) (h2 : K' = K) (hI : IntsAt w' A n ys) (hb : Below w.heap.size w w') (hf : n = 0 ∨ ∃ g, A = some ⟨g, 0, none⟩ ∧ w.heap.size ≤ g ∧ OwnRow w' g n ys) :
    RetC w (.returned (.tuple #[.agg #[.slice A n c, .int .i64 K], .int .i64 err])) w' ys K' err' := by
  subst h1; subst h2; exact ⟨A, n, c, rfl, hI, hb, hf, hc⟩

/-- The three parts that Room joins; g: the block of the new zeros. -/
def roomP (b off n c i k g : Nat) (xs : List Int) (j : Nat) : Part :=
  if j = 0 then ⟨some ⟨b, off, none⟩, i, c, xs.take i⟩ else if j = 1 then ⟨some ⟨g, 0, none⟩, k, k, zeros k⟩ else ⟨(if c = i then some ⟨b, off, none⟩ else some ⟨b, off + i, none⟩), n - i, c - i, xs.drop i⟩

theorem room_parts {w : World} {b off n c i k : Nat} {xs : List Int} (hl : xs.length = n) (hs : n ≤ 17592186044416) (hw : ∀ x ∈ xs, -9223372036854775808 ≤ x ∧ x ≤ 9223372036854775807) (hb : b < w.heap.size)
    (hc : ∀ j, j < n → w.cell? ⟨b, off + j, none⟩ = some (.int .i64 (xs[j]?.getD 0))) (hi : i ≤ n) (hnc : n ≤ c) (hk : k ≤ 12) :
    PartsAt ((w.alloc (.cells ((zeros k).map (Value.int .i64)).toArray 3)).alloc (.cells #[.slice (some ⟨b, off, none⟩) i c, .slice (some ⟨w.heap.size, 0, none⟩) k k, .slice (if c = i then some ⟨b, off, none⟩ else some ⟨b, off + i, none⟩) (n - i) (c - i)] 22)).drew (w.heap.size + 1) 0 3 (roomP b off n c i k w.heap.size xs) := by
  obtain ⟨o, ho⟩ : ∃ o, o = (Obj.cells #[.slice (some ⟨b, off, none⟩) i c, .slice (some ⟨w.heap.size, 0, none⟩) k k, .slice (if c = i then some ⟨b, off, none⟩ else some ⟨b, off + i, none⟩) (n - i) (c - i)] 22) := ⟨_, rfl⟩
  have h2 : Below (w.alloc (.cells ((zeros k).map (Value.int .i64)).toArray 3)).heap.size (w.alloc (.cells ((zeros k).map (Value.int .i64)).toArray 3)) ((w.alloc (.cells ((zeros k).map (Value.int .i64)).toArray 3)).alloc o).drew := (below_alloc _ o).drew
  have hst := below_step (below_alloc w (.cells ((zeros k).map (Value.int .i64)).toArray 3)) h2
  intro j hj
  rcases (show j = 0 ∨ j = 1 ∨ j = 2 by omega) with rfl | rfl | rfl
  · refine ⟨?_, ?_, fun h => by simp [roomP] at h⟩
    · rw [World.cell?_drew, World.cell?_alloc_at _ _ _ _ (by simp)]; rfl
    · rw [← ho]
      have h := ints_sub (d := 0) (k := i) hl hs hw hb hc (by omega)
      exact IntsAt.step (by simpa [roomP] using h) hst
  · refine ⟨?_, ?_, fun h => by simp [roomP] at h⟩
    · rw [World.cell?_drew, World.cell?_alloc_at _ _ _ _ (by simp)]; rfl
    · rw [← ho]
      exact IntsAt.step (new_ints w (zeros k) k (zeros_len k) (by omega) (zeros_wf k) w.heap.size rfl) h2
  · refine ⟨?_, ?_, fun h => by
      have h' : (if c = i then some (⟨b, off, none⟩ : Addr) else some ⟨b, off + i, none⟩) = none := h
      split at h' <;> cases h'⟩
    · rw [World.cell?_drew, World.cell?_alloc_at _ _ _ _ (by simp)]; rfl
    · rw [← ho]
      refine IntsAt.step ?_ hst
      show IntsAt w (if c = i then some ⟨b, off, none⟩ else some ⟨b, off + i, none⟩) (n - i) (xs.drop i)
      have h := ints_sub (d := i) (k := n - i) hl hs hw hb hc (by omega)
      have e : (xs.drop i).take (n - i) = xs.drop i := List.take_of_length_le (by simp [hl])
      rw [e] at h
      by_cases h1 : c = i
      · have h0 : n - i = 0 := by omega
        rw [h0] at h ⊢
        exact ⟨h.len, h.small, h.wf, fun hn => absurd hn (by omega)⟩
      · rw [if_neg h1]; exact h

def roomL (xs : List Int) (i k : Nat) : List Int := xs.take i ++ zeros k ++ xs.drop i
theorem room_tot {b off n c i k g : Nat} {xs : List Int} (hi : i ≤ n) : tot (roomP b off n c i k g xs) 3 = n + k := by simp [tot, roomP]; omega
theorem room_cat {b off n c i k g : Nat} {xs : List Int} : cat (roomP b off n c i k g xs) 3 = roomL xs i k := by simp [cat, roomP, roomL]
theorem room_len {n i k : Nat} {xs : List Int} (hl : xs.length = n) (hi : i ≤ n) : (roomL xs i k).length = n + k := by simp [roomL, hl, zeros_len]; omega
theorem room_wf {i k : Nat} {xs : List Int} (hw : ∀ x ∈ xs, -9223372036854775808 ≤ x ∧ x ≤ 9223372036854775807) : ∀ x ∈ roomL xs i k, -9223372036854775808 ≤ x ∧ x ≤ 9223372036854775807 := by
  intro x hx
  simp only [roomL, List.mem_append] at hx
  rcases hx with (hx | hx) | hx
  · exact hw x (List.mem_of_mem_take hx)
  · exact zeros_wf k x hx
  · exact hw x (List.mem_of_mem_drop hx)

end Go.Proofs.Ytbjkijifpikhkaa