/-
  lin.Put.
-/
import Derived.Test.YtbjkijifpikhkaaProg
import Derived.Test.YtbjkijifpikhkaaLinKit
import Derived.Test.YtbjkijifpikhkaaLinTerms
import Derived.Test.YtbjkijifpikhkaaLinAt
import Derived.Test.YtbjkijifpikhkaaLinClone
import Derived.Test.YtbjkijifpikhkaaNumDot
import Derived.Deep.RegionHeld3
import Derived.BigRegion
import Derived.Deep.Cut
import Derived.Test.YtbjkijifpikhkaaRoundKit
namespace Go.Proofs.Ytbjkijifpikhkaa
open Go.RowKit Go.Shelf
set_option linter.unusedVariables false
set_option linter.unusedSimpArgs false

attribute [local go_sem] Oper.semAt_some

/-- A function's answer is an expression and an error. -/
def LinRet (w : World) (e : Ending) (w' : World) (ys : List Int) (K err : Int) : Prop :=
  ∃ A n c, e = .returned (.tuple #[.agg #[.slice A n c, .int .i64 K], .int .i64 err]) ∧ IntsAt w' A n ys ∧ Below w.heap.size w w'

/-- A function's answer is an expression, in a row of its own, and an error. -/
def RetO (w : World) (e : Ending) (w' : World) (ys : List Int) (K err : Int) : Prop :=
  ∃ A n c, e = .returned (.tuple #[.agg #[.slice A n c, .int .i64 K], .int .i64 err]) ∧ IntsAt w' A n ys ∧ Below w.heap.size w w' ∧ (n = 0 ∨ ∃ g, A = some ⟨g, 0, none⟩ ∧ w.heap.size ≤ g ∧ OwnRow w' g n ys)
theorem RetO.lin {w : World} {e : Ending} {w' : World} {ys : List Int} {K err : Int} (h : RetO w e w' ys K err) : LinRet w e w' ys K err := by
  obtain ⟨A, n, c, h1, h2, h3, _⟩ := h
  exact ⟨A, n, c, h1, h2, h3⟩
theorem LinRet.lin {w : World} {e : Ending} {w' : World} {ys : List Int} {K err : Int} (h : LinRet w e w' ys K err) : LinRet w e w' ys K err := h
theorem LinRet.o_nil {w : World} {e : Ending} {w' : World} {K err : Int} (h : LinRet w e w' [] K err) : RetO w e w' [] K err := by
  obtain ⟨A, n, c, h1, h2, h3⟩ := h
  exact ⟨A, n, c, h1, h2, h3, .inl h2.len.symm⟩
theorem ret_o {A : Option Addr} {n c : Nat} {K err : Int} {w w' : World} {ys : List Int} {K' err' : Int} (h1 : err' = err) (h2 : K' = K) (hI : IntsAt w' A n ys) (hb : Below w.heap.size w w') (hf : n = 0 ∨ ∃ g, A = some ⟨g, 0, none⟩ ∧ w.heap.size ≤ g ∧ OwnRow w' g n ys) :
    RetO w (.returned (.tuple #[.agg #[.slice A n c, .int .i64 K], .int .i64 err])) w' ys K' err' := by
  subst h1; subst h2; exact ⟨A, n, c, rfl, hI, hb, hf⟩
theorem OwnRow.store2 {w : World} {g n b : Nat} {xs : List Int} (h : OwnRow w g n xs) (hne : b ≠ g) (u v : Value) : OwnRow ((w.setCell ⟨b, 0, none⟩ u).setCell ⟨b, 1, none⟩ v) g n xs :=
  (h.other (a := ⟨b, 0, none⟩) (fun e => hne e.symm) u).other (a := ⟨b, 1, none⟩) (fun e => hne e.symm) v

/-- Block b is a variable that holds an int. -/
def IBox (w : World) (b : Nat) (i : Int) : Prop := w.heap[b]? = some (.cells #[.int .i64 i] 3 (0, 0))
section
variable {w w' : World} {b : Nat} {i : Int}
theorem IBox.new (w : World) (i : Int) : IBox (w.alloc (.cells #[.int .i64 i] 3)) w.heap.size i := heap_alloc_new w _
theorem IBox.lt (h : IBox w b i) : b < w.heap.size := (Array.getElem?_eq_some_iff.1 h).1
theorem IBox.below {B : Nat} (h : IBox w b i) (hb : Below B w w') (hB : b < B) : IBox w' b i := (hb.block b hB).trans h
theorem IBox.step (h : IBox w b i) (hb : Below w.heap.size w w') : IBox w' b i := h.below hb h.lt
theorem IBox.alloc (h : IBox w b i) (o : Obj) : IBox (w.alloc o) b i := h.step (below_alloc w o)
theorem IBox.other (h : IBox w b i) {a : Addr} (ha : b ≠ a.block) (u : Value) : IBox (w.setCell a u) b i := (Below.heap_setCell w a u b ha).trans h
theorem LBox.other {A : Option Addr} {n c : Nat} {K : Int} (h : LBox w b A n c K) {a : Addr} (ha : b ≠ a.block) (u : Value) : LBox (w.setCell a u) b A n c K := (Below.heap_setCell w a u b ha).trans h
theorem IBox.c (h : IBox w b i) : w.cell? ⟨b, 0, none⟩ = some (.int .i64 i) := by rw [cell_of_row w b 0 _ _ (0, 0) h]; rfl
end

theorem block_kept {W W' : World} {row : Option Nat} {b : Nat} {cs : Array Value} {t : TypeId} {fr : Nat × Nat} (h : W.heap[b]? = some (.cells cs t fr)) (hg : W.grownBy W' row) (hr : ∀ r, row = some r → ∃ o : Obj, W.heap[r]? = some o ∧ o.isCells = false) : W'.heap[b]? = some (.cells cs t fr) := by
  refine (hg.block b (Array.getElem?_eq_some_iff.1 h).1 fun e => ?_).trans h
  obtain ⟨o, ho, hc⟩ := hr b e.symm
  rw [h] at ho
  cases ho
  cases hc
theorem OwnRow.kept {W W' : World} {row : Option Nat} {g n : Nat} {xs : List Int} (h : OwnRow W g n xs) (hg : W.grownBy W' row) (hr : ∀ r, row = some r → ∃ o : Obj, W.heap[r]? = some o ∧ o.isCells = false) : OwnRow W' g n xs := by
  obtain ⟨hl, cur, hc, hx⟩ := h
  exact ⟨hl, cur, block_kept hc hg hr, hx⟩

/-- One turn of Put's loop. -/
def putStep (xs : List Int) (i : Nat) (n : Nat) (ys : List Int) (r : List Int) (x : NzAt n ys) : List Int := r.set x.1 (IntKind.i64.wrap (r[x.1]?.getD 0 + IntKind.i64.wrap (xs[i]?.getD 0 * ys[x.1]?.getD 0)))

theorem pair_zero {xs ys : List Int} {K L : Int} (h : pairErr xs K ys L = 0) : validB xs K = true ∧ validB ys L = true ∧ xs.length = ys.length := by
  unfold pairErr at h
  split at h
  · rename_i h1
    split at h
    · rename_i h2; exact ⟨h1.1, h1.2, h2⟩
    · cases h
  · cases h

/-- The coefficients of Put's result. -/
def putL (n : Nat) (xs : List Int) (i : Nat) (ys : List Int) : List Int := (List.range n).map fun j => (if j = i then 0 else xs[j]?.getD 0) + xs[i]?.getD 0 * ys[j]?.getD 0
def putXs (n : Nat) (xs : List Int) (K : Int) (i : Nat) (ys : List Int) (L : Int) : List Int := if validB (putL n xs i ys) (K + xs[i]?.getD 0 * L) = true then putL n xs i ys else []
def putK (n : Nat) (xs : List Int) (K : Int) (i : Nat) (ys : List Int) (L : Int) : Int := if validB (putL n xs i ys) (K + xs[i]?.getD 0 * L) = true then K + xs[i]?.getD 0 * L else 0
def putE (n : Nat) (xs : List Int) (K : Int) (i : Nat) (ys : List Int) (L : Int) : Int := if validB (putL n xs i ys) (K + xs[i]?.getD 0 * L) = true then 0 else 3
section
variable {n : Nat} {xs : List Int} {K : Int} {i : Nat} {ys : List Int} {L : Int}
theorem putXs_bad (h : validB (putL n xs i ys) (K + xs[i]?.getD 0 * L) = false) : putXs n xs K i ys L = [] := by unfold putXs; rw [if_neg (by rw [h]; simp)]
theorem putK_bad (h : validB (putL n xs i ys) (K + xs[i]?.getD 0 * L) = false) : putK n xs K i ys L = 0 := by unfold putK; rw [if_neg (by rw [h]; simp)]
theorem putE_bad (h : validB (putL n xs i ys) (K + xs[i]?.getD 0 * L) = false) : putE n xs K i ys L = 3 := by unfold putE; rw [if_neg (by rw [h]; simp)]
theorem putXs_ok (h : validB (putL n xs i ys) (K + xs[i]?.getD 0 * L) = true) : putXs n xs K i ys L = putL n xs i ys := by unfold putXs; rw [if_pos h]
theorem putK_ok (h : validB (putL n xs i ys) (K + xs[i]?.getD 0 * L) = true) : putK n xs K i ys L = K + xs[i]?.getD 0 * L := by unfold putK; rw [if_pos h]
theorem putE_ok (h : validB (putL n xs i ys) (K + xs[i]?.getD 0 * L) = true) : putE n xs K i ys L = 0 := by unfold putE; rw [if_pos h]

theorem valid_at (h : validB xs K = true) (j : Nat) : -1048576 ≤ xs[j]?.getD 0 ∧ xs[j]?.getD 0 ≤ 1048576 := by
  by_cases hj : j < xs.length
  · exact fitsB_true.1 ((validB_true.1 h).2.2 _ (getD_mem hj))
  · have : xs[j]?.getD 0 = 0 := by simp [hj]
    omega

theorem put_bd (hx : validB xs K = true) (hy : validB ys L = true) (i j : Nat) : -1099511627776 ≤ xs[i]?.getD 0 * ys[j]?.getD 0 ∧ xs[i]?.getD 0 * ys[j]?.getD 0 ≤ 1099511627776 := mul_bd (valid_at hx i) (valid_at hy j)

theorem put_wf (hx : validB xs K = true) (hy : validB ys L = true) : ∀ x ∈ putL n xs i ys, -9223372036854775808 ≤ x ∧ x ≤ 9223372036854775807 := by
  intro x hm
  obtain ⟨j, _, rfl⟩ := List.mem_map.1 hm
  have h1 := valid_at hx j
  have h2 := put_bd hx hy i j
  split <;> omega

theorem tab_get {n : Nat} (f : Nat → Int) {j : Nat} (hj : j < n) : ((List.range n).map f)[j]?.getD 0 = f j := by simp [hj]
theorem tab_set {n : Nat} (f : Nat → Int) {k : Nat} (v : Int) : ((List.range n).map f).set k v = (List.range n).map fun j => if j = k then v else f j := by
  apply List.ext_getElem (by simp)
  intro j h1 h2
  simp only [List.getElem_set, List.getElem_map, List.getElem_range]
  by_cases e : k = j
  · rw [if_pos e, if_pos e.symm]
  · rw [if_neg e, if_neg (fun e' => e e'.symm)]
theorem tab_self {n : Nat} (h : xs.length = n) : xs = (List.range n).map fun j => xs[j]?.getD 0 := by
  apply List.ext_getElem (by simp [h])
  intro j h1 h2
  simp [h1]

theorem put_fold_k (hl : xs.length = n) (hl' : ys.length = n) (hx : validB xs K = true) (hy : validB ys L = true) (hi : i < n) : ∀ k, k ≤ n →
    (nzl n ys k).foldl (putStep xs i n ys) (xs.set i 0) = (List.range n).map fun j => (if j = i then 0 else xs[j]?.getD 0) + (if j < k then xs[i]?.getD 0 * ys[j]?.getD 0 else 0)
  | 0, _ => by
    rw [nzl, List.foldl_nil]
    conv => lhs; rw [tab_self hl]
    rw [tab_set]
    simp
  | k + 1, hk => by
    have ih := put_fold_k hl hl' hx hy hi k (by omega)
    by_cases hz : ys[k]?.getD 0 = 0
    · rw [nzl_miss hz, ih]
      apply List.map_congr_left
      intro j _
      by_cases e : j = k
      · subst e; simp [hz]
      · have : (j < k + 1) ↔ (j < k) := by omega
        simp [this]
    · rw [nzl_hit ⟨by omega, hz⟩, List.foldl_append, ih, List.foldl_cons, List.foldl_nil]
      unfold putStep
      rw [tab_get _ (show k < n by omega), tab_set]
      apply List.map_congr_left
      intro j _
      have h1 := valid_at hx k
      have h2 := put_bd hx hy i k
      by_cases e : j = k
      · subst e
        rw [if_pos rfl, if_neg (show ¬ j < j by omega), if_pos (show j < j + 1 by omega), IntWalk.i64_in (xs[i]?.getD 0 * ys[j]?.getD 0) (by omega)]
        generalize xs[i]?.getD 0 * ys[j]?.getD 0 = m at h2 ⊢
        rw [IntWalk.i64_in _ (by split <;> omega)]
        omega
      · rw [if_neg e]
        have : (j < k + 1) ↔ (j < k) := by omega
        simp [this]

theorem put_fold (hl : xs.length = n) (hl' : ys.length = n) (hx : validB xs K = true) (hy : validB ys L = true) (hi : i < n) : (nzl n ys n).foldl (putStep xs i n ys) (xs.set i 0) = putL n xs i ys := by
  rw [put_fold_k hl hl' hx hy hi n (Nat.le_refl _)]
  apply List.map_congr_left
  intro j hj
  rw [if_pos (List.mem_range.1 hj)]
end

end Go.Proofs.Ytbjkijifpikhkaa