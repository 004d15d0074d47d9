/-
  lin.Put.
-/
import Derived.Test.YtdcapokamdmneabProg
import Derived.Test.YtdcapokamdmneabLinKit
import Derived.Test.YtdcapokamdmneabLinTerms
import Derived.Test.YtdcapokamdmneabLinAt
import Derived.Test.YtdcapokamdmneabLinClone
import Derived.Test.YtdcapokamdmneabNumDot
import Derived.Deep.RegionHeld3
import Derived.BigRegion
import Derived.Deep.Cut
import Derived.Test.YtdcapokamdmneabRoundKit
namespace Go.Proofs.Ytdcapokamdmneab
open Go.RowKit Go.Shelf
set_option linter.unusedVariables false
set_option linter.unusedSimpArgs false

attribute [local go_sem] Oper.semAt_some

/-- A function's answer is an expression and an error. -/
def LinRet (w : World) (e : Ending) (w' : World) (ys : List Int) (K err : Int) : Prop :=
  ∃ A n c, e = .returned (.tuple #[.agg #[.slice A n c, .int .i64 K], .int .i64 err]) ∧ IntsAt w' A n ys ∧ Below w.heap.size w w'

/-- A function's answer is an expression, in a row of its own, and an error. -/
def RetO (w : World) (e : Ending) (w' : World) (ys : List Int) (K err : Int) : Prop :=
  ∃ A n c, e = .returned (.tuple #[.agg #[.slice A n c, .int .i64 K], .int .i64 err]) ∧ IntsAt w' A n ys ∧ Below w.heap.size w w' ∧ (n = 0 ∨ ∃ g, A = some ⟨g, 0, none⟩ ∧ w.heap.size ≤ g ∧ OwnRow w' g n ys)
theorem RetO.lin {w : World} {e : Ending} {w' : World} {ys : List Int} {K err : Int} (h : RetO w e w' ys K err) : LinRet w e w' ys K err := by
  obtain ⟨A, n, c, h1, h2, h3, _⟩ := h
  exact ⟨A, n, c, h1, h2, h3⟩
theorem LinRet.lin {w : World} {e : Ending} {w' : World} {ys : List Int} {K err : Int} (h : LinRet w e w' ys K err) : LinRet w e w' ys K err := h
theorem LinRet.o_nil {w : World} {e : Ending} {w' : World} {K err : Int} (h : LinRet w e w' [] K err) : RetO w e w' [] K err := by
  obtain ⟨A, n, c, h1, h2, h3⟩ := h
  exact ⟨A, n, c, h1, h2, h3, .inl h2.len.symm⟩
theorem ret_o {A : Option Addr} {n c : Nat} {K err : Int} {w w' : World} {ys : List Int} {K' err' : Int} (h1 : err' = err) (h2 : K' = K) (hI : IntsAt w' A n ys) (hb : Below w.heap.size w w') (hf : n = 0 ∨ ∃ g, A = some ⟨g, 0, none⟩ ∧ w.heap.size ≤ g ∧ OwnRow w' g n ys) :
    RetO w (.returned (.tuple #[.agg #[.slice A n c, .int .i64 K], .int .i64 err])) w' ys K' err' := by
  subst h1; subst h2; exact ⟨A, n, c, rfl, hI, hb, hf⟩
theorem OwnRow.store2 {w : World} {g n b : Nat} {xs : List Int} (h : OwnRow w g n xs) (hne : b ≠ g) (u v : Value) : OwnRow ((w.setCell ⟨b, 0, none⟩ u).setCell ⟨b, 1, none⟩ v) g n xs :=
  (h.other (a := ⟨b, 0, none⟩) (fun e => hne e.symm) u).other (a := ⟨b, 1, none⟩) (fun e => hne e.symm) v

/-- Block b is a variable that holds an int. -/
def IBox (w : World) (b : Nat) (i : Int) : Prop := w.heap[b]? = some (.cells #[.int .i64 i] 3 (0, 0))
section
variable {w w' : World} {b : Nat} {i : Int}
theorem IBox.new (w : World) (i : Int) : IBox (w.alloc (.cells #[.int .i64 i] 3)) w.heap.size i := heap_alloc_new w _
theorem IBox.lt (h : IBox w b i) : b < w.heap.size := (Array.getElem?_eq_some_iff.1 h).1
theorem IBox.below {B : Nat} (h : IBox w b i) (hb : Below B w w') (hB : b < B) : IBox w' b i := (hb.block b hB).trans h
theorem IBox.step (h : IBox w b i) (hb : Below w.heap.size w w') : IBox w' b i := h.below hb h.lt
theorem IBox.alloc (h : IBox w b i) (o : Obj) : IBox (w.alloc o) b i := h.step (below_alloc w o)
theorem IBox.other (h : IBox w b i) {a : Addr} (ha : b ≠ a.block) (u : Value) : IBox (w.setCell a u) b i := (Below.heap_setCell w a u b ha).trans h
theorem LBox.other {A : Option Addr} {n c : Nat} {K : Int} (h : LBox w b A n c K) {a : Addr} (ha : b ≠ a.block) (u : Value) : LBox (w.setCell a u) b A n c K := (Below.heap_setCell w a u b ha).trans h
theorem IBox.c (h : IBox w b i) : w.cell? ⟨b, 0, none⟩ = some (.int .i64 i) := by rw [cell_of_row w b 0 _ _ (0, 0) h]; rfl
end

theorem block_kept {W W' : World} {row : Option Nat} {b : Nat} {cs : Array Value} {t : TypeId} {fr : Nat × Nat} (h : W.heap[b]? = some (.cells cs t fr)) (hg : W.grownBy W' row) (hr : ∀ r, row = some r → ∃ o : Obj, W.heap[r]? = some o ∧ o.isCells = false) : W'.heap[b]? = some (.cells cs t fr) := by
  refine (hg.block b (Array.getElem?_eq_some_iff.1 h).1 fun e => ?_).trans h
  obtain ⟨o, ho, hc⟩ := hr b e.symm
  rw [h] at ho
  cases ho
  cases hc
theorem OwnRow.kept {W W' : World} {row : Option Nat} {g n : Nat} {xs : List Int} (h : OwnRow W g n xs) (hg : W.grownBy W' row) (hr : ∀ r, row = some r → ∃ o : Obj, W.heap[r]? = some o ∧ o.isCells = false) : OwnRow W' g n xs := by
  obtain ⟨hl, cur, hc, hx⟩ := h
  exact ⟨hl, cur, block_kept hc hg hr, hx⟩

/-- One turn of Put's loop. -/
def putStep (xs : List Int) (i : Nat) (n : Nat) (ys : List Int) (r : List Int) (x : NzAt n ys) : List Int := r.set x.1 (IntKind.i64.wrap (r[x.1]?.getD 0 + IntKind.i64.wrap (xs[i]?.getD 0 * ys[x.1]?.getD 0)))

theorem pair_zero {xs ys : List Int} {K L : Int} (h : pairErr xs K ys L = 0) : validB xs K = true ∧ validB ys L = true ∧ xs.length = ys.length := by
  unfold pairErr at h
  split at h
  · rename_i h1
    split at h
    · rename_i h2; exact ⟨h1.1, h1.2, h2⟩
    · cases h
  · cases h

/-- The coefficients of Put's result. -/
def putL (n : Nat) (xs : List Int) (i : Nat) (ys : List Int) : List Int := (List.range n).map fun j => (if j = i then 0 else xs[j]?.getD 0) + xs[i]?.getD 0 * ys[j]?.getD 0
def putXs (n : Nat) (xs : List Int) (K : Int) (i : Nat) (ys : List Int) (L : Int) : List Int := if validB (putL n xs i ys) (K + xs[i]?.getD 0 * L) = true then putL n xs i ys else []
def putK (n : Nat) (xs : List Int) (K : Int) (i : Nat) (ys : List Int) (L : Int) : Int := if validB (putL n xs i ys) (K + xs[i]?.getD 0 * L) = true then K + xs[i]?.getD 0 * L else 0
def putE (n : Nat) (xs : List Int) (K : Int) (i : Nat) (ys : List Int) (L : Int) : Int := if validB (putL n xs i ys) (K + xs[i]?.getD 0 * L) = true then 0 else 3
section
variable {n : Nat} {xs : List Int} {K : Int} {i : Nat} {ys : List Int} {L : Int}
theorem putXs_bad (h : validB (putL n xs i ys) (K + xs[i]?.getD 0 * L) = false) : putXs n xs K i ys L = [] := by unfold putXs; rw [if_neg (by rw [h]; simp)]
theorem putK_bad (h : validB (putL n xs i ys) (K + xs[i]?.getD 0 * L) = false) : putK n xs K i ys L = 0 := by unfold putK; rw [if_neg (by rw [h]; simp)]
theorem putE_bad (h : validB (putL n xs i ys) (K + xs[i]?.getD 0 * L) = false) : putE n xs K i ys L = 3 := by unfold putE; rw [if_neg (by rw [h]; simp)]
theorem putXs_ok (h : validB (putL n xs i ys) (K + xs[i]?.getD 0 * L) = true) : putXs n xs K i ys L = putL n xs i ys := by unfold putXs; rw [if_pos h]
theorem putK_ok (h : validB (putL n xs i ys) (K + xs[i]?.getD 0 * L) = true) : putK n xs K i ys L = K + xs[i]?.getD 0 * L := by unfold putK; rw [if_pos h]
theorem putE_ok (h : validB (putL n xs i ys) (K + xs[i]?.getD 0 * L) = true) : putE n xs K i ys L = 0 := by unfold putE; rw [if_pos h]

theorem valid_at (h : validB xs K = true) (j : Nat) : -1048576 ≤ xs[j]?.getD 0 ∧ xs[j]?.getD 0 ≤ 1048576 := by
  by_cases hj : j < xs.length
  · exact fitsB_true.1 ((validB_true.1 h).2.2 _ (getD_mem hj))
  · have : xs[j]?.getD 0 = 0 := by simp [hj]
    omega

theorem put_bd (hx : validB xs K = true) (hy : validB ys L = true) (i j : Nat) : -1099511627776 ≤ xs[i]?.getD 0 * ys[j]?.getD 0 ∧ xs[i]?.getD 0 * ys[j]?.getD 0 ≤ 1099511627776 := mul_bd (valid_at hx i) (valid_at hy j)

theorem put_wf (hx : validB xs K = true) (hy : validB ys L = true) : ∀ x ∈ putL n xs i ys, -9223372036854775808 ≤ x ∧ x ≤ 9223372036854775807 := by
  intro x hm
  obtain ⟨j, _, rfl⟩ := List.mem_map.1 hm
  have h1 := valid_at hx j
  have h2 := put_bd hx hy i j
  split <;> omega

theorem tab_get {n : Nat} (f : Nat → Int) {j : Nat} (hj : j < n) : ((List.range n).map f)[j]?.getD 0 = f j := by simp [hj]
theorem tab_set {n : Nat} (f : Nat → Int) {k : Nat} (v : Int) : ((List.range n).map f).set k v = (List.range n).map fun j => if j = k then v else f j := by
  apply List.ext_getElem (by simp)
  intro j h1 h2
  simp only [List.getElem_set, List.getElem_map, List.getElem_range]
  by_cases e : k = j
  · rw [if_pos e, if_pos e.symm]
  · rw [if_neg e, if_neg (fun e' => e e'.symm)]
theorem tab_self {n : Nat} (h : xs.length = n) : xs = (List.range n).map fun j => xs[j]?.getD 0 := by
  apply List.ext_getElem (by simp [h])
  intro j h1 h2
  simp [h1]

theorem put_fold_k (hl : xs.length = n) (hl' : ys.length = n) (hx : validB xs K = true) (hy : validB ys L = true) (hi : i < n) : ∀ k, k ≤ n →
    (nzl n ys k).foldl (putStep xs i n ys) (xs.set i 0) = (List.range n).map fun j => (if j = i then 0 else xs[j]?.getD 0) + (if j < k then xs[i]?.getD 0 * ys[j]?.getD 0 else 0)
  | 0, _ => by
    rw [nzl, List.foldl_nil]
    conv => lhs; rw [tab_self hl]
    rw [tab_set]
    simp
  | k + 1, hk => by
    have ih := put_fold_k hl hl' hx hy hi k (by omega)
    by_cases hz : ys[k]?.getD 0 = 0
    · rw [nzl_miss hz, ih]
      apply List.map_congr_left
      intro j _
      by_cases e : j = k
      · subst e; simp [hz]
      · have : (j < k + 1) ↔ (j < k) := by omega
        simp [this]
    · rw [nzl_hit ⟨by omega, hz⟩, List.foldl_append, ih, List.foldl_cons, List.foldl_nil]
      unfold putStep
      rw [tab_get _ (show k < n by omega), tab_set]
      apply List.map_congr_left
      intro j _
      have h1 := valid_at hx k
      have h2 := put_bd hx hy i k
      by_cases e : j = k
      · subst e
        rw [if_pos rfl, if_neg (show ¬ j < j by omega), if_pos (show j < j + 1 by omega), IntWalk.i64_in (xs[i]?.getD 0 * ys[j]?.getD 0) (by omega)]
        generalize xs[i]?.getD 0 * ys[j]?.getD 0 = m at h2 ⊢
        rw [IntWalk.i64_in _ (by split <;> omega)]
        omega
      · rw [if_neg e]
        have : (j < k + 1) ↔ (j < k) := by omega
        simp [this]

theorem put_fold (hl : xs.length = n) (hl' : ys.length = n) (hx : validB xs K = true) (hy : validB ys L = true) (hi : i < n) : (nzl n ys n).foldl (putStep xs i n ys) (xs.set i 0) = putL n xs i ys := by
  rw [put_fold_k hl hl' hx hy hi n (Nat.le_refl _)]
  apply List.map_congr_left
  intro j hj
  rw [if_pos (List.mem_range.1 hj)]
end

set_option maxHeartbeats 4000000 in
set_option maxRecDepth 100000 in
theorem lin_put_err (A : Option Addr) (n c : Nat) (K : Int) (xs : List Int) (i : Int) (A' : Option Addr) (n' c' : Nat) (L : Int) (ys : List Int) (w : World) (hI : IntsAt w A n xs) (hI' : IntsAt w A' n' ys) (hp : pairErr xs K ys L ≠ 0) :
    Calls Try.prog 7 #[.agg #[.slice A n c, .int .i64 K], .int .i64 i, .agg #[.slice A' n' c', .int .i64 L]] w fun e w' => LinRet w e w' [] 0 (pairErr xs K ys L) := by
  have hro : Fence.wide.round = none := rfl
  refine (callsIn_wide (n := 5)).1 ?_
  refine callsIn_of_wp_marks Try.func7 rfl trivial ?_ hro
  refine wpIn_wide.2 ?_
  simp only [Try.ntmps7, List.size_toArray, List.length_cons, List.length_nil, Nat.reduceAdd, Nat.reduceSub, Array.replicate_succ, Array.replicate_zero, List.push_toArray, List.append_toArray, List.nil_append, List.cons_append]
  have B1 := (((LBox.new w A n c K).alloc (.cells #[.int .i64 i] 3)).alloc (.cells #[.slice A' n' c', .int .i64 L] 24)).alloc (.cells #[.slice none 0 0, .int .i64 0] 24)
  have B4 := LBox.new (((w.alloc (.cells #[.slice A n c, .int .i64 K] 24)).alloc (.cells #[.int .i64 i] 3)).alloc (.cells #[.slice A' n' c', .int .i64 L] 24)) none 0 0 0
  have hB := below_step (below_step (below_step (below_alloc w (.cells #[.slice A n c, .int .i64 K] 24)) (below_alloc _ (.cells #[.int .i64 i] 3))) (below_alloc _ (.cells #[.slice A' n' c', .int .i64 L] 24))) (below_alloc _ (.cells #[.slice none 0 0, .int .i64 0] 24))
  have h1 := hI.step hB
  have h2 := hI'.step hB
  simp only [World.size_alloc] at B4
  have q1 : (pairErr xs K ys L != 0) = true := by simpa using hp
  have q2 : (pairErr xs K ys L == 0) = false := by simpa using hp
  clear hp
  go_wp2_with (go_at_call 23; refine (lin_pair _ _ _ _ xs _ _ _ _ ys _ h1 h2).mono ?_; rintro e w' ⟨rfl, hb⟩; replace B4 := B4.step hb; have c20 := B4.c0; have c21 := B4.c1; have f20 := B4.f 0; have f21 := B4.f 1; have B3 := B4.store none 0 0 0; have c30 := B4.s0 (.slice none 0 0); have c31 := B3.c1; replace hB := below_step hB hb)
  refine ⟨.tuple #[.agg #[.slice none 0 0, .int .i64 0], .int .i64 (pairErr xs K ys L)], ?_, ?_⟩
  · simp [results, Try.f7, go_sem, c30, c31]
  · exact ⟨_, _, _, rfl, ints_nil _ _, below_store2 hB (by omega) _ _⟩

set_option maxHeartbeats 4000000 in
set_option maxRecDepth 100000 in
theorem lin_put_rng (A : Option Addr) (n c : Nat) (K : Int) (xs : List Int) (i : Int) (A' : Option Addr) (n' c' : Nat) (L : Int) (ys : List Int) (w : World) (hI : IntsAt w A n xs) (hI' : IntsAt w A' n' ys) (hp : pairErr xs K ys L = 0) (hi : i < 0 ∨ (n : Int) ≤ i) :
    Calls Try.prog 7 #[.agg #[.slice A n c, .int .i64 K], .int .i64 i, .agg #[.slice A' n' c', .int .i64 L]] w fun e w' => LinRet w e w' [] 0 6 := by
  have hro : Fence.wide.round = none := rfl
  have hsm := hI.small
  refine (callsIn_wide (n := 5)).1 ?_
  refine callsIn_of_wp_marks Try.func7 rfl trivial ?_ hro
  refine wpIn_wide.2 ?_
  simp only [Try.ntmps7, List.size_toArray, List.length_cons, List.length_nil, Nat.reduceAdd, Nat.reduceSub, Array.replicate_succ, Array.replicate_zero, List.push_toArray, List.append_toArray, List.nil_append, List.cons_append]
  have B1 := (((LBox.new w A n c K).alloc (.cells #[.int .i64 i] 3)).alloc (.cells #[.slice A' n' c', .int .i64 L] 24)).alloc (.cells #[.slice none 0 0, .int .i64 0] 24)
  have BI := ((IBox.new (w.alloc (.cells #[.slice A n c, .int .i64 K] 24)) i).alloc (.cells #[.slice A' n' c', .int .i64 L] 24)).alloc (.cells #[.slice none 0 0, .int .i64 0] 24)
  have B4 := LBox.new (((w.alloc (.cells #[.slice A n c, .int .i64 K] 24)).alloc (.cells #[.int .i64 i] 3)).alloc (.cells #[.slice A' n' c', .int .i64 L] 24)) none 0 0 0
  have hB := below_step (below_step (below_step (below_alloc w (.cells #[.slice A n c, .int .i64 K] 24)) (below_alloc _ (.cells #[.int .i64 i] 3))) (below_alloc _ (.cells #[.slice A' n' c', .int .i64 L] 24))) (below_alloc _ (.cells #[.slice none 0 0, .int .i64 0] 24))
  have h1 := hI.step hB
  have h2 := hI'.step hB
  simp only [World.size_alloc] at B4 BI
  have HP := Lib.hid hp
  clear hp hI hI'
  rcases (show i < 0 ∨ (0 ≤ i ∧ (n : Int) ≤ i) by omega) with hi | ⟨hi0, hi⟩
  all_goals
    go_wp2_with (go_at_call 23; refine (lin_pair _ _ _ _ xs _ _ _ _ ys _ h1 h2).mono ?_; rintro e w' ⟨rfl, hb⟩; rw [HP.out]; replace B1 := B1.step hb; replace BI := BI.step hb; have c10 := B1.c0; have ci := BI.c; replace B4 := B4.step hb; have c20 := B4.c0; have c21 := B4.c1; have f20 := B4.f 0; have f21 := B4.f 1; have B3 := B4.store none 0 0 0; have c30 := B4.s0 (.slice none 0 0); have c31 := B3.c1; replace hB := below_step hB hb)
    refine ⟨.tuple #[.agg #[.slice none 0 0, .int .i64 0], .int .i64 6], ?_, ?_⟩
    · simp [results, Try.f7, go_sem, c30, c31]
    · exact ⟨_, _, _, rfl, ints_nil _ _, below_store2 hB (by omega) _ _⟩

set_option maxHeartbeats 4000000 in
set_option maxRecDepth 100000 in
theorem lin_put_main (b off n c : Nat) (K : Int) (xs : List Int) (i : Nat) (A' : Option Addr) (c' : Nat) (L : Int) (ys : List Int) (w : World) (hI : IntsAt w (some ⟨b, off, none⟩) n xs) (hbl : b < w.heap.size) (hcs : ∀ j, j < n → w.cell? ⟨b, off + j, none⟩ = some (.int .i64 (xs[j]?.getD 0))) (hI' : IntsAt w A' n ys)
    (hp : pairErr xs K ys L = 0) (hvx : validB xs K = true) (hvy : validB ys L = true) (hi : i < n) :
    Calls Try.prog 7 #[.agg #[.slice (some ⟨b, off, none⟩) n c, .int .i64 K], .int .i64 i, .agg #[.slice A' n c', .int .i64 L]] w fun e w' => RetO w e w' (putXs n xs K i ys L) (putK n xs K i ys L) (putE n xs K i ys L) := by
  have hro : Fence.wide.round = none := rfl
  have hsm := hI.small
  refine (callsIn_wide (n := 5)).1 ?_
  refine callsIn_of_wp_marks Try.func7 rfl trivial ?_ hro
  refine wpIn_wide.2 ?_
  simp only [Try.ntmps7, List.size_toArray, List.length_cons, List.length_nil, Nat.reduceAdd, Nat.reduceSub, Array.replicate_succ, Array.replicate_zero, List.push_toArray, List.append_toArray, List.nil_append, List.cons_append]
  have B1 := (((LBox.new w (some ⟨b, off, none⟩) n c K).alloc (.cells #[.int .i64 i] 3)).alloc (.cells #[.slice A' n c', .int .i64 L] 24)).alloc (.cells #[.slice none 0 0, .int .i64 0] 24)
  have BI := ((IBox.new (w.alloc (.cells #[.slice (some ⟨b, off, none⟩) n c, .int .i64 K] 24)) i).alloc (.cells #[.slice A' n c', .int .i64 L] 24)).alloc (.cells #[.slice none 0 0, .int .i64 0] 24)
  have B2 := (LBox.new ((w.alloc (.cells #[.slice (some ⟨b, off, none⟩) n c, .int .i64 K] 24)).alloc (.cells #[.int .i64 i] 3)) A' n c' L).alloc (.cells #[.slice none 0 0, .int .i64 0] 24)
  have B4 := LBox.new (((w.alloc (.cells #[.slice (some ⟨b, off, none⟩) n c, .int .i64 K] 24)).alloc (.cells #[.int .i64 i] 3)).alloc (.cells #[.slice A' n c', .int .i64 L] 24)) none 0 0 0
  have hB := below_step (below_step (below_step (below_alloc w (.cells #[.slice (some ⟨b, off, none⟩) n c, .int .i64 K] 24)) (below_alloc _ (.cells #[.int .i64 i] 3))) (below_alloc _ (.cells #[.slice A' n c', .int .i64 L] 24))) (below_alloc _ (.cells #[.slice none 0 0, .int .i64 0] 24))
  have h1 := hI.step hB
  have h2 := hI'.step hB
  have hx := (hB.cell (p := ⟨b, off + i, none⟩) hbl).trans (hcs i hi)
  simp only [World.size_alloc] at B4 B2 BI
  have HP := Lib.hid hp
  have HC := Lib.hid hcs
  have HM := Lib.hid (show (-1048576 ≤ K ∧ K ≤ 1048576) ∧ -1099511627776 ≤ xs[i]?.getD 0 * L ∧ xs[i]?.getD 0 * L ≤ 1099511627776 from ⟨fitsB_true.1 (validB_true.1 hvx).2.1, mul_bd (fitsB_true.1 ((validB_true.1 hvx).2.2 _ (hI.mem hi))) (fitsB_true.1 (validB_true.1 hvy).2.1)⟩)
  have HI' := Lib.hid hI'
  have hlxy := pair_zero hp
  have PF := Lib.hid (put_fold hI.len (by rw [← hlxy.2.2]; exact hI.len) hvx hvy hi)
  have HW := Lib.hid (put_wf (n := n) (i := i) hvx hvy)
  have HLx := Lib.hid hI.len
  clear hp hcs hI hI'
  go_wp2_with (go_at_call 23; refine (lin_pair _ _ _ _ xs _ _ _ _ ys _ h1 h2).mono ?_; rintro e w' ⟨rfl, hb⟩; rw [HP.out]; replace B1 := B1.step hb; replace BI := BI.step hb; replace B2 := B2.step hb; replace B4 := B4.step hb; have c10 := B1.c0; have c11 := B1.c1; have ci := BI.c; have c20 := B2.c0; have c21 := B2.c1; replace hx := (hb.cell (p := ⟨b, off + i, none⟩) (by simp; omega)).trans hx; have HA := Lib.hid (fun j (hj : j < n) => (below_step hB hb).cell (p := ⟨b, off + j, none⟩) hbl |>.trans (HC.out j hj)); replace hB := below_step hB hb; replace h1 := h1.step hb; replace h2 := h2.step hb)
  have hlt := B4.lt
  have hbl' : b < w'.heap.size := by omega
  have hl0 : w.heap.size < w'.heap.size := by omega
  have hl1 : w.heap.size + 1 < w'.heap.size := by omega
  have hl2 : w.heap.size + 1 + 1 < w'.heap.size := by omega
  go_cut [9] from 12 (fun v W => ∃ Br g cap, v = .pointer (some ⟨Br, 0, none⟩) ∧ w.heap.size + 4 ≤ Br ∧ w.heap.size + 4 ≤ g ∧ Br ≠ g ∧ LBox W Br (some ⟨g, 0, none⟩) n cap (K + xs[i]?.getD 0 * L) ∧ OwnRow W g n xs ∧ LBox W w.heap.size (some ⟨b, off, none⟩) n c K ∧ IBox W (w.heap.size + 1) i ∧ LBox W (w.heap.size + 1 + 1) A' n c' L ∧ LBox W (w.heap.size + 1 + 1 + 1) none 0 0 0 ∧ Below w.heap.size w W)
  case first =>
    have HK := Lib.hid (show IntKind.i64.wrap (K + IntKind.i64.wrap (xs[i]?.getD 0 * L)) = K + xs[i]?.getD 0 * L by
      have hm := HM.out
      rw [IntWalk.i64_in (xs[i]?.getD 0 * L) (by omega)]; exact IntWalk.i64_in _ (by omega))
    have n0 : w'.heap.size ≠ w.heap.size := by omega
    have n1 : w'.heap.size ≠ w.heap.size + 1 := by omega
    have n2 : w'.heap.size ≠ w.heap.size + 1 + 1 := by omega
    have n3 : w'.heap.size ≠ b := by omega
    have C1 := Lib.hid (clone_in b off n c xs w'.drew (by omega) hsm h1.len (fun j hj => HA.out j hj) hbl')
    have C2 := Lib.hid (clone_in b off n c xs (w'.alloc (.cells #[.slice none 0 0, .int .i64 0] 24)).drew (by omega) hsm h1.len (fun j hj => (((below_alloc w' _).cell (p := ⟨b, off + j, none⟩) hbl').trans (HA.out j hj))) (show b < (w'.alloc _).heap.size by simp; omega))
    go_region_held3 (fun W => W.cell? ⟨w.heap.size, 0, none⟩ = some (.slice (some ⟨b, off, none⟩) n c) ∧ W.cell? ⟨w.heap.size, 1, none⟩ = some (.int .i64 K) ∧ W.cell? ⟨w.heap.size + 1, 0, none⟩ = some (.int .i64 i) ∧ W.cell? ⟨w.heap.size + 1 + 1, 1, none⟩ = some (.int .i64 L) ∧ W.cell? ⟨b, off + i, none⟩ = some (.int .i64 (xs[i]?.getD 0))) (go_keep)
      (first
        | (go_at_call 24; refine C1.out.mono ?_; rintro e w2 ⟨g, cap, rfl, hg, hrow, hb2⟩; have k1 := (hb2.cell (p := ⟨w.heap.size, 0, none⟩) hl0).trans c10; have k2 := (hb2.cell (p := ⟨w.heap.size, 1, none⟩) hl0).trans c11; have k3 := (hb2.cell (p := ⟨w.heap.size + 1, 0, none⟩) hl1).trans ci; have k4 := (hb2.cell (p := ⟨w.heap.size + 1 + 1, 1, none⟩) hl2).trans c21; have k5 := (hb2.cell (p := ⟨b, off + i, none⟩) hbl').trans hx)
        | (go_at_call 24; refine C2.out.mono ?_; rintro e w2 ⟨g, cap, rfl, hg, hrow, hb2⟩; have hB2 := ((below_alloc w' (.cells #[.slice none 0 0, .int .i64 0] 24)).drew).trans (hb2.mono (show w'.heap.size ≤ (w'.alloc _).heap.size by simp)); have k1 := (hB2.cell (p := ⟨w.heap.size, 0, none⟩) hl0).trans c10; have k2 := (hB2.cell (p := ⟨w.heap.size, 1, none⟩) hl0).trans c11; have k3 := (hB2.cell (p := ⟨w.heap.size + 1, 0, none⟩) hl1).trans ci; have k4 := (hB2.cell (p := ⟨w.heap.size + 1 + 1, 1, none⟩) hl2).trans c21; have k5 := (hB2.cell (p := ⟨b, off + i, none⟩) hbl').trans hx; have BR := (show LBox (w'.alloc (.cells #[.slice none 0 0, .int .i64 0] 24)).drew w'.heap.size none 0 0 0 from LBox.new w' none 0 0 0).step hb2; have r0 := BR.c0; have r1 := BR.c1; have r2 := BR.f 0; have r3 := BR.f 1))
    · have hg' : w'.heap.size ≤ g := hg
      have hb3 : Below w'.heap.size w' w2 := ((Below.refl _ w').drew).trans hb2
      have hz2 := hb3.size
      have hgl := hrow.lt
      have hf1 := LBox.new w2 (some ⟨g, 0, none⟩) n cap (IntKind.i64.wrap (K + IntKind.i64.wrap (xs[i]?.getD 0 * L)))
      rw [HK.out] at hf1 ⊢
      have hW := below_step hb3 (below_alloc w2 (.cells #[.slice (some ⟨g, 0, none⟩) n cap, .int .i64 (K + xs[i]?.getD 0 * L)] 24))
      have hf2 := hrow.step (below_alloc w2 (.cells #[.slice (some ⟨g, 0, none⟩) n cap, .int .i64 (K + xs[i]?.getD 0 * L)] 24))
      clear k1 k2 k3 k4 k5 n0 n1 n2 n3 c10 c11 ci c20 c21 hx
      go_wp2
      go_meet
      case rel => exact ⟨w2.heap.size, g, cap, rfl, by omega, by omega, by omega, hf1, hf2, B1.step hW, BI.step hW, B2.step hW, B4.step hW, below_step hB hW⟩
    · have hg' : w'.heap.size + 1 ≤ g := by have h : (w'.alloc _).heap.size ≤ g := hg; simpa using h
      have hf1 := BR.store (some ⟨g, 0, none⟩) n cap (IntKind.i64.wrap (K + IntKind.i64.wrap (xs[i]?.getD 0 * L)))
      rw [HK.out] at hf1 ⊢
      have hf2 := (hrow.other (a := ⟨w'.heap.size, 0, none⟩) (show g ≠ w'.heap.size by omega) (.slice (some ⟨g, 0, none⟩) n cap)).other (a := ⟨w'.heap.size, 1, none⟩) (show g ≠ w'.heap.size by omega) (.int .i64 (K + xs[i]?.getD 0 * L))
      have hW := below_store2 (w0 := w') hB2 (Nat.le_refl _) (.slice (some ⟨g, 0, none⟩) n cap) (.int .i64 (K + xs[i]?.getD 0 * L))
      clear k1 k2 k3 k4 k5 n0 n1 n2 n3 c10 c11 ci c20 c21 hx r0 r1 r2 r3
      go_wp2
      go_meet
      case rel => exact ⟨w'.heap.size, g, cap, rfl, by omega, by omega, by omega, hf1, hf2, B1.step hW, BI.step hW, B2.step hW, B4.step hW, below_step hB hW⟩
  case rest =>
    obtain ⟨Br, g, cap, rfl, hBr, hg, hne, R9, hrow, B1, BI, B2, B4, hB⟩ := hcut
    have hgl := hrow.lt
    have hBl := R9.lt
    have hlen := hrow.len
    have c90 := R9.c0
    have ci := BI.c
    have crow := hrow.cell hi
    have frow := hrow.free i
    have c20 := B2.c0
    have c21 := B2.c1
    have m1 : g ≠ w.heap.size + 1 + 1 := by omega
    have HL := Lib.hid hlen
    clear hlen h1 h2 HA hlt hbl' hl0 hl1 hl2 hx
    go_wp2_with (go_at_call 25; refine (callsIn_wide.1 (terms_in Fence.wide 5 trivial hro _ _ _ _ _)).mono ?_; rintro e w' ⟨rfl, rfl⟩)
    have hB1 : Below w.heap.size w (wc.setCell ⟨g, i, none⟩ (.int .i64 0)) := hB.setCell (p := ⟨g, i, none⟩) (by show w.heap.size ≤ g; omega) _
    have hB2 := hB1.alloc (by simp; omega) (.cells #[.slice A' n c', .int .i64 L] 24)
    have S9 := (R9.other (a := ⟨g, i, none⟩) hne (.int .i64 0)).alloc (.cells #[.slice A' n c', .int .i64 L] 24)
    have S1 := (B1.other (a := ⟨g, i, none⟩) (show w.heap.size ≠ g by omega) (.int .i64 0)).alloc (.cells #[.slice A' n c', .int .i64 L] 24)
    have SI := (BI.other (a := ⟨g, i, none⟩) (show w.heap.size + 1 ≠ g by omega) (.int .i64 0)).alloc (.cells #[.slice A' n c', .int .i64 L] 24)
    have S4 := (B4.other (a := ⟨g, i, none⟩) (show w.heap.size + 1 + 1 + 1 ≠ g by omega) (.int .i64 0)).alloc (.cells #[.slice A' n c', .int .i64 L] 24)
    have Srow := (hrow.set hi 0).step (below_alloc _ (.cells #[.slice A' n c', .int .i64 L] 24))
    have hsz : (wc.setCell ⟨g, i, none⟩ (.int .i64 0)).heap.size = wc.heap.size := by simp
    have ST := LBox.new (wc.setCell ⟨g, i, none⟩ (.int .i64 0)) A' n c' L
    rw [hsz] at ST
    refine (wpIn_wide (n := 5)).1 ?_
    apply wpIn_rangeFunc_ownG (n := 5) hro (by omega) (gf := 42) (lb := #[.pointer (some ⟨wc.heap.size, 0, none⟩)]) rfl trivial (enters_of Try.func42 (by kernel_rfl) rfl)
      (terms_stops Fence.wide (5 - 1) trivial hro (by omega) wc.heap.size w.heap.size A' n c' L ys _ (by simp) (by simp; omega) ST.c0 (Ints.below HI'.out hB2 (Nat.le_refl _))) belowK_t (belowK_b (by simp; omega)) (Below.refl _ _) (fun _ => rfl)
      (fun pre W => (OwnRow W g n (pre.foldl (putStep xs i n ys) (xs.set i 0)) ∧ LBox W Br (some ⟨g, 0, none⟩) n cap (K + xs[i]?.getD 0 * L) ∧ LBox W w.heap.size (some ⟨b, off, none⟩) n c K ∧ IBox W (w.heap.size + 1) i ∧ LBox W (w.heap.size + 1 + 1 + 1) none 0 0 0) ∧ Below w.heap.size w W)
      (fun _ _ _ => False)
      (OwnFrom.and (Own.from (fun s A B row hs hg hr => ⟨hs.1.kept hg hr, block_kept hs.2.1 hg hr, block_kept hs.2.2.1 hg hr, block_kept hs.2.2.2.1 hg hr, block_kept hs.2.2.2.2 hg hr⟩) _) (ownFrom_below (Nat.le_refl _) (by simp; omega)))
      (fun _ _ _ _ _ hs _ _ => hs)
      ⟨⟨Srow, S9, S1, SI, S4⟩, hB2⟩ _ ?assign ?body ?done ?stop
    case assign =>
      intro l x W K' hK
      dsimp only [nzEnc]
      gi_wp2
      exact hK
    case body =>
      rintro l pre x W ⟨⟨r1, r2, r3, r4, r5⟩, hBW⟩ hlen
      have e90 := r2.c0
      have e10 := r3.c0
      have ei := r4.c
      have exi := (hBW.cell (p := ⟨b, off + i, none⟩) hbl).trans (HC.out i hi)
      have erow := r1.cell (j := x.1) x.2.1
      have efr := r1.free x.1
      have hx1 : (x.1 : Int) < n := by have := x.2.1; omega
      have hi1 : (i : Int) < n := by omega
      refine wpIn_mono (Q := fun e a' W' => e = .normal ∧ W' = W.drew.setCell ⟨g, x.1, none⟩ (.int .i64 (IntKind.i64.wrap ((pre.foldl (putStep xs i n ys) (xs.set i 0))[x.1]?.getD 0 + IntKind.i64.wrap (xs[i]?.getD 0 * ys[x.1]?.getD 0))))) ?_ ?_
      · generalize (pre.foldl (putStep xs i n ys) (xs.set i 0))[x.1]?.getD 0 = rv at erow ⊢
        generalize xs[i]?.getD 0 = xv at exi ⊢
        generalize ys[x.1]?.getD 0 = yv
        generalize x.1 = xi at hx1 erow efr ⊢
        clear r1 r2 r3 r4 r5 hBW hlen Srow S9 S1 SI S4 ST hB1 hB2 hsz c90 ci crow frow c20 c21 m1 HL hgl hBl B1 BI B2 B4 R9 hrow hB HP HC HM HI' HLx hb hvx hvy hsm
        gi_wp2
        have hS : (fun W' : World => W'.cell? ⟨Br, 0, none⟩ = some (.slice (some ⟨g, 0, none⟩) n cap) ∧ W'.cell? ⟨w.heap.size, 0, none⟩ = some (.slice (some ⟨b, off, none⟩) n c) ∧ W'.cell? ⟨w.heap.size + 1, 0, none⟩ = some (.int .i64 i) ∧ W'.cell? ⟨b, off + i, none⟩ = some (.int .i64 xv)) W.drew := ⟨e90, e10, ei, exi⟩
        refine region_round (S := fun W' : World => W'.cell? ⟨Br, 0, none⟩ = some (.slice (some ⟨g, 0, none⟩) n cap) ∧ W'.cell? ⟨w.heap.size, 0, none⟩ = some (.slice (some ⟨b, off, none⟩) n c) ∧ W'.cell? ⟨w.heap.size + 1, 0, none⟩ = some (.int .i64 i) ∧ W'.cell? ⟨b, off + i, none⟩ = some (.int .i64 xv)) (by kernel_rfl) (by kernel_rfl) (by rintro ⟨_, _, h, _⟩; cases h) ?_
        refine wpAnyH_take (i := 0) (v := .pointer (some ⟨Br, 0, none⟩)) rfl (by kernel_rfl) (by kernel_rfl) (by kernel_rfl) (fun _ _ _ h => h) (Or.inl ⟨by rfl, ?_⟩) hS ?_
        · rintro W' ⟨s0, s1, s2, s3⟩
          go_simp
        simp only [Act.put, List.setIfInBounds_toArray, List.set_cons_zero, List.set_cons_succ]
        refine wpAnyH_take (i := 1) (v := .slice (some ⟨g, 0, none⟩) n cap) rfl (by kernel_rfl) (by kernel_rfl) (by kernel_rfl) (fun _ _ _ h => h) (Or.inl ⟨by rfl, ?_⟩) hS ?_
        · rintro W' ⟨s0, s1, s2, s3⟩
          go_simp
        simp only [Act.put, List.setIfInBounds_toArray, List.set_cons_zero, List.set_cons_succ]
        refine wpAnyH_take (i := 2) (v := .int .i64 (xi : Int)) rfl (by kernel_rfl) (by kernel_rfl) (by kernel_rfl) (fun _ _ _ h => h) (Or.inl ⟨by rfl, ?_⟩) hS ?_
        · rintro W' ⟨s0, s1, s2, s3⟩
          go_simp
        simp only [Act.put, List.setIfInBounds_toArray, List.set_cons_zero, List.set_cons_succ]
        refine wpAnyH_take (i := 3) (v := .pointer (some ⟨g, xi, none⟩)) rfl (by kernel_rfl) (by kernel_rfl) (by kernel_rfl) (fun _ _ _ h => h) (Or.inl ⟨by rfl, ?_⟩) hS ?_
        · rintro W' ⟨s0, s1, s2, s3⟩
          go_simp
        simp only [Act.put, List.setIfInBounds_toArray, List.set_cons_zero, List.set_cons_succ]
        refine wpAnyH_take (i := 5) (v := .pointer (some ⟨w.heap.size, 0, none⟩)) rfl (by kernel_rfl) (by kernel_rfl) (by kernel_rfl) (fun _ _ _ h => h) (Or.inl ⟨by rfl, ?_⟩) hS ?_
        · rintro W' ⟨s0, s1, s2, s3⟩
          go_simp
        simp only [Act.put, List.setIfInBounds_toArray, List.set_cons_zero, List.set_cons_succ]
        refine wpAnyH_take (i := 6) (v := .slice (some ⟨b, off, none⟩) n c) rfl (by kernel_rfl) (by kernel_rfl) (by kernel_rfl) (fun _ _ _ h => h) (Or.inl ⟨by rfl, ?_⟩) hS ?_
        · rintro W' ⟨s0, s1, s2, s3⟩
          go_simp
        simp only [Act.put, List.setIfInBounds_toArray, List.set_cons_zero, List.set_cons_succ]
        refine wpAnyH_take (i := 7) (v := .int .i64 (i : Int)) rfl (by kernel_rfl) (by kernel_rfl) (by kernel_rfl) (fun _ _ _ h => h) (Or.inl ⟨by rfl, ?_⟩) hS ?_
        · rintro W' ⟨s0, s1, s2, s3⟩
          go_simp
        simp only [Act.put, List.setIfInBounds_toArray, List.set_cons_zero, List.set_cons_succ]
        refine wpAnyH_take (i := 8) (v := .pointer (some ⟨b, off + i, none⟩)) rfl (by kernel_rfl) (by kernel_rfl) (by kernel_rfl) (fun _ _ _ h => h) (Or.inl ⟨by rfl, ?_⟩) hS ?_
        · rintro W' ⟨s0, s1, s2, s3⟩
          go_simp
        simp only [Act.put, List.setIfInBounds_toArray, List.set_cons_zero, List.set_cons_succ]
        refine wpAnyH_take (i := 9) (v := .int .i64 xv) rfl (by kernel_rfl) (by kernel_rfl) (by kernel_rfl) (fun _ _ _ h => h) (Or.inl ⟨by rfl, ?_⟩) hS ?_
        · rintro W' ⟨s0, s1, s2, s3⟩
          go_simp
        simp only [Act.put, List.setIfInBounds_toArray, List.set_cons_zero, List.set_cons_succ]
        refine wpAnyH_take (i := 10) (v := .int .i64 yv) rfl (by kernel_rfl) (by kernel_rfl) (by kernel_rfl) (fun _ _ _ h => h) (Or.inl ⟨by rfl, ?_⟩) hS ?_
        · rintro W' ⟨s0, s1, s2, s3⟩
          go_simp
        simp only [Act.put, List.setIfInBounds_toArray, List.set_cons_zero, List.set_cons_succ]
        refine wpAnyH_take (i := 11) (v := .int .i64 (IntKind.i64.wrap (xv * yv))) rfl (by kernel_rfl) (by kernel_rfl) (by kernel_rfl) (fun _ _ _ h => h) (Or.inl ⟨by rfl, ?_⟩) hS ?_
        · rintro W' ⟨s0, s1, s2, s3⟩
          go_simp
        simp only [Act.put, List.setIfInBounds_toArray, List.set_cons_zero, List.set_cons_succ]
        refine wpAnyH_ready (rs := [4]) (by kernel_rfl) (by simp) (AllReadyH.cons rfl (fun K' hK' => ?_) AllReadyH.nil)
        go_simp
        refine hK'.out _ _ hS (fun _ => ?_)
        clear hK'
        refine wpAnyH_take (i := 12) (v := .int .i64 (IntKind.i64.wrap (rv + IntKind.i64.wrap (xv * yv)))) rfl (by kernel_rfl) (by kernel_rfl) (by kernel_rfl) (fun _ _ _ h => h) (Or.inl ⟨by rfl, ?_⟩) hS ?_
        · rintro W' ⟨s0, s1, s2, s3⟩
          go_simp
        simp only [Act.put, List.setIfInBounds_toArray, List.set_cons_zero, List.set_cons_succ]
        refine wpAnyH_take (i := 13) (v := .pointer (some ⟨g, xi, none⟩)) rfl (by kernel_rfl) (by kernel_rfl) (by kernel_rfl) (fun _ _ _ h => h) (Or.inl ⟨by rfl, ?_⟩) hS ?_
        · rintro W' ⟨s0, s1, s2, s3⟩
          go_simp
        simp only [Act.put, List.setIfInBounds_toArray, List.set_cons_zero, List.set_cons_succ]
        refine wpAnyH_ready (rs := [14]) (by kernel_rfl) (by simp) (AllReadyH.cons rfl (fun K' hK' => ?_) AllReadyH.nil)
        go_simp
        refine hK'.out _ _ ⟨(World.cell?_setCell_far W ⟨g, xi, none⟩ ⟨Br, 0, none⟩ _ (Ne.symm hne)).trans e90, (World.cell?_setCell_far W ⟨g, xi, none⟩ ⟨w.heap.size, 0, none⟩ _ (show g ≠ w.heap.size by omega)).trans e10, (World.cell?_setCell_far W ⟨g, xi, none⟩ ⟨w.heap.size + 1, 0, none⟩ _ (show g ≠ w.heap.size + 1 by omega)).trans ei, (World.cell?_setCell_far W ⟨g, xi, none⟩ ⟨b, off + i, none⟩ _ (show g ≠ b by omega)).trans exi⟩ (fun _ => wpAnyH_done (by kernel_rfl) ⟨rfl, rfl⟩ _)
      · rintro e a' W' ⟨rfl, rfl⟩
        refine ⟨((KeepsOthers.drew W).trans (KeepsOthers.setCell W.drew _ _)).from _, ((Below.refl w.heap.size W).drew).setCell (p := ⟨g, x.1, none⟩) (show w.heap.size ≤ g by omega) _, ⟨?_, ?_, ?_, ?_, ?_⟩, (hBW.drew).setCell (p := ⟨g, x.1, none⟩) (show w.heap.size ≤ g by omega) _⟩
        · rw [List.foldl_append]
          exact (show OwnRow W.drew g n _ from r1).set x.2.1 _
        · exact (show LBox W.drew Br (some ⟨g, 0, none⟩) n cap (K + xs[i]?.getD 0 * L) from r2).other (a := ⟨g, x.1, none⟩) hne _
        · exact (show LBox W.drew w.heap.size (some ⟨b, off, none⟩) n c K from r3).other (a := ⟨g, x.1, none⟩) (show w.heap.size ≠ g by omega) _
        · exact (show IBox W.drew (w.heap.size + 1) i from r4).other (a := ⟨g, x.1, none⟩) (show w.heap.size + 1 ≠ g by omega) _
        · exact (show LBox W.drew (w.heap.size + 1 + 1 + 1) none 0 0 0 from r5).other (a := ⟨g, x.1, none⟩) (show w.heap.size + 1 + 1 + 1 ≠ g by omega) _
    case done =>
      rintro D pre W hD rfl ⟨⟨r1, r2, r3, r4, r5⟩, hBW⟩ hK'
      rw [PF.out] at r1
      have hi1 := r1.ints hsm HW.out
      have e90 := r2.c0
      have e91 := r2.c1
      have hDl : D < W.heap.size := (Array.getElem?_eq_some_iff.1 hK').1
      cases hv : validB (putL n xs i ys) (K + xs[i]?.getD 0 * L)
      · gi_wp2
        go_wp2_with (go_at_call 26; refine (lin_fit_bad _ _ _ _ _ _ hi1 hv).mono ?_; rintro e w3 ⟨rfl, hb3⟩; have B5 := r5.step hb3; have c20 := B5.c0; have c21 := B5.c1; have f20 := B5.f 0; have f21 := B5.f 1; have B6 := B5.store none 0 0 0; have c30 := B5.s0 (.slice none 0 0); have c31 := B6.c1; have hD3 := (hb3.block D hDl).trans hK'; have hB3 := below_store2 (below_step hBW hb3) (b := w.heap.size + 1 + 1 + 1) (by omega) (.slice none 0 0) (.int .i64 0))
        have hD4 := ((KeepsOthers.setCell w3 ⟨w.heap.size + 1 + 1 + 1, 0, none⟩ (.slice none 0 0)).trans (KeepsOthers.setCell _ ⟨w.heap.size + 1 + 1 + 1, 1, none⟩ (.int .i64 0))).same D _ hD3 rfl
        refine ⟨by simp, .inl ⟨_, _, rfl, run_takeDeferred hD4, ?_⟩⟩
        have B7 : LBox _ (w.heap.size + 1 + 1 + 1) none 0 0 0 := block_kept B6 (grownBy_putObj' _ D (.deferred none)) (fun r e => by cases e; exact ⟨_, hD4, rfl⟩)
        have c70 := B7.c0
        have c71 := B7.c1
        refine ⟨.tuple #[.agg #[.slice none 0 0, .int .i64 0], .int .i64 3], ?_, ?_⟩
        · simp [results, Try.f7, go_sem, c70, c71]
        · rw [putXs_bad hv, putK_bad hv, putE_bad hv]
          exact ⟨_, _, _, rfl, ints_nil _ _, hB3.trans (belowK_b (w := w) (Nat.le_refl _) _ D _ _ (by simp at hD; omega) hD4 rfl rfl), .inl rfl⟩
      · gi_wp2
        go_wp2_with (go_at_call 26; refine (lin_fit_ok _ _ _ _ _ _ hi1 hv).mono ?_; rintro e w3 ⟨rfl, hb3⟩; have B5 := r5.step hb3; have c20 := B5.c0; have c21 := B5.c1; have f20 := B5.f 0; have f21 := B5.f 1; have B6 := B5.store (some ⟨g, 0, none⟩) n cap (K + xs[i]?.getD 0 * L); have c30 := B5.s0 (.slice (some ⟨g, 0, none⟩) n cap); have c31 := B6.c1; have hD3 := (hb3.block D hDl).trans hK'; have hB3 := below_store2 (below_step hBW hb3) (b := w.heap.size + 1 + 1 + 1) (by omega) (.slice (some ⟨g, 0, none⟩) n cap) (.int .i64 (K + xs[i]?.getD 0 * L)))
        have hD4 := ((KeepsOthers.setCell w3 ⟨w.heap.size + 1 + 1 + 1, 0, none⟩ (.slice (some ⟨g, 0, none⟩) n cap)).trans (KeepsOthers.setCell _ ⟨w.heap.size + 1 + 1 + 1, 1, none⟩ (.int .i64 (K + xs[i]?.getD 0 * L)))).same D _ hD3 rfl
        refine ⟨by simp, .inl ⟨_, _, rfl, run_takeDeferred hD4, ?_⟩⟩
        have B7 : LBox _ (w.heap.size + 1 + 1 + 1) (some ⟨g, 0, none⟩) n cap (K + xs[i]?.getD 0 * L) := block_kept B6 (grownBy_putObj' _ D (.deferred none)) (fun r e => by cases e; exact ⟨_, hD4, rfl⟩)
        have c70 := B7.c0
        have c71 := B7.c1
        have r8 := (((r1.step hb3).other (a := ⟨w.heap.size + 1 + 1 + 1, 0, none⟩) (show g ≠ w.heap.size + 1 + 1 + 1 by omega) (.slice (some ⟨g, 0, none⟩) n cap)).other (a := ⟨w.heap.size + 1 + 1 + 1, 1, none⟩) (show g ≠ w.heap.size + 1 + 1 + 1 by omega) (.int .i64 (K + xs[i]?.getD 0 * L))).kept (grownBy_putObj' _ D (.deferred none)) (fun r e => by cases e; exact ⟨_, hD4, rfl⟩)
        refine ⟨.tuple #[.agg #[.slice (some ⟨g, 0, none⟩) n cap, .int .i64 (K + xs[i]?.getD 0 * L)], .int .i64 0], ?_, ?_⟩
        · simp [results, Try.f7, go_sem, c70, c71]
        · rw [putXs_ok hv, putK_ok hv, putE_ok hv]
          exact ⟨_, _, _, rfl, r8.ints hsm HW.out, hB3.trans (belowK_b (w := w) (Nat.le_refl _) _ D _ _ (by simp at hD; omega) hD4 rfl rfl), .inr ⟨g, rfl, by omega, r8⟩⟩
    case stop =>
      rintro D cd pre W hD _ h
      exact h.elim
end Go.Proofs.Ytdcapokamdmneab
