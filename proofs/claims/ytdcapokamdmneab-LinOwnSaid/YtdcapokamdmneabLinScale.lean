/-
  Scale of package lin.
-/
import Derived.Test.YtdcapokamdmneabProg
import Derived.Test.YtdcapokamdmneabLinKit
import Derived.Test.YtdcapokamdmneabLinTerms
import Derived.Test.YtdcapokamdmneabLinAt
import Derived.Test.YtdcapokamdmneabLinPut
import Derived.Test.YtdcapokamdmneabLinMix
import Derived.Test.YtdcapokamdmneabLinMake
import Derived.Test.YtdcapokamdmneabLinSum
import Derived.Test.YtdcapokamdmneabLinScaleRef
namespace Go.Proofs.Ytdcapokamdmneab
open Go.RowKit Go.Shelf
set_option linter.unusedVariables false
set_option linter.unusedSimpArgs false

attribute [local go_sem] Oper.semAt_some

theorem LBox.set1 {w : World} {b : Nat} {A : Option Addr} {n c : Nat} {K : Int} (h : LBox w b A n c K) (K' : Int) : LBox (w.setCell ⟨b, 1, none⟩ (.int .i64 K')) b A n c K' := by
  unfold LBox at h ⊢
  simp only [World.setCell]
  rw [Array.getElem?_modify, if_pos rfl, h]
  rfl

/-- Block b is a variable that holds a bool. -/
def BBox (w : World) (b : Nat) (v : Bool) : Prop := w.heap[b]? = some (.cells #[.bool v] 4 (0, 0))
section
variable {w w' : World} {b : Nat} {v : Bool}
theorem BBox.new (w : World) (v : Bool) : BBox (w.alloc (.cells #[.bool v] 4)) w.heap.size v := heap_alloc_new w _
theorem BBox.lt (h : BBox w b v) : b < w.heap.size := (Array.getElem?_eq_some_iff.1 h).1
theorem BBox.step (h : BBox w b v) (hb : Below w.heap.size w w') : BBox w' b v := (hb.block b h.lt).trans h
theorem BBox.c (h : BBox w b v) : w.cell? ⟨b, 0, none⟩ = some (.bool v) := by rw [cell_of_row w b 0 _ _ (0, 0) h]; rfl
theorem BBox.f (h : BBox w b v) : w.frozen? ⟨b, 0, none⟩ = false := by unfold BBox at h; simp [World.frozen?, h]
theorem BBox.set (h : BBox w b v) (u : Bool) : BBox (w.setCell ⟨b, 0, none⟩ (.bool u)) b u := one_setCell h
end

theorem nzl_empty {n : Nat} {xs : List Int} (hn : xs.length = n) : nzl n xs n = [] ↔ xs = zeros n := by
  constructor
  · intro h
    apply List.ext_getElem (by simp [zeros, hn])
    intro j h1 h2
    by_cases hz : xs[j]?.getD 0 = 0
    · simpa [zeros, h1] using hz
    · have := nzl_mem (n := n) (xs := xs) (k := n) ⟨j, by omega, hz⟩ (by show j < n; omega)
      rw [h] at this
      cases this
  · rintro rfl
    have : ∀ k, nzl n (zeros n) k = [] := fun k => by
      induction k with
      | zero => rfl
      | succ k ih =>
        have hz : (zeros n)[k]?.getD 0 = 0 := by by_cases h : k < n <;> simp [zeros, h]
        rw [nzl_miss hz, ih]
    exact this n

theorem zB_eq {n : Nat} {xs : List Int} (K : Int) (hn : xs.length = n) : zB xs K = (decide (K = 0) && (nzl n xs n).isEmpty) := by
  have h := nzl_empty hn
  have h2 : (nzl n xs n).isEmpty = decide (xs = zeros n) := by
    by_cases e : nzl n xs n = []
    · rw [decide_eq_true (h.1 e), e]; rfl
    · rw [decide_eq_false (fun e' => e (h.2 e'))]; simpa using e
  unfold zB sameB
  rw [h2, hn, Bool.decide_and, Bool.and_comm]

def scStep (k : Int) (n : Nat) (xs : List Int) (r : List Int) (x : NzAt n xs) : List Int := r.set x.1 (wrap64 (k * xs[x.1]?.getD 0))
theorem sc_fold {n : Nat} {xs : List Int} {k : Int} (hx : Tame xs) (hk : -1048576 ≤ k ∧ k ≤ 1048576) : ∀ m, m ≤ n →
    (nzl n xs m).foldl (scStep k n xs) (zeros n) = (List.range n).map fun j => if j < m then k * xs[j]?.getD 0 else 0
  | 0, _ => by
    rw [nzl, List.foldl_nil]
    apply List.ext_getElem (by simp [zeros])
    intro j h1 h2
    simp [zeros]
  | m + 1, hm => by
    have ih := sc_fold (n := n) hx hk m (by omega)
    by_cases hz : xs[m]?.getD 0 = 0
    · rw [nzl_miss hz, ih]
      apply List.map_congr_left
      intro j _
      by_cases e : j = m
      · subst e; simp [hz]
      · have : (j < m + 1) ↔ (j < m) := by omega
        simp [this]
    · rw [nzl_hit ⟨by omega, hz⟩, List.foldl_append, ih, List.foldl_cons, List.foldl_nil]
      unfold scStep
      have hb := mul_bd hk (hx m)
      rw [tab_set]
      apply List.map_congr_left
      intro j _
      by_cases e : j = m
      · subst e
        simp only [if_pos, show j < j + 1 by omega]
        exact IntWalk.wrap64_in _ (by omega)
      · rw [if_neg e]
        have : (j < m + 1) ↔ (j < m) := by omega
        simp [this]
theorem sc_all {n : Nat} {xs : List Int} {k : Int} (hx : Tame xs) (hk : -1048576 ≤ k ∧ k ≤ 1048576) : (nzl n xs n).foldl (scStep k n xs) (zeros n) = scL n k xs := by
  rw [sc_fold hx hk n (Nat.le_refl _)]
  unfold scL mixL
  apply List.map_congr_left
  intro j hj
  rw [if_pos (List.mem_range.1 hj)]
  omega

set_option maxRecDepth 100000 in
set_option maxHeartbeats 4000000 in
theorem lin_scale (A : Option Addr) (n c : Nat) (K : Int) (xs : List Int) (k : Int) (w : World) (hI : IntsAt w A n xs) :
    Calls Try.prog 22 #[.agg #[.slice A n c, .int .i64 K], .int .i64 k] w fun e w' => RetO w e w' (kX xs K k) (kK xs K k) (kE xs K k) := by
  have hro : Fence.wide.round = none := rfl
  have hsm := hI.small
  have hlen := hI.len
  have hmk := make_ints n hsm
  have B1 := ((LBox.new w A n c K).alloc (.cells #[.int .i64 k] 3)).alloc (.cells #[.slice none 0 0, .int .i64 0] 24)
  have BI := (IBox.new (w.alloc (.cells #[.slice A n c, .int .i64 K] 24)) k).alloc (.cells #[.slice none 0 0, .int .i64 0] 24)
  have B2 := LBox.new ((w.alloc (.cells #[.slice A n c, .int .i64 K] 24)).alloc (.cells #[.int .i64 k] 3)) none 0 0 0
  have hB := below_step (below_step (below_alloc w (.cells #[.slice A n c, .int .i64 K] 24)) (below_alloc _ (.cells #[.int .i64 k] 3))) (below_alloc _ (.cells #[.slice none 0 0, .int .i64 0] 24))
  have h1 := hI.step hB
  simp only [World.size_alloc] at B2 BI
  have HI := Lib.hid hI
  clear hI
  refine (callsIn_wide (n := 5)).1 ?_
  refine callsIn_of_wp_marks Try.func22 rfl trivial ?_ hro
  simp only [Try.ntmps22, List.size_toArray, List.length_cons, List.length_nil, Nat.reduceAdd, Nat.reduceSub, Array.replicate_succ, Array.replicate_zero, List.push_toArray, List.append_toArray, List.nil_append, List.cons_append]
  cases hv : validB xs K
  · have HE := Lib.hid (k_inv (k := k) hv)
    clear hlen hmk
    gi_wp2_with (refine ⟨trivial, ?_⟩; gi_at_call 30; refine (callsIn_wide.2 (lin_valid _ _ _ _ xs _ h1)).mono ?_; rintro e w1 ⟨rfl, hb⟩; replace B2 := B2.step hb; replace hB := below_step hB hb; have c20 := B2.c0; have c21 := B2.c1; have f20 := B2.f 0; have f21 := B2.f 1; have c40 := B2.s0 (.slice none 0 0); have c41 := (B2.store none 0 0 0).c1)
    refine ⟨.tuple #[.agg #[.slice none 0 0, .int .i64 0], .int .i64 1], ?_, ?_⟩
    · simp [results, Try.f22, go_sem, c40, c41]
    · rw [HE.out.2.1]
      exact ret_o HE.out.1 HE.out.2.2 (ints_nil _ _) (below_store2 hB (by omega) _ _) (.inl rfl)
  · have HV := Lib.hid hv
    have HZ := Lib.hid (zB_eq K hlen)
    have HLn := Lib.hid hlen
    clear hlen
    gi_wp2_with (first
      | (refine ⟨trivial, ?_⟩; gi_at_call 30; refine (callsIn_wide.2 (lin_valid _ _ _ _ xs _ h1)).mono ?_; rintro e w1 ⟨rfl, hb⟩; replace h1 := h1.step hb; replace B1 := B1.step hb; replace BI := BI.step hb; replace B2 := B2.step hb; replace hB := below_step hB hb; have c10 := B1.c0; have c11 := B1.c1; have l2 := B2.lt; have l1 := B1.lt; have l1a := Nat.lt_add_right 1 l1; have l1b := Nat.lt_add_right 1 l1a)
      | (refine ⟨trivial, ?_⟩; gi_at_call 25; refine (terms_in Fence.wide _ trivial hro _ _ _ _ _).mono ?_; rintro e w' ⟨rfl, rfl⟩))
    have z0 := OwnRow.new w1 (zeros n) n (zeros_len n)
    have z1 := LBox.new (w1.alloc (.cells ((zeros n).map (Value.int .i64)).toArray 3)) (some ⟨w1.heap.size, 0, none⟩) n n 0
    have z2 := BBox.new ((w1.alloc (.cells ((zeros n).map (Value.int .i64)).toArray 3)).alloc (.cells #[.slice (some ⟨w1.heap.size, 0, none⟩) n n, .int .i64 0] 24)) (K == 0)
    have z3 := LBox.new (((w1.alloc (.cells ((zeros n).map (Value.int .i64)).toArray 3)).alloc (.cells #[.slice (some ⟨w1.heap.size, 0, none⟩) n n, .int .i64 0] 24)).alloc (.cells #[.bool (K == 0)] 4)) A n c K
    have e4 := below_alloc (((w1.alloc (.cells ((zeros n).map (Value.int .i64)).toArray 3)).alloc (.cells #[.slice (some ⟨w1.heap.size, 0, none⟩) n n, .int .i64 0] 24)).alloc (.cells #[.bool (K == 0)] 4)) (.cells #[.slice A n c, .int .i64 K] 24)
    have e3 := below_step (below_alloc ((w1.alloc (.cells ((zeros n).map (Value.int .i64)).toArray 3)).alloc (.cells #[.slice (some ⟨w1.heap.size, 0, none⟩) n n, .int .i64 0] 24)) (.cells #[.bool (K == 0)] 4)) e4
    have e2 := below_step (below_alloc (w1.alloc (.cells ((zeros n).map (Value.int .i64)).toArray 3)) (.cells #[.slice (some ⟨w1.heap.size, 0, none⟩) n n, .int .i64 0] 24)) e3
    have e1 := below_step (below_alloc w1 (.cells ((zeros n).map (Value.int .i64)).toArray 3)) e2
    replace z0 := z0.step e2
    replace z1 := z1.step e3
    replace z2 := z2.step e4
    simp only [World.size_alloc] at z1 z2 z3
    replace B1 := B1.step e1
    replace BI := BI.step e1
    replace B2 := B2.step e1
    replace hB := below_step hB e1
    obtain ⟨Wa, hWa⟩ : ∃ Wa, (((w1.alloc (.cells ((zeros n).map (Value.int .i64)).toArray 3)).alloc (.cells #[.slice (some ⟨w1.heap.size, 0, none⟩) n n, .int .i64 0] 24)).alloc (.cells #[.bool (K == 0)] 4)).alloc (.cells #[.slice A n c, .int .i64 K] 24) = Wa := ⟨_, rfl⟩
    rw [hWa] at z0 z1 z2 z3 B1 BI B2 hB ⊢
    clear hWa e1 e2 e3 e4 c10 c11 h1 hmk
    have hsz := z3.lt
    have hz0 : BBox Wa (w1.heap.size + 1 + 1) (decide (K = 0) && ([] : List (NzAt n xs)).isEmpty) := by
      have e : (K == 0) = (decide (K = 0) && ([] : List (NzAt n xs)).isEmpty) := Bool.eq_iff_iff.2 (by simp)
      rw [← e]; exact z2
    apply wpIn_rangeFunc_ownG (n := 5) hro (by omega) (gf := 42) (lb := #[.pointer (some ⟨w1.heap.size + 1 + 1 + 1, 0, none⟩)]) rfl trivial (enters_of Try.func42 (by kernel_rfl) rfl)
      (terms_stops Fence.wide (5 - 1) trivial hro (by omega) (w1.heap.size + 1 + 1 + 1) w.heap.size A n c K xs Wa hsz (by omega) z3.c0 (Ints.below HI.out hB (Nat.le_refl _))) belowK_t (belowK_b (by omega)) (Below.refl _ _) (fun _ => rfl)
      (fun pre W => (BBox W (w1.heap.size + 1 + 1) (decide (K = 0) && pre.isEmpty) ∧ OwnRow W w1.heap.size n (zeros n) ∧ LBox W (w1.heap.size + 1) (some ⟨w1.heap.size, 0, none⟩) n n 0 ∧ LBox W w.heap.size A n c K ∧ IBox W (w.heap.size + 1) k ∧ LBox W (w.heap.size + 1 + 1) none 0 0 0) ∧ Below w.heap.size w W)
      (fun _ _ _ => False)
      (OwnFrom.and (Own.from (fun s A B row hs hg hr => ⟨block_kept hs.1 hg hr, hs.2.1.kept hg hr, block_kept hs.2.2.1 hg hr, block_kept hs.2.2.2.1 hg hr, block_kept hs.2.2.2.2.1 hg hr, block_kept hs.2.2.2.2.2 hg hr⟩) _) (ownFrom_below (Nat.le_refl _) (by omega)))
      (fun _ _ _ _ _ hs _ _ => hs)
      ⟨⟨hz0, z0, z1, B1, BI, B2⟩, hB⟩ _ ?assign ?body ?done ?stop
    case assign =>
      intro l x W K' hK
      dsimp only [nzEnc]
      gi_wp2
      exact hK
    case body =>
      rintro l pre x W ⟨⟨r7, r0, r6, r1, ri, r2⟩, hBW⟩ hlen
      have c7 := r7.c
      have f7 := r7.f
      clear z0 z1 z2 z3 hz0 B1 BI B2 hB
      gi_wp2
      refine ⟨(KeepsOthers.setCell _ _ _).from _, (Below.refl w.heap.size W).setCell (p := ⟨w1.heap.size + 1 + 1, 0, none⟩) (by show w.heap.size ≤ w1.heap.size + 1 + 1; omega) _, ⟨?_, r0.other (a := ⟨w1.heap.size + 1 + 1, 0, none⟩) (show w1.heap.size ≠ w1.heap.size + 1 + 1 by omega) _, r6.other (a := ⟨w1.heap.size + 1 + 1, 0, none⟩) (show w1.heap.size + 1 ≠ w1.heap.size + 1 + 1 by omega) _, r1.other (a := ⟨w1.heap.size + 1 + 1, 0, none⟩) (show w.heap.size ≠ w1.heap.size + 1 + 1 by omega) _, ri.other (a := ⟨w1.heap.size + 1 + 1, 0, none⟩) (show w.heap.size + 1 ≠ w1.heap.size + 1 + 1 by omega) _, r2.other (a := ⟨w1.heap.size + 1 + 1, 0, none⟩) (show w.heap.size + 1 + 1 ≠ w1.heap.size + 1 + 1 by omega) _⟩, hBW.setCell (p := ⟨w1.heap.size + 1 + 1, 0, none⟩) (by show w.heap.size ≤ w1.heap.size + 1 + 1; omega) _⟩
      have e : (decide (K = 0) && (pre ++ [x]).isEmpty) = false := by simp
      rw [e]
      exact r7.set false
    case stop =>
      rintro D cd pre W hD _ h
      exact h.elim
    case done =>
      rintro D pre W hD rfl ⟨⟨r7, r0, r6, r1, ri, r2⟩, hBW⟩ hK1
      rw [← HZ.out] at r7
      clear z0 z1 z2 z3 hz0 B1 BI B2 hB
      have hDl : D < W.heap.size := (Array.getElem?_eq_some_iff.1 hK1).1
      have c7 := r7.c
      have c60 := r6.c0
      have c61 := r6.c1
      have ci := ri.c
      have c20 := r2.c0
      have c21 := r2.c1
      have f20 := r2.f 0
      have f21 := r2.f 1
      cases hz : zB xs K
      · rw [hz] at c7
        cases hk : fitsB k
        · have HE := Lib.hid (k_fit hv hz hk)
          clear hz
          gi_wp2_with (refine ⟨trivial, ?_⟩; gi_at_call 41; refine (callsIn_wide.2 (num_fits _ _)).mono ?_; rintro e w' ⟨rfl, rfl⟩)
          have hD4 := ((KeepsOthers.setCell W ⟨w.heap.size + 1 + 1, 0, none⟩ (.slice none 0 0)).trans (KeepsOthers.setCell _ ⟨w.heap.size + 1 + 1, 1, none⟩ (.int .i64 0))).same D _ hK1 rfl
          refine ⟨by simp, .inl ⟨_, _, rfl, run_takeDeferred hD4, ?_⟩⟩
          have B7 : LBox _ (w.heap.size + 1 + 1) none 0 0 0 := block_kept (r2.store none 0 0 0) (grownBy_putObj' _ D (.deferred none)) (fun r e => by cases e; exact ⟨_, hD4, rfl⟩)
          have c70 := B7.c0
          have c71 := B7.c1
          refine ⟨.tuple #[.agg #[.slice none 0 0, .int .i64 0], .int .i64 3], ?_, ?_⟩
          · simp [results, Try.f22, go_sem, c70, c71]
          · rw [HE.out.2.1]
            exact ret_o HE.out.1 HE.out.2.2 (ints_nil _ _) ((below_store2 hBW (by omega) _ _).trans (belowK_b (w := w) (Nat.le_refl _) _ D _ _ (by omega) hD4 rfl rfl)) (.inl rfl)
        · have hkb := fitsB_true.1 hk
          have c10 := r1.c0
          have c11 := r1.c1
          gi_wp2_with (first
            | (refine ⟨trivial, ?_⟩; gi_at_call 41; refine (callsIn_wide.2 (num_fits _ _)).mono ?_; rintro e w' ⟨rfl, rfl⟩)
            | (refine ⟨trivial, ?_⟩; gi_at_call 25; refine (terms_in Fence.wide _ trivial hro _ _ _ _ _).mono ?_; rintro e w' ⟨rfl, rfl⟩))
          have e5 := below_alloc W (.cells #[.slice A n c, .int .i64 K] 24)
          have y3 := LBox.new W A n c K
          have y0 := r0.step e5
          have y6 := r6.step e5
          have y1 := r1.step e5
          have yi := ri.step e5
          have y2 := r2.step e5
          have yB := below_step hBW e5
          have yD := (Below.heap_alloc W (.cells #[.slice A n c, .int .i64 K] 24) D hDl).trans hK1
          clear r7 r0 r6 r1 ri r2 hBW e5 c7 c60 c61 ci c20 c21 f20 f21 c10 c11
          apply wpIn_rangeFunc_ownG (n := 5) hro (by omega) (gf := 42) (lb := #[.pointer (some ⟨W.heap.size, 0, none⟩)]) rfl trivial (enters_of Try.func42 (by kernel_rfl) rfl)
            (terms_stops Fence.wide (5 - 1) trivial hro (by omega) W.heap.size w.heap.size A n c K xs _ (by simp) (by simp; omega) y3.c0 (Ints.below HI.out yB (Nat.le_refl _))) belowK_t (belowK_b (by simp; omega)) (Below.refl _ _) (fun _ => rfl)
            (fun pre V => (OwnRow V w1.heap.size n (pre.foldl (scStep k n xs) (zeros n)) ∧ LBox V (w1.heap.size + 1) (some ⟨w1.heap.size, 0, none⟩) n n 0 ∧ LBox V w.heap.size A n c K ∧ IBox V (w.heap.size + 1) k ∧ LBox V (w.heap.size + 1 + 1) none 0 0 0 ∧ V.heap[D]? = some (.deferred (some []))) ∧ Below w.heap.size w V)
            (fun _ _ _ => False)
            (OwnFrom.and (fun s A B row hs hg hr => ⟨hs.1.kept hg (fun r e => (hr r e).2), block_kept hs.2.1 hg (fun r e => (hr r e).2), block_kept hs.2.2.1 hg (fun r e => (hr r e).2), block_kept hs.2.2.2.1 hg (fun r e => (hr r e).2), block_kept hs.2.2.2.2.1 hg (fun r e => (hr r e).2), (hg.block D (Array.getElem?_eq_some_iff.1 hs.2.2.2.2.2).1 (fun e => by have := (hr D e.symm).1; simp at this; omega)).trans hs.2.2.2.2.2⟩) (ownFrom_below (Nat.le_refl _) (by simp; omega)))
            (fun _ _ _ _ _ hs _ _ => hs)
            ⟨⟨y0, y6, y1, yi, y2, yD⟩, yB⟩ _ ?assign2 ?body2 ?done2 ?stop2
          case assign2 =>
            intro l x V K' hK
            dsimp only [nzEnc]
            gi_wp2
            exact hK
          case body2 =>
            rintro l pre x V ⟨⟨r0, r6, r1, ri, r2, rD⟩, hBV⟩ hlen
            have c60 := r6.c0
            have ci := ri.c
            have hx1 : (x.1 : Int) < n := by have := x.2.1; omega
            have crow := r0.cell (j := x.1) x.2.1
            have frow := r0.free x.1
            clear y0 y6 y1 yi y2 yD yB y3
            gi_wp2
            refine ⟨(KeepsOthers.setCell _ _ _).from _, (Below.refl w.heap.size V).setCell (p := ⟨w1.heap.size, x.1, none⟩) (by show w.heap.size ≤ w1.heap.size; omega) _, ⟨?_, r6.other (a := ⟨w1.heap.size, x.1, none⟩) (show w1.heap.size + 1 ≠ w1.heap.size by omega) _, r1.other (a := ⟨w1.heap.size, x.1, none⟩) (show w.heap.size ≠ w1.heap.size by omega) _, ri.other (a := ⟨w1.heap.size, x.1, none⟩) (show w.heap.size + 1 ≠ w1.heap.size by omega) _, r2.other (a := ⟨w1.heap.size, x.1, none⟩) (show w.heap.size + 1 + 1 ≠ w1.heap.size by omega) _, ?_⟩, hBV.setCell (p := ⟨w1.heap.size, x.1, none⟩) (by show w.heap.size ≤ w1.heap.size; omega) _⟩
            · rw [List.foldl_append]
              exact r0.set x.2.1 _
            · exact (KeepsOthers.setCell V _ _).same D _ rD rfl
          case stop2 =>
            rintro D2 cd pre V hD2 _ h
            exact h.elim
          case done2 =>
            rintro D2 pre V hD2 rfl ⟨⟨r0, r6, r1, ri, r2, rD⟩, hBV⟩ hK2
            rw [sc_all (valid_tame HV.out) hkb] at r0
            clear y0 y6 y1 yi y2 yD yB y3
            have hD2' : W.heap.size < D2 := by simp at hD2; omega
            have c60 := r6.c0
            have c61 := r6.c1
            have f61 := r6.f 1
            have ci := ri.c
            have c10 := r1.c0
            have c11 := r1.c1
            have HKv := Lib.hid (show wrap64 (k * K) = scK k K by
              have hb := mul_bd hkb (valid_k HV.out)
              unfold scK
              rw [IntWalk.wrap64_in _ (by omega)]; omega)
            have hwf : ∀ z ∈ scL n k xs, -9223372036854775808 ≤ z ∧ z ≤ 9223372036854775807 := mix_wf hkb (by decide) (valid_tame HV.out) (zeros_tame n)
            have s0 := r0.other (a := ⟨w1.heap.size + 1, 1, none⟩) (show w1.heap.size ≠ w1.heap.size + 1 by omega) (.int .i64 (scK k K))
            have s2 := r2.other (a := ⟨w1.heap.size + 1, 1, none⟩) (show w.heap.size + 1 + 1 ≠ w1.heap.size + 1 by omega) (.int .i64 (scK k K))
            have sD := (KeepsOthers.setCell V ⟨w1.heap.size + 1, 1, none⟩ (.int .i64 (scK k K))).same D _ rD rfl
            have sK2 := (KeepsOthers.setCell V ⟨w1.heap.size + 1, 1, none⟩ (.int .i64 (scK k K))).same D2 _ hK2 rfl
            have sB := hBV.setCell (p := ⟨w1.heap.size + 1, 1, none⟩) (by show w.heap.size ≤ w1.heap.size + 1; omega) (.int .i64 (scK k K))
            have I5 := s0.ints hsm hwf
            cases hr : validB (scL n k xs) (scK k K)
            · have HE := Lib.hid (k_bad hv hz hk HLn.out hr)
              clear hz
              gi_wp2_with (refine ⟨trivial, ?_⟩; gi_at_call 26; rw [HKv.out]; refine (callsIn_wide.2 (lin_fit_bad _ _ _ _ _ _ I5 hr)).mono ?_; rintro e w3 ⟨rfl, hb3⟩; have B5 := s2.step hb3; have c50 := B5.c0; have c51 := B5.c1; have f50 := B5.f 0; have f51 := B5.f 1)
              have rD3 := (hb3.block D (Array.getElem?_eq_some_iff.1 sD).1).trans sD
              have rK3 := (hb3.block D2 (Array.getElem?_eq_some_iff.1 sK2).1).trans sK2
              have hK := (KeepsOthers.setCell w3 ⟨w.heap.size + 1 + 1, 0, none⟩ (.slice none 0 0)).trans (KeepsOthers.setCell _ ⟨w.heap.size + 1 + 1, 1, none⟩ (.int .i64 0))
              have hE2 := hK.same D2 _ rK3 rfl
              refine ⟨by simp, .inl ⟨_, _, rfl, run_takeDeferred hE2, ?_⟩⟩
              have hE1 := (World.putObj_heap_other (r := D2) (o := .deferred none) (show D ≠ D2 by omega)).trans (hK.same D _ rD3 rfl)
              refine ⟨by simp, .inl ⟨_, _, rfl, run_takeDeferred hE1, ?_⟩⟩
              have B7 : LBox _ (w.heap.size + 1 + 1) none 0 0 0 := block_kept (block_kept (B5.store none 0 0 0) (grownBy_putObj' _ D2 (.deferred none)) (fun r e => by cases e; exact ⟨_, hE2, rfl⟩)) (grownBy_putObj' _ D (.deferred none)) (fun r e => by cases e; exact ⟨_, hE1, rfl⟩)
              have c70 := B7.c0
              have c71 := B7.c1
              refine ⟨.tuple #[.agg #[.slice none 0 0, .int .i64 0], .int .i64 3], ?_, ?_⟩
              · simp [results, Try.f22, go_sem, c70, c71]
              · rw [HE.out.2.1]
                exact ret_o HE.out.1 HE.out.2.2 (ints_nil _ _) (((below_store2 (below_step sB hb3) (by omega) _ _).trans (belowK_b (w := w) (Nat.le_refl _) _ D2 _ _ (by omega) hE2 rfl rfl)).trans (belowK_b (w := w) (Nat.le_refl _) _ D _ _ (by omega) hE1 rfl rfl)) (.inl rfl)
            · have HE := Lib.hid (k_ok hv hz hk HLn.out hr)
              clear hz
              gi_wp2_with (refine ⟨trivial, ?_⟩; gi_at_call 26; rw [HKv.out]; refine (callsIn_wide.2 (lin_fit_ok _ _ _ _ _ _ I5 hr)).mono ?_; rintro e w3 ⟨rfl, hb3⟩; have B5 := s2.step hb3; have c50 := B5.c0; have c51 := B5.c1; have f50 := B5.f 0; have f51 := B5.f 1)
              have rD3 := (hb3.block D (Array.getElem?_eq_some_iff.1 sD).1).trans sD
              have rK3 := (hb3.block D2 (Array.getElem?_eq_some_iff.1 sK2).1).trans sK2
              have hK := (KeepsOthers.setCell w3 ⟨w.heap.size + 1 + 1, 0, none⟩ (.slice (some ⟨w1.heap.size, 0, none⟩) n n)).trans (KeepsOthers.setCell _ ⟨w.heap.size + 1 + 1, 1, none⟩ (.int .i64 (scK k K)))
              have hE2 := hK.same D2 _ rK3 rfl
              refine ⟨by simp, .inl ⟨_, _, rfl, run_takeDeferred hE2, ?_⟩⟩
              have hE1 := (World.putObj_heap_other (r := D2) (o := .deferred none) (show D ≠ D2 by omega)).trans (hK.same D _ rD3 rfl)
              refine ⟨by simp, .inl ⟨_, _, rfl, run_takeDeferred hE1, ?_⟩⟩
              have B7 : LBox _ (w.heap.size + 1 + 1) (some ⟨w1.heap.size, 0, none⟩) n n (scK k K) := block_kept (block_kept (B5.store (some ⟨w1.heap.size, 0, none⟩) n n (scK k K)) (grownBy_putObj' _ D2 (.deferred none)) (fun r e => by cases e; exact ⟨_, hE2, rfl⟩)) (grownBy_putObj' _ D (.deferred none)) (fun r e => by cases e; exact ⟨_, hE1, rfl⟩)
              have c70 := B7.c0
              have c71 := B7.c1
              have r8 := ((((s0.step hb3).other (a := ⟨w.heap.size + 1 + 1, 0, none⟩) (show w1.heap.size ≠ w.heap.size + 1 + 1 by omega) (.slice (some ⟨w1.heap.size, 0, none⟩) n n)).other (a := ⟨w.heap.size + 1 + 1, 1, none⟩) (show w1.heap.size ≠ w.heap.size + 1 + 1 by omega) (.int .i64 (scK k K))).kept (grownBy_putObj' _ D2 (.deferred none)) (fun r e => by cases e; exact ⟨_, hE2, rfl⟩)).kept (grownBy_putObj' _ D (.deferred none)) (fun r e => by cases e; exact ⟨_, hE1, rfl⟩)
              refine ⟨.tuple #[.agg #[.slice (some ⟨w1.heap.size, 0, none⟩) n n, .int .i64 (scK k K)], .int .i64 0], ?_, ?_⟩
              · simp [results, Try.f22, go_sem, c70, c71]
              · rw [HE.out.2.1]
                exact ret_o HE.out.1 HE.out.2.2 (r8.ints hsm hwf) (((below_store2 (below_step sB hb3) (by omega) _ _).trans (belowK_b (w := w) (Nat.le_refl _) _ D2 _ _ (by omega) hE2 rfl rfl)).trans (belowK_b (w := w) (Nat.le_refl _) _ D _ _ (by omega) hE1 rfl rfl)) (.inr ⟨w1.heap.size, rfl, by omega, r8⟩)
      · rw [hz] at c7
        have HE := Lib.hid (k_zero (k := k) hv hz HLn.out)
        clear hz
        gi_wp2
        have hD4 := ((KeepsOthers.setCell W ⟨w.heap.size + 1 + 1, 0, none⟩ (.slice (some ⟨w1.heap.size, 0, none⟩) n n)).trans (KeepsOthers.setCell _ ⟨w.heap.size + 1 + 1, 1, none⟩ (.int .i64 0))).same D _ hK1 rfl
        refine ⟨by simp, .inl ⟨_, _, rfl, run_takeDeferred hD4, ?_⟩⟩
        have B7 : LBox _ (w.heap.size + 1 + 1) (some ⟨w1.heap.size, 0, none⟩) n n 0 := block_kept (r2.store (some ⟨w1.heap.size, 0, none⟩) n n 0) (grownBy_putObj' _ D (.deferred none)) (fun r e => by cases e; exact ⟨_, hD4, rfl⟩)
        have c70 := B7.c0
        have c71 := B7.c1
        have r8 := ((r0.other (a := ⟨w.heap.size + 1 + 1, 0, none⟩) (show w1.heap.size ≠ w.heap.size + 1 + 1 by omega) (.slice (some ⟨w1.heap.size, 0, none⟩) n n)).other (a := ⟨w.heap.size + 1 + 1, 1, none⟩) (show w1.heap.size ≠ w.heap.size + 1 + 1 by omega) (.int .i64 0)).kept (grownBy_putObj' _ D (.deferred none)) (fun r e => by cases e; exact ⟨_, hD4, rfl⟩)
        refine ⟨.tuple #[.agg #[.slice (some ⟨w1.heap.size, 0, none⟩) n n, .int .i64 0], .int .i64 0], ?_, ?_⟩
        · simp [results, Try.f22, go_sem, c70, c71]
        · rw [HE.out.2.1]
          exact ret_o HE.out.1 HE.out.2.2 (r8.ints hsm (zeros_wf n)) ((below_store2 hBW (by omega) _ _).trans (belowK_b (w := w) (Nat.le_refl _) _ D _ _ (by omega) hD4 rfl rfl)) (.inr ⟨w1.heap.size, rfl, by omega, r8⟩)
end Go.Proofs.Ytdcapokamdmneab
