/-
  The iterator of package lin over the coefficients that are not 0, and lin.Valid.
-/
import Derived.RangeFuncNested
import Derived.RangeFuncBound
import Derived.RangeFuncCalls
import Derived.RangeFuncLeaves
import Derived.Shelf.Abstract
import Derived.Shelf.RegionOpen
import Derived.WalkKit
import Derived.OwnWalkIn
import Derived.TacticsInMore
import Derived.LoopNIn
import Derived.LoopIn
import Derived.Lib.Hide
import Derived.Test.YtbjkijifpikhkaaProg
import Derived.Test.YtbjkijifpikhkaaLinKit
namespace Go.Proofs.Ytbjkijifpikhkaa
open Go.RowKit Go.Shelf
set_option linter.unusedVariables false

attribute [local go_sem] Oper.semAt_some

/-- A place whose coefficient is not 0. -/
abbrev NzAt (n : Nat) (xs : List Int) : Type := { i : Nat // i < n ∧ xs[i]?.getD 0 ≠ 0 }
/-- The places below k. -/
def nzl (n : Nat) (xs : List Int) : Nat → List (NzAt n xs)
  | 0 => []
  | k + 1 => if h : k < n ∧ xs[k]?.getD 0 ≠ 0 then nzl n xs k ++ [⟨k, h⟩] else nzl n xs k
theorem nzl_len (n : Nat) (xs : List Int) : ∀ k, (nzl n xs k).length ≤ k
  | 0 => Nat.le_refl _
  | k + 1 => by
    have := nzl_len n xs k
    rw [nzl]
    split
    · rw [List.length_append, List.length_singleton]; omega
    · omega
theorem nzl_hit {n : Nat} {xs : List Int} {k : Nat} (h : k < n ∧ xs[k]?.getD 0 ≠ 0) : nzl n xs (k + 1) = nzl n xs k ++ [⟨k, h⟩] := by rw [nzl, dif_pos h]
theorem nzl_miss {n : Nat} {xs : List Int} {k : Nat} (h : xs[k]?.getD 0 = 0) : nzl n xs (k + 1) = nzl n xs k := by rw [nzl, dif_neg (fun h' => h'.2 h)]
theorem nzl_mem {n : Nat} {xs : List Int} : ∀ {k : Nat} (i : NzAt n xs), i.1 < k → i ∈ nzl n xs k
  | k + 1, i, hi => by
    rw [nzl]
    split
    · rcases Nat.lt_or_eq_of_le (Nat.le_of_lt_succ hi) with h | h
      · exact List.mem_append_left _ (nzl_mem i h)
      · exact List.mem_append_right _ (List.mem_singleton.2 (Subtype.ext h))
    · rename_i hno
      rcases Nat.lt_or_eq_of_le (Nat.le_of_lt_succ hi) with h | h
      · exact nzl_mem i h
      · exact absurd (h ▸ i.2) hno

def nzEnc (n : Nat) (xs : List Int) (i : NzAt n xs) : Array Value := #[.int .i64 (i.1 : Int), .int .i64 (xs[i.1]?.getD 0)]

set_option maxRecDepth 100000 in
set_option maxHeartbeats 2000000 in
theorem terms1_in (F : Fence) (N : Nat) (hf : F.fn 59) (hro : F.round = none) (hN : 1 ≤ N) (l Bs n₀ : Nat) (A : Option Addr) (n c : Nat) (K : Int) (xs : List Int) (J Jx : List (NzAt n xs) → World → Prop)
    (hY : ∀ pre x W, J pre W → pre.length < n → YieldAt F (N - 1) Try.prog l (nzEnc n xs x) W fun e W' =>
      (e = .returned (.bool true) ∧ J (pre ++ [x]) W' ∧ Below n₀ W W') ∨ (e = .returned (.bool false) ∧ Jx (pre ++ [x]) W'))
    (W : World) (hBs : W.cell? ⟨Bs, 0, none⟩ = some (.slice A n c)) (hI : Ints W n₀ A n xs) (h0 : J [] W) :
    CallsIn F N Try.prog 59 #[.func (.yield l) #[] #[], .pointer (some ⟨Bs, 0, none⟩)] W fun e W' => (∃ v, e = .returned v) ∧
      ((∃ ys, ys = nzl n xs n ∧ J ys W') ∨ (∃ pre, (∃ k, k ≤ n ∧ pre = nzl n xs k) ∧ Jx pre W')) := by
  have hsm := hI.small
  refine callsIn_of_wp Try.func59 rfl hf ?_ hro
  simp only [Try.ntmps59, List.size_toArray, List.length_cons, List.length_nil, Nat.reduceAdd, Nat.reduceSub, Array.replicate_succ, Array.replicate_zero, List.push_toArray, List.append_toArray, List.nil_append, List.cons_append]
  gi_wp2
  gi_loopw [8] (fun i wr => ∃ k : Nat, k ≤ n ∧ i = .int .i64 k ∧ J (nzl n xs k) wr ∧ Below n₀ W wr) (fun i _ => n - (intOf i).toNat)
  case atStart => exact ⟨0, Nat.zero_le _, rfl, h0, Below.refl _ _⟩
  case round =>
    obtain ⟨k, hk, rfl, hJs, hnx⟩ := hrel
    by_cases hlt : k < n
    · obtain ⟨b, off, rfl, hb, hc⟩ := hI.cells (by omega)
      have hcx : wr.cell? ⟨b, off + k, none⟩ = some (.int .i64 (xs[k]?.getD 0)) := (hnx.cell (p := ⟨b, off + k, none⟩) hb).trans (hc k hlt)
      clear hc
      by_cases hz : xs[k]?.getD 0 = 0
      · have HM := Lib.hid (nzl_miss (n := n) hz)
        rw [hz] at hcx
        clear hz
        gi_wp2
        refine ⟨fun _ h => (by cases h), ?_⟩
        gi_wp2
        go_roundw
        case rel => exact ⟨k + 1, by omega, by simp, by rw [HM.out]; exact hJs, hnx⟩
        case measure => simp [intOf]; omega
      · obtain ⟨x, hx, hm⟩ : ∃ x : NzAt n xs, x.1 = k ∧ nzl n xs (k + 1) = nzl n xs k ++ [x] := ⟨⟨k, hlt, hz⟩, rfl, nzl_hit ⟨hlt, hz⟩⟩
        have HM := Lib.hid hm
        obtain ⟨fn, tmps, assign, body, hy, hR⟩ := hY _ x wr hJs (by have := nzl_len n xs k; omega)
        dsimp only [nzEnc] at hy
        rw [hx] at hy
        clear hm hx
        have hz' : (xs[k]?.getD 0 != 0) = true := by simpa using hz
        have hz'' : (xs[k]?.getD 0 == 0) = false := by simpa using hz
        clear hz
        gi_wp2
        refine hR.mono ?_
        rintro e W3 (⟨rfl, hJ3, hk3⟩ | ⟨rfl, hJx3⟩)
        · gi_wp2
          go_roundw
          case rel => exact ⟨k + 1, by omega, by simp, by rw [HM.out]; exact hJ3, hnx.trans hk3⟩
          case measure => simp [intOf]; omega
        · gi_wp2
          refine bodyPost_ret (results_none rfl _ _ _) rfl ?_
          exact ⟨⟨_, rfl⟩, .inr ⟨_, ⟨k + 1, by omega, HM.out.symm⟩, hJx3⟩⟩
    · obtain rfl : k = n := by omega
      gi_wp2
      go_end0
      exact ⟨⟨_, rfl⟩, .inl ⟨_, rfl, hJs⟩⟩

set_option maxHeartbeats 1000000 in
/-- lin.terms: the expression is boxed; the function value captures the box. -/
theorem terms_in (F : Fence) (N : Nat) (hf : F.fn 43) (hro : F.round = none) (A : Option Addr) (n c : Nat) (K : Int) (w : World) :
    CallsIn F N Try.prog 43 #[.agg #[.slice A n c, .int .i64 K]] w fun e w' => e = .returned (.func (.func 59) #[] #[.pointer (some ⟨w.heap.size, 0, none⟩)]) ∧ w' = w.alloc (.cells #[.slice A n c, .int .i64 K] 24) := by
  refine callsIn_of_wp Try.func43 rfl hf ?_ hro
  simp only [Try.ntmps43, List.size_toArray, List.length_cons, List.length_nil, Nat.reduceAdd, Nat.reduceSub, Array.replicate_succ, Array.replicate_zero, List.push_toArray, List.append_toArray, List.nil_append, List.cons_append]
  gi_wp2
  go_ret
  exact ⟨rfl, rfl⟩

/-- What lin.terms hands back hands on the places whose coefficients are not 0, in their order. -/
theorem terms_stops (F : Fence) (N : Nat) (hf : F.fn 59) (hro : F.round = none) (hN : 1 ≤ N) (Bs n₀ : Nat) (A : Option Addr) (n c : Nat) (K : Int) (xs : List Int) (w : World) (hBs : Bs < w.heap.size) (hn₀ : n₀ ≤ w.heap.size)
    (hc : w.cell? ⟨Bs, 0, none⟩ = some (.slice A n c)) (hI : Ints w n₀ A n xs) :
    SeqStopsK F N Try.prog 59 #[.pointer (some ⟨Bs, 0, none⟩)] (nzEnc n xs) (Below n₀) (fun ys => ys = nzl n xs n) (fun pre => ∃ k, k ≤ n ∧ pre = nzl n xs k) n w := fun l J Jx W hW _ _ hY h0 => by
  have hc' := (hW.cell (p := ⟨Bs, 0, none⟩) hBs).trans hc
  exact terms1_in F N hf hro hN l Bs n₀ A n c K xs J Jx hY W hc' (hI.below hW hn₀) h0

set_option maxRecDepth 100000 in
set_option maxHeartbeats 4000000 in
theorem lin_valid (A : Option Addr) (n c : Nat) (K : Int) (xs : List Int) (w : World) (hI : IntsAt w A n xs) :
    Calls Try.prog 27 #[.agg #[.slice A n c, .int .i64 K]] w fun e w' => e = .returned (.bool (validB xs K)) ∧ Below w.heap.size w w' := by
  have hro : Fence.wide.round = none := rfl
  have h1 : 1 ≤ 5 := by omega
  refine (callsIn_wide (n := 5)).1 ?_
  refine callsIn_of_wp_marks Try.func27 rfl trivial ?_ hro
  simp only [Try.ntmps27, List.size_toArray, List.length_cons, List.length_nil, Nat.reduceAdd, Nat.reduceSub, Array.replicate_succ, Array.replicate_zero, List.push_toArray, List.append_toArray, List.nil_append, List.cons_append]
  have hlen := hI.len
  have hB0 : Below w.heap.size w ((w.alloc (.cells #[.slice A n c, .int .i64 K] 24)).alloc (.cells #[.bool false] 4)) := ((Below.refl _ w).alloc (Nat.le_refl _) _).alloc (by simp) _
  by_cases h12 : 12 < n
  · have HV := Lib.hid (show validB xs K = false by unfold validB; rw [hlen, decide_eq_false (by omega)]; rfl)
    have h12' : (12 : Int) < n := by omega
    gi_wp2_with (refine ⟨trivial, ?_⟩)
    refine ⟨.bool false, ?_, ?_⟩
    · simp [results, Try.f27, go_sem]
    · exact ⟨by rw [HV.out], hB0⟩
  · have h12' : decide ((12 : Int) < n) = false := by simp; omega
    cases hK : fitsB K
    · have HV := Lib.hid (show validB xs K = false by unfold validB; rw [hK]; simp)
      gi_wp2_with (refine ⟨trivial, ?_⟩; gi_at_call 42; refine (callsIn_wide.2 (num_fits _ _)).mono ?_; rintro e w' ⟨rfl, rfl⟩)
      refine ⟨.bool false, ?_, ?_⟩
      · simp [results, Try.f27, go_sem]
      · exact ⟨by rw [HV.out], hB0⟩
    · gi_wp2_with (first
        | (refine ⟨trivial, ?_⟩; gi_at_call 42; refine (callsIn_wide.2 (num_fits _ _)).mono ?_; rintro e w' ⟨rfl, rfl⟩)
        | (refine ⟨trivial, ?_⟩; gi_at_call 43; refine (terms_in Fence.wide _ trivial hro _ _ _ _ _).mono ?_; rintro e w' ⟨rfl, rfl⟩))
      have bR := (Boxed.new (w.alloc (.cells #[.slice A n c, .int .i64 K] 24)) 4 (.bool false)).alloc (.cells #[.slice A n c, .int .i64 K] 24)
      rw [World.size_alloc] at bR
      have hB1 := hB0.alloc (by simp; omega) (.cells #[.slice A n c, .int .i64 K] 24)
      have hcl : ((((w.alloc (.cells #[.slice A n c, .int .i64 K] 24)).alloc (.cells #[.bool false] 4)).alloc (.cells #[.slice A n c, .int .i64 K] 24))).cell? ⟨w.heap.size + 1 + 1, 0, none⟩ = some (.slice A n c) := by
        rw [World.cell?_alloc_at _ _ _ _ (by simp)]; rfl
      refine wpIn_rangeFunc_ownG hro h1 (gf := 59) (lb := #[.pointer (some ⟨w.heap.size + 1 + 1, 0, none⟩)]) rfl trivial (enters_of Try.func59 (by kernel_rfl) rfl)
        (terms_stops Fence.wide (5 - 1) trivial hro (by omega) (w.heap.size + 1 + 1) w.heap.size A n c K xs _ (by simp) (by simp; omega) hcl (hI.below hB1 (Nat.le_refl _))) belowK_t (belowK_b (by simp; omega)) (Below.refl _ _) (fun _ => rfl)
        (fun pre W => ((∀ i ∈ pre, fitsB (xs[i.1]?.getD 0) = true) ∧ W.cell? ⟨w.heap.size + 1, 0, none⟩ = some (.bool false) ∧ W.frozen? ⟨w.heap.size + 1, 0, none⟩ = false) ∧ Below w.heap.size w W)
        (fun cd pre W => (cd = .ret ∧ validB xs K = false ∧ W.cell? ⟨w.heap.size + 1, 0, none⟩ = some (.bool false)) ∧ Below w.heap.size w W)
        (OwnFrom.and (Own.from (fun s A B row hs hg hr => ⟨hs.1, cell_kept hs.2.1 hg hr, (frozen_kept hs.2.1 hg hr).trans hs.2.2⟩) _) (ownFrom_below (Nat.le_refl _) (by simp; omega)))
        (fun cd => OwnFrom.and (Own.from (fun s A B row hs hg hr => ⟨hs.1, hs.2.1, cell_kept hs.2.2 hg hr⟩) _) (ownFrom_below (Nat.le_refl _) (by simp; omega)))
        ⟨⟨by simp, bR.cell, bR.frozen⟩, hB1⟩
        (fun x => { tmps := #[.agg #[.slice A n c, .int .i64 K], .pointer (some ⟨w.heap.size, 0, none⟩), .pointer (some ⟨w.heap.size + 1, 0, none⟩), undef, .int .i64 (xs[x.1]?.getD 0), .pointer (some ⟨w.heap.size, 0, none⟩), .slice A n c, .int .i64 n, .bool false, .bool false,
          .pointer (some ⟨w.heap.size, 1, none⟩), .int .i64 K, .bool true, .bool false, .bool false, .agg #[.slice A n c, .int .i64 K], .func (.func 59) #[] #[.pointer (some ⟨w.heap.size + 1 + 1, 0, none⟩)], .int .i64 (x.1 : Int), .int .i64 (xs[x.1]?.getD 0), undef, undef, undef], defers := [] }) ?assign ?body ?done ?stop
      case assign =>
        intro l x W K hK
        dsimp only [nzEnc]
        gi_wp2
        exact hK
      case body =>
        rintro l pre x W ⟨⟨hp, hcr, hfr⟩, hB⟩ _
        cases hx : fitsB (xs[x.1]?.getD 0)
        · have HV := Lib.hid (show validB xs K = false by
            rw [Bool.eq_false_iff]; intro h; have := (validB_true.1 h).2.2 _ (hI.mem x.2.1); rw [hx] at this; cases this)
          gi_wp2_with (refine ⟨trivial, ?_⟩; gi_at_call 42; refine (CallsIn.inRound l (callsIn_wide.2 (num_fits _ _))).mono ?_; rintro e w' ⟨rfl, rfl⟩)
          exact ⟨(KeepsOthers.setCell _ _ _).from _, ⟨rfl, HV.out, World.cell?_setCell_same' _ _ _ (by rw [hcr]; rfl)⟩, hB.setCell (p := ⟨w.heap.size + 1, 0, none⟩) (by simp) _⟩
        · gi_wp2_with (refine ⟨trivial, ?_⟩; gi_at_call 42; refine (CallsIn.inRound l (callsIn_wide.2 (num_fits _ _))).mono ?_; rintro e w' ⟨rfl, rfl⟩)
          exact ⟨KeepsFrom.refl _ _, Below.refl _ _, ⟨fun p hp' => (List.mem_append.1 hp').elim (hp p) (fun e => by rw [List.mem_singleton] at e; subst e; exact hx), hcr, hfr⟩, hB⟩
      case done =>
        rintro D ys W hD rfl ⟨⟨hne, hcr, hfr⟩, hB⟩ hK'
        have HV := Lib.hid (show validB xs K = true from validB_true.2 ⟨by omega, hK, (all_getD (p := fun x => fitsB x = true)).2 fun j hj => by
          by_cases hz : xs[j]?.getD 0 = 0
          · rw [hz]; rfl
          · exact hne ⟨j, by omega, hz⟩ (nzl_mem _ (by show j < n; omega))⟩)
        clear hne
        gi_wp2
        have hK2 := (KeepsOthers.setCell W ⟨w.heap.size + 1, 0, none⟩ (.bool true)).same D _ hK' rfl
        refine ⟨by simp, .inl ⟨_, _, rfl, run_takeDeferred hK2, ?_⟩⟩
        have hc5 := cell_kept (World.cell?_setCell_same' W ⟨w.heap.size + 1, 0, none⟩ (.bool true) (by rw [hcr]; rfl)) (grownBy_putObj' _ D (.deferred none)) (fun r e => by cases e; exact ⟨_, hK2, rfl⟩)
        refine ⟨.bool true, ?_, by rw [HV.out], (hB.setCell (p := ⟨w.heap.size + 1, 0, none⟩) (by simp) _).trans (belowK_b (w := w) (Nat.le_refl _) _ D _ _ (by simp at hD; omega) hK2 rfl rfl)⟩
        simp [results, Try.f27, go_sem, hc5]
      case stop =>
        rintro D cd pre W hD _ ⟨⟨rfl, hv, hcr⟩, hB⟩ hK'
        have HV := Lib.hid hv
        clear hv
        gi_wp2
        refine ⟨by simp, .inl ⟨_, _, rfl, run_takeDeferred hK', ?_⟩⟩
        have hc5 := cell_kept hcr (grownBy_putObj' _ D (.deferred none)) (fun r e => by cases e; exact ⟨_, hK', rfl⟩)
        refine ⟨.bool false, ?_, by rw [HV.out], hB.trans (belowK_b (w := w) (Nat.le_refl _) W D _ _ (by simp at hD; omega) hK' rfl rfl)⟩
        simp [results, Try.f27, go_sem, hc5]
end Go.Proofs.Ytbjkijifpikhkaa
