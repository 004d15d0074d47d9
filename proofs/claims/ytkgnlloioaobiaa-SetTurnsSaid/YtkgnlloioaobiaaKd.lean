/-
  Part 4 of the texts that the laws stand on.
-/
import Derived.Test.YtkgnlloioaobiaaKc
set_option linter.unusedVariables false
set_option linter.unusedSimpArgs false
set_option maxRecDepth 100000
set_option linter.unusedSectionVars false
namespace Go.Proofs.Ytkgnlloioaobiaa
open Go.RowKit
def ValidD (n : Nat) (d : CD) : Prop := validC d.q d.M d.xs d.K = true ∧ d.xs.length = n
theorem nf_valid1 {q M : Int} {n : Nat} {xs : List Int} {K : Int} (hl : xs.length = n) (hq : KindOk q M) (hs : (nf q M n xs K).2.2.2.2 = 0) :
    validC (nf q M n xs K).1 (nf q M n xs K).2.1 (nf q M n xs K).2.2.1 (nf q M n xs K).2.2.2.1 = validB (nf q M n xs K).2.2.1 (nf q M n xs K).2.2.2.1 ∧ (nf q M n xs K).2.2.1.length = n := by
  rcases nf_case (K := K) hl hq with ⟨s, hs'', h, hh⟩ | ⟨g, _, hg, h, _, _⟩ | ⟨D, _, hD, h, _, _, _, _⟩ | ⟨h, hq2, h0, hM, hne, e, _, _, _⟩
  · rw [h] at hs; exfalso; rcases hs'' with rfl | rfl <;> cases hs
  · rw [h]; unfold validC; simp [quoL]
  · rw [h]; unfold validC; simp [quoL]
  · rw [e]
    rcases hq with h1 | h1 | ⟨_, h1, h2⟩
    · rw [hq2] at h1; cases h1
    · rw [hq2] at h1; cases h1
    · have hM' := Int.ediv_mul_cancel hM
      have m3 := Int.ediv_le_self (h : Int) (show 0 ≤ M by omega)
      have hm : 1 ≤ M / (h : Int) := by
        rcases Int.lt_or_le (M / (h : Int)) 1 with hlt | hge
        · have m4 := Int.ediv_nonneg (show 0 ≤ M by omega) (show (0 : Int) ≤ h by omega)
          have : M / (h : Int) = 0 := by omega
          rw [this] at hM'; omega
        · exact hge
      refine ⟨?_, by simp [remL]⟩
      unfold validC
      simp; omega
theorem settle_all {P : CD → Prop} (hP : ∀ d : CD, P d → P ⟨1, 0, d.xs, d.K⟩) {p out : List CD} (hn : ∀ d ∈ p, P d) (h : settleD p = some out) : ∀ d ∈ out, P d := by
  have hges : ∀ d ∈ gesD p, P d := fun d hd => hn d ((kind_ge_sub p).subset (comp_mem hd))
  have htight : ∀ d ∈ tightD (gesD p), P d := fun d hd => by
    unfold tightD at hd
    obtain ⟨x, hx, hd⟩ := List.mem_flatMap.1 hd
    unfold tightOne at hd
    split at hd
    · split at hd
      · rw [List.mem_singleton] at hd
        subst hd
        exact hP x (hges x hx)
      · cases hd
    · cases hd
  have heqs : ∀ d ∈ eqsD p, P d := fun d hd => by
    have hd := comp_mem hd
    split at hd
    · have := (sortL_perm leD _).mem_iff.1 hd
      rcases List.mem_append.1 this with h | h
      · exact hn d ((kind_eq_sub p).subset h)
      · exact htight d h
    · exact hn d ((kind_eq_sub p).subset hd)
  unfold settleD at h
  split at h
  · cases h
  · split at h
    · cases h
    · split at h
      · cases h
      · cases h
        intro d hd
        rcases List.mem_append.1 hd with hd | hd
        · rcases List.mem_append.1 hd with hd | hd
          · exact heqs d hd
          · have hr : d ∈ restD (gesD p) := by
              unfold impRest at hd
              split at hd
              · exact hd
              · exact (List.mem_filter.1 hd).1
            exact hges d (List.mem_filter.1 hr).1
        · have := comp_mem hd
          unfold kindDv at this
          exact hn d ((List.dropWhile_sublist _).subset ((List.dropWhile_sublist _).subset this))
theorem piece_valid {n : Nat} {ds : List CD} (hq : ∀ d ∈ ds, KindOk d.q d.M ∧ d.xs.length = n) : (∀ d ∈ (pieceD n ds).1, ValidD n d) ∧ (pieceD n ds).1.length ≤ 96 := by
  unfold pieceD
  split
  · exact ⟨(fun d hd => nomatch hd), by simp⟩
  · split
    · exact ⟨(fun d hd => nomatch hd), by simp⟩
    · rename_i out hout
      split
      · exact ⟨(fun d hd => nomatch hd), by simp⟩
      · rename_i hb
        have hf : normFits n ds = true := by
          cases h : normFits n ds
          · exact absurd (.inl h) hb
          · rfl
        refine ⟨settle_all (P := ValidD n) (fun d hd => ⟨?_, hd.2⟩) (fun d hd => ?_) hout, ?_⟩
        · have := (validC_kind hd.1).1
          unfold validC
          rw [this]
          rfl
        · have hd := (sortL_perm leD _).mem_iff.1 hd
          have hfd := List.all_eq_true.1 hf d hd
          unfold normOut at hd
          obtain ⟨x, hx, hd⟩ := List.mem_flatMap.1 hd
          unfold openD at hd
          split at hd
          · rename_i h0
            rw [List.mem_singleton] at hd
            subst hd
            have := nf_valid1 (hq x hx).2 (hq x hx).1 h0
            exact ⟨this.1.trans hfd, this.2⟩
          · cases hd
        · rcases Nat.lt_or_ge 96 out.length with h1 | h1
          · exact absurd (.inr h1) hb
          · exact h1
end Go.Proofs.Ytkgnlloioaobiaa
namespace Go.Proofs.Ytkgnlloioaobiaa
open Go.RowKit
def PieceV (n : Nat) (w : World) (p : PEl) : Prop := PieceOk n w p ∧ (∀ d ∈ p.dat, ValidD n d) ∧ p.els.length ≤ 96
theorem PieceV.keep {n : Nat} {w w' : World} {p : PEl} (h : PieceV n w p) (hk : KeepU w w') : PieceV n w' p := ⟨h.1.keep hk, h.2⟩
theorem PieceV.step {n : Nat} {w w' : World} {p : PEl} (h : PieceV n w p) (hb : Below w.heap.size w w') : PieceV n w' p := h.keep (.of_below hb)
theorem PieceV.pre {n : Nat} {w : World} {p : PEl} (h : PieceV n w p) : ∀ e ∈ p.els, PreB n e := fun e he => by
  obtain ⟨hv, hl⟩ := h.2.1 e.d (List.mem_map.2 ⟨e, he, rfl⟩)
  obtain ⟨_, hK, hx⟩ := validB_true.1 (validC_kind hv).1
  have hK := fitsB_true.1 hK
  exact ⟨(h.1.2.1 e he).2.1, validC_ok hv, by have : e.d.K = e.K := rfl; omega, fun x hxm => by have := fitsB_true.1 (hx x hxm); omega⟩
theorem PieceV.take {n : Nat} {w : World} {A : Option Addr} {m c : Nat} {els : List CEl} (h : PieceV n w ⟨A, m, c, els⟩) {i : Nat} (hi : i ≤ m) (c' : Nat) (hc : A = none → c' = 0) (hi' : i ≤ c') : PieceV n w ⟨A, i, c', els.take i⟩ := by
  obtain ⟨⟨h1, h2, h3, h4⟩, h5, h6⟩ := h
  have hs := CV.sub (show CV 0 0 w A m els from h1) (i := 0) (k := i) (by omega) (A' := A) (fun _ g o hA => by rw [hA]; simp)
  rw [List.drop_zero] at hs
  refine ⟨⟨hs, fun e he => h2 e (List.mem_of_mem_take he), ?_, ⟨hc, h4.1.2⟩, hi'⟩, fun d hd => ?_, ?_⟩
  · have : m ≤ 1000 := h3
    show i ≤ 1000
    omega
  · obtain ⟨e, he, rfl⟩ := List.mem_map.1 hd
    exact h5 _ (List.mem_map.2 ⟨e, List.mem_of_mem_take he, rfl⟩)
  · have : els.length ≤ 96 := h6
    show (els.take i).length ≤ 96
    rw [List.length_take]
    omega
theorem row_pieces {n : Nat} {w : World} {g : Nat} {ps : List PEl} (hg : w.heap[g]? = some (.cells (ps.map PEl.v).toArray 40 (0, 0))) (hok : ∀ p ∈ ps, PieceOk n w p) (hl : ps.length ≤ 1000) : PiecesAt w (some ⟨g, 0, none⟩) ps.length ps := by
  refine ⟨rfl, by omega, fun _ => ⟨g, 0, rfl, (Array.getElem?_eq_some_iff.1 hg).1, fun j p hp => ?_⟩, fun p hp => (hok p hp).1.conds⟩
  rw [Nat.zero_add, cell_of_row w g j _ _ (0, 0) hg]
  simp [hp, PEl.v]
theorem joined {n : Nat} {w : World} {g : Nat} {ps : List PEl} (m cm : Nat) (hm : m = ps.length) (hg : w.heap[g]? = some (.cells (ps.map PEl.v).toArray 40 (0, 0))) (hok : ∀ p ∈ ps, PieceV n w p) (hl : ps.length ≤ 3) :
    Calls Try.prog 58 #[.slice (some ⟨g, 0, none⟩) m cm] w fun e w' => ∃ A k c, e = .returned (.slice A k c) ∧ CondsAt w' A k (ps.flatMap PEl.els) ∧ k ≤ 1000 ∧ Below w.heap.size w w' := by
  subst hm
  have hlen : (ps.flatMap PEl.els).length ≤ 288 := by
    have key : ∀ l : List PEl, (∀ p ∈ l, p.els.length ≤ 96) → (l.flatMap PEl.els).length ≤ l.length * 96 := by
      intro l
      induction l with
      | nil => intro _; simp
      | cons a l ih =>
        intro h
        have h1 := h a (List.mem_cons_self ..)
        have h2 := ih fun p hp => h p (List.mem_cons_of_mem _ hp)
        simp only [List.flatMap_cons, List.length_append, List.length_cons]
        omega
    have := key ps fun p hp => (hok p hp).2.2
    omega
  refine (conds_concat (N0 := 0) w (row_pieces hg (fun p hp => (hok p hp).1) (by omega)) (fun p hp => (hok p hp).1.1.rows) (fun p hp => (hok p hp).1.2.2.2.1) (by omega) (by omega)).mono ?_
  rintro e w' ⟨A, c, rfl, hL, hb⟩
  exact ⟨A, _, c, rfl, hL.conds.2, by omega, hb⟩
theorem one_piece {n : Nat} {w : World} {e : CEl} {g : Nat} (hg : w.heap[g]? = some (.cells (ccells [e]).toArray 55 (0, 0))) (hi : IntsAt w e.A e.n e.xs) (hr : RowOk 0 w e.A e.n) (hn : e.n = n) (hv : ValidD n e.d) : PieceV n w ⟨some ⟨g, 0, none⟩, 1, 1, [e]⟩ := by
  obtain ⟨_, hK, hx⟩ := validB_true.1 (validC_kind hv.1).1
  have hK := fitsB_true.1 hK
  have hk : e.d.K = e.K := rfl
  have hM : e.d.M = e.M := rfl
  have hq : e.d.q = e.q := rfl
  refine ⟨⟨?_, fun x hx' => ?_, by show (1 : Nat) ≤ 1000; omega, ⟨(fun h => nomatch h), fun ad h => by cases h; rfl⟩, Nat.le_refl _⟩, fun d hd => ?_, by simp⟩
  · refine CV.of_cl (c := 1) ⟨⟨by simp [ccells_len], .inr ⟨g, 1, _, rfl, Nat.zero_le _, hg, by simp, by decide, by simp [ccells_len], by simp [ccells, CEl.cells]⟩⟩, by simp, fun x hx' => ?_, fun x hx' => ?_⟩
    · rw [List.mem_singleton.1 hx']; exact hi
    · rw [List.mem_singleton.1 hx']; exact hr
  · rw [List.mem_singleton.1 hx']
    refine ⟨?_, hn, ?_, by omega, fun y hy => by have := fitsB_true.1 (hx y hy); omega⟩
    · rcases (validC_kind hv.1).2 with ⟨h, _⟩ | ⟨h, _⟩ | ⟨h, _⟩
      · exact .inl (hq ▸ h)
      · exact .inr (.inl (hq ▸ h))
      · exact .inr (.inr (hq ▸ h))
    · rcases (validC_kind hv.1).2 with ⟨_, h⟩ | ⟨_, h⟩ | ⟨_, h, h'⟩ <;> omega
  · have : d = e.d := by simpa [PEl.dat] using hd
    rw [this]
    exact hv
end Go.Proofs.Ytkgnlloioaobiaa
namespace Go.Proofs.Ytkgnlloioaobiaa
open Go.RowKit
section
variable {α : Type} (f : List (List CD) → α → Int × List (List CD))
def stick (r : Int × List (List CD)) (x : α) : Int × List (List CD) := if r.1 ≠ 0 then r else f r.2 x
def foldE (l : List α) (us : List (List CD)) : Int × List (List CD) := l.foldl (stick f) (0, us)
variable {f}
theorem stick_stuck {r : Int × List (List CD)} (h : r.1 ≠ 0) : ∀ l : List α, l.foldl (stick f) r = r
  | [] => rfl
  | d :: l => by
    rw [List.foldl_cons, show stick f r d = r from if_pos h]
    exact stick_stuck h l
theorem fold_stuck {l l' : List α} {us : List (List CD)} (h : (foldE f l us).1 ≠ 0) : foldE f (l ++ l') us = foldE f l us := by
  unfold foldE at h ⊢
  rw [List.foldl_append]
  exact stick_stuck h l'
theorem fold_next {l : List α} {us vs : List (List CD)} (h : foldE f l us = (0, vs)) (x : α) : foldE f (l ++ [x]) us = f vs x := by
  unfold foldE at h ⊢
  rw [List.foldl_append, h]
  show stick f (0, vs) x = _
  unfold stick
  exact if_neg (show ¬ ((0 : Int) ≠ 0) by decide)
theorem fold_take {l : List α} {us vs : List (List CD)} {i : Nat} {x : α} (hx : l[i]? = some x) (h : foldE f (l.take i) us = (0, vs)) : foldE f (l.take (i + 1)) us = f vs x := by
  rw [List.take_add_one, hx]
  exact fold_next h x
theorem fold_fail {l : List α} {us : List (List CD)} {i : Nat} {r : Int × List (List CD)} (h : foldE f (l.take i) us = r) (h0 : r.1 ≠ 0) : foldE f l us = r := by
  have := fold_stuck (f := f) (l := l.take i) (l' := l.drop i) (us := us) (by rw [h]; exact h0)
  rw [List.take_append_drop, h] at this
  exact this
theorem fold_good {P : List (List CD) → Prop} {l : List α} {us : List (List CD)} (h0 : P us) (hf : ∀ x ∈ l, ∀ us, P us → P (f us x).2) : P (foldE f l us).2 := by
  unfold foldE
  have key : ∀ (l : List α) (r : Int × List (List CD)), (∀ x ∈ l, ∀ us, P us → P (f us x).2) → P r.2 → P (l.foldl (stick f) r).2 := by
    intro l
    induction l with
    | nil => intro r _ h; exact h
    | cons a l ih =>
      intro r hl h
      rw [List.foldl_cons]
      refine ih _ (fun x hx => hl x (List.mem_cons_of_mem _ hx)) ?_
      unfold stick
      split
      · exact h
      · exact hl a (List.mem_cons_self ..) _ h
  exact key l (0, us) hf h0
end
def GoodU (n : Nat) (us : List (List CD)) : Prop := (∀ u ∈ us, (∀ d ∈ u, ValidD n d) ∧ u.length ≤ 96) ∧ us.length ≤ 400
def KindsOk (n : Nat) (ds : List CD) : Prop := ∀ d ∈ ds, KindOk d.q d.M ∧ d.xs.length = n
theorem ValidD.kind {n : Nat} {d : CD} (h : ValidD n d) : KindOk d.q d.M ∧ d.xs.length = n := ⟨validC_ok h.1, h.2⟩
theorem keep_good {n : Nat} {us : List (List CD)} {d : List CD} (h : GoodU n us) (hd : (∀ x ∈ d, ValidD n x) ∧ d.length ≤ 96) : GoodU n (keepD us d).2 := by
  unfold keepD
  split
  · exact h
  · split
    · exact h
    · rename_i h1 h2
      refine ⟨fun u hu => ?_, by rw [List.length_append]; have := h.2; simp; omega⟩
      rcases List.mem_append.1 hu with hu | hu
      · exact h.1 u hu
      · rw [List.mem_singleton.1 hu]; exact hd
theorem add_good {n : Nat} {us : List (List CD)} {ds : List CD} (h : GoodU n us) (hd : KindsOk n ds) : GoodU n (addD n us ds).2 := by
  unfold addD
  split
  · exact h
  · exact keep_good h (piece_valid hd)
theorem gather_fold (n : Nat) (l : List (List CD)) : gatherD n l = foldE (addD n) l [] := rfl
theorem gather_good {n : Nat} {l : List (List CD)} (hl : ∀ ds ∈ l, KindsOk n ds) : GoodU n (gatherD n l).2 := by
  rw [gather_fold]
  exact fold_good (P := GoodU n) ⟨(fun u h => nomatch h), by simp⟩ fun x hx us h => add_good h (hl x hx)
def cutOne (n : Nat) (p c : List CD) (us : List (List CD)) (i : Nat) : Int × List (List CD) :=
  match c[i]? with
  | some d => if negE d.q d.M n d.xs d.K ≠ 0 then (negE d.q d.M n d.xs d.K, us) else foldE (fun us z => addD n us (p ++ (c.take i ++ [z]))) (negL d.q d.M n d.xs d.K) us
  | none => (0, us)
def withOne (n : Nat) (c : List CD) (us : List (List CD)) (p : List CD) : Int × List (List CD) :=
  if (pieceD n (p ++ c)).2.2 ≠ 0 then ((pieceD n (p ++ c)).2.2, us) else if (pieceD n (p ++ c)).2.1 = true then keepD us p else foldE (cutOne n p c) (List.range c.length) us
def withoutD (n : Nat) (ps : List (List CD)) (c : List CD) : Int × List (List CD) := foldE (withOne n c) ps []
def minusD (n : Nat) (ps qs : List (List CD)) : Int × List (List CD) :=
  if (gatherD n ps).1 ≠ 0 then ((gatherD n ps).1, []) else if (gatherD n qs).1 ≠ 0 then ((gatherD n qs).1, []) else foldE (withoutD n) (gatherD n qs).2 (gatherD n ps).2
def awA : List (List CD) := [[⟨0, 0, [1], 0⟩, ⟨0, 0, [-1], 5⟩]]
def awB : List (List CD) := [[⟨0, 0, [1], -2⟩, ⟨0, 0, [-1], 3⟩]]
theorem aw_minus : minusD 1 awA awB = (0, [[⟨0, 0, [-1], 5⟩, ⟨0, 0, [1], -4⟩], [⟨0, 0, [-1], 1⟩, ⟨0, 0, [1], 0⟩]]) := by kernel_rfl
theorem aw_three : gatherD 1 [[⟨0, 0, [1], -3⟩, ⟨0, 0, [-1], 3⟩]] = (0, [[⟨1, 0, [1], -3⟩]]) := by kernel_rfl
end Go.Proofs.Ytkgnlloioaobiaa
namespace Go.Proofs.Ytkgnlloioaobiaa
open Go.RowKit
theorem out_valid0 {n : Nat} {ds : List CD} (hn : n ≤ 12) (h : ∀ d ∈ ds, OppOk n d) (hb : ds.any (negBad n) = false) : ∀ d ∈ negOut n ds, validC d.q d.M d.xs d.K = true ∧ d.xs.length = n := by
  intro d hd
  obtain ⟨d0, hd0, hd⟩ := List.mem_flatMap.1 hd
  obtain ⟨h1, h2, h3, h4⟩ := h d0 hd0
  have hbad : negBad n d0 = false := by
    rw [List.any_eq_false] at hb
    simpa using hb d0 hd0
  unfold negOne at hd
  split at hd
  · rename_i hs
    rw [List.mem_singleton.1 hd]
    have hs' : (nf d0.q d0.M n d0.xs d0.K).2.2.2.2 = 0 := hs
    have hi := (nf_idem h4 h1 hs').1
    have hvb : validB (nf d0.q d0.M n d0.xs d0.K).2.2.1 (nf d0.q d0.M n d0.xs d0.K).2.2.2.1 = true := by
      unfold negBad at hbad
      rw [show decide ((nfD n d0).2.2.2.2 = 0) = true by simpa using hs, Bool.true_and] at hbad
      simpa [nfD] using hbad
    refine ⟨?_, hi⟩
    show validC (nf d0.q d0.M n d0.xs d0.K).1 (nf d0.q d0.M n d0.xs d0.K).2.1 (nf d0.q d0.M n d0.xs d0.K).2.2.1 (nf d0.q d0.M n d0.xs d0.K).2.2.2.1 = true
    unfold validC
    rw [hvb, Bool.true_and]
    rcases nf_case (K := d0.K) h4 h1 with ⟨s, hs'', h, hh⟩ | ⟨g, _, hg, h, _, _⟩ | ⟨D, _, hD, h, _, _, _, _⟩ | ⟨h, hq, h0, hM, hne, e, _, _, _⟩
    · rw [h] at hs'; exfalso; rcases hs'' with rfl | rfl <;> cases hs'
    · rw [h]; rfl
    · rw [h]; rfl
    · rw [e]
      rcases h1 with h1 | h1 | ⟨_, h1, h2⟩
      · rw [hq] at h1; cases h1
      · rw [hq] at h1; cases h1
      · have hM' := Int.ediv_mul_cancel hM
        have m3 := Int.ediv_le_self (h : Int) (show 0 ≤ d0.M by omega)
        have hm : 1 ≤ d0.M / (h : Int) := by
          rcases Int.lt_or_le (d0.M / (h : Int)) 1 with hlt | hge
          · have m4 := Int.ediv_nonneg (show 0 ≤ d0.M by omega) (show (0 : Int) ≤ h by omega)
            have : d0.M / (h : Int) = 0 := by omega
            rw [this] at hM'; omega
          · exact hge
        simp; omega
  · split at hd
    · rw [List.mem_singleton.1 hd]
      refine ⟨?_, zeros_len n⟩
      show validC 0 0 (zeros n) 0 = true
      unfold validC
      rw [validB_true.2 ⟨by rw [zeros_len]; exact hn, by decide, fun x hx => by rw [List.eq_of_mem_replicate hx]; decide⟩]
      rfl
    · cases hd
theorem neg_valid {q M : Int} {n : Nat} {xs : List Int} {K : Int} (hn : n ≤ 12) (hv : validC q M xs K = true) (hl : xs.length = n) : ∀ d ∈ negL q M n xs K, ValidD n d := fun d hd => by
  unfold negL at hd
  rw [if_pos hv] at hd
  split at hd
  · cases hd
  · rename_i hf
    unfold negFull at hf
    have hb : (oppL q M n xs K).any (negBad n) = false := by
      cases h : (oppL q M n xs K).any (negBad n)
      · rfl
      · rw [h] at hf; exact absurd rfl hf
    exact out_valid0 hn (opp_ok hv).1 hb d hd
end Go.Proofs.Ytkgnlloioaobiaa
namespace Go.Proofs.Ytkgnlloioaobiaa
open Go.RowKit Go.Shelf
theorem gather_fail {n : Nat} {w w' : World} {D : Int} {r : Int × List (List CD)} {er : Int} (hr : r.1 = er) (h0 : er ≠ 0) (hb : Below w.heap.size w w') : GatherRet n w (.returned (.tuple #[setV 0 none 0 0, .int .i64 er])) w' D r := by
  subst hr
  refine ⟨none, 0, 0, [], by rw [if_pos h0], ⟨rfl, by omega, fun h => absurd h (by omega), (fun p h => nomatch h)⟩, (fun p h => nomatch h), by rw [if_pos h0]; rfl, fun h => absurd h (by omega), hb⟩
theorem wd_fail {n : Nat} {cd : List CD} {l : List (List CD)} {wd r : Int × List (List CD)} {i : Nat} {er : Int} (hw : withoutD n l cd = wd) (h : foldE (withOne n cd) (l.take (i + 1)) [] = r) (hr : r.1 = er) (h0 : er ≠ 0) : wd.1 = er := by
  rw [← hw]
  unfold withoutD
  rw [fold_fail h (by rw [hr]; exact h0), hr]
set_option maxHeartbeats 8000000 in
theorem set_without {n : Nat} (hn : n ≤ 12) (D : Int) (A : Option Addr) (k c : Nat) (ps : List PEl) (B : Option Addr) (m c' : Nat) (els : List CEl) (w : World) (P0 : PiecesAt w A k ps) (hk : k ≤ 400) (hv : ∀ p ∈ ps, PieceV n w p) (hq : PieceV n w ⟨B, m, c', els⟩) :
    Calls Try.prog 53 #[setV D A k c, .slice B m c'] w fun e w' => GatherRet n w e w' D (withoutD n (ps.map PEl.dat) (els.map CEl.d)) := by
  have HV := Lib.hid hv
  have HQ := Lib.hid hq
  have HLP := Lib.hid P0.len
  obtain ⟨cd, hcd⟩ : ∃ cd, els.map CEl.d = cd := ⟨_, rfl⟩
  rw [hcd]
  have HCD := Lib.hid hcd
  obtain ⟨wd, hwd⟩ : ∃ wd, withoutD n (ps.map PEl.dat) cd = wd := ⟨_, rfl⟩
  rw [hwd]
  have HWD := Lib.hid hwd
  have B0 := (below_alloc w (.cells #[.int .i64 D, .slice A k c] 24))
  have B1 := SetBox.new w D A k c
  have B2 := B1.alloc (.cells #[.int .i64 0, .slice none 0 0] 24)
  have X2 := SetBox.new (w.alloc (.cells #[.int .i64 D, .slice A k c] 24)) 0 none 0 0
  rw [World.size_alloc] at X2
  have hb := below_step B0 (below_alloc _ (.cells #[.int .i64 0, .slice none 0 0] 24))
  have hs0 : ((w.alloc (.cells #[.int .i64 D, .slice A k c] 24)).alloc (.cells #[.int .i64 0, .slice none 0 0] 24)).heap.size = w.heap.size + 2 := by simp
  clear hv hq hcd hwd B0 B1
  go_enter Try.func53, Try.ntmps53
  go_wp2
  go_step3
  go_wp2_with (go_at_call 77; refine (union_new n _).mono ?_; rintro e w1 ⟨⟨b, r, rfl, U1⟩, hb1⟩; rw [hs0] at U1; replace hb := below_step hb hb1; replace B2 := B2.step hb1; replace X2 := X2.step hb1; have x0 := B2.c0; have x1 := B2.c1)
  go_step3
  go_wp2
  go_loopg [24] k (fun g v wr => ∃ i : Nat, i + g = k ∧ v = .int .i64 i ∧ (∃ u us, UN n (w.heap.size + 2) wr b u r us ∧ foldE (withOne n cd) ((ps.map PEl.dat).take i) [] = (0, us.map PEl.dat)) ∧ (SetBox wr w.heap.size D A k c ∧ SetBox wr (w.heap.size + 1) 0 none 0 0) ∧ Below w.heap.size w wr)
  case atStart => exact ⟨0, by omega, rfl, ⟨_, [], U1, rfl⟩, ⟨B2, X2⟩, hb⟩
  case round =>
    clear B2 X2 hb x0 x1 U1 hb1
    obtain ⟨i, hig, rfl, ⟨u, us, hU, hF⟩, ⟨B2, X2⟩, hbr⟩ := hrel
    have HF := Lib.hid hF
    clear hF
    cases gk with
    | succ g =>
      have hlt : i < k := by omega
      obtain ⟨b1, off1, p, hA, hblt, hpj, hmem, hcell, hCp⟩ := (P0.step hbr).at hlt
      have hVp := (HV.out p hmem).step hbr
      have HT := Lib.hid (fold_take (f := withOne n cd) (us := []) (i := i) (x := p.dat) (l := ps.map PEl.dat) (by rw [List.getElem?_map, hpj]; rfl) HF.out)
      have hVq := HQ.out.step hbr
      have HMP := Lib.hid hmem
      obtain ⟨q1, hq1⟩ : ∃ q1, pieceD n (p.dat ++ cd) = q1 := ⟨_, rfl⟩
      have HP1 := Lib.hid hq1
      obtain ⟨l1, vd, er⟩ := q1
      obtain ⟨pA, pn, pc, pels⟩ := p
      simp only at hcell
      have b5 := below_alloc wr (.cells #[.slice pA pn pc, .slice B m c'] 40)
      have hG := heap_alloc_new wr (.cells #[.slice pA pn pc, .slice B m c'] 40)
      have HJ := Lib.hid (joined (n := n) (ps := [⟨pA, pn, pc, pels⟩, ⟨B, m, c', els⟩]) 2 2 rfl hG (fun x hx => by
        rcases List.mem_cons.1 hx with rfl | hx
        · exact hVp.step b5
        · rw [List.mem_singleton.1 hx]; exact hVq.step b5) (by simp))
      have HPR := Lib.hid (fun W k9 A9 c9 (hC : CondsAt W A9 k9 ([(⟨pA, pn, pc, pels⟩ : PEl), ⟨B, m, c', els⟩].flatMap PEl.els)) (h9 : k9 ≤ 1000) => wide_piece (n := n) (c := c9) W hC (fun e he => by
        simp only [List.flatMap_cons, List.flatMap_nil, List.append_nil] at he
        rcases List.mem_append.1 he with he | he
        · exact hVp.pre e he
        · exact hVq.pre e he) h9)
      have HDD := Lib.hid (show pieceD n (([(⟨pA, pn, pc, pels⟩ : PEl), ⟨B, m, c', els⟩].flatMap PEl.els).map CEl.d) = (l1, vd, er) by
        rw [← hq1, ← HCD.out]
        simp [PEl.dat])
      have HU := Lib.hid hU
      have HVP := Lib.hid hVp
      have HVQ := Lib.hid hVq
      have hqq : (i : Int) < k := by omega
      subst hA
      clear hq1 hCp hmem hpj hVp hVq hU b5 hG
      by_cases h0 : er = 0
      · subst h0
        cases vd
        · have HWR := Lib.hid (show w.heap.size + 2 ≤ wr.heap.size from X2.lt)
          obtain ⟨pd, hpd⟩ : ∃ pd, (⟨pA, pn, pc, pels⟩ : PEl).dat = pd := ⟨_, rfl⟩
          have HPD := Lib.hid hpd
          have HT2 := Lib.hid (show foldE (withOne n cd) ((ps.map PEl.dat).take (i + 1)) [] = foldE (cutOne n pd cd) (List.range cd.length) (us.map PEl.dat) by
            rw [HT.out]
            unfold withOne
            rw [HP1.out, if_neg (show ¬ ((0 : Int) ≠ 0) by decide), if_neg (by simp), hpd])
          clear hpd
          go_wp2_with (first
            | (go_at_call 58; refine HJ.out.mono ?_; rintro e w3 ⟨A3, k3, c3, rfl, hC3, hk3, hb3⟩; have hb4 := (below_alloc wr (.cells #[.slice pA pn pc, .slice B m c'] 40)).trans (hb3.mono (below_alloc wr (.cells #[.slice pA pn pc, .slice B m c'] 40)).size))
            | (go_at_call 49; refine (HPR.out w3 k3 A3 c3 hC3 hk3).mono ?_; rw [HDD.out]; rintro e w4 ⟨A4, k4, c4, l4, rfl, hL4, hd4, hn4, hb5⟩; have hb6 := below_step hb4 hb5; have U4 := HU.out.step hb6; have X4 := X2.step hb6; have B4 := B2.step hb6; have hbw := hbr.trans (hb6.mono hbr.size); clear hb4 hb5 hb6 hb3 hC3 hL4 hd4 hn4))
          have HQL := Lib.hid (show els.length = m from HQ.out.1.1.conds.len)
          have hm9 : m ≤ 1000 := HQ.out.1.2.2.1
          go_loopg [51] m (fun g2 v wx => ∃ j : Nat, j + g2 = m ∧ v = .int .i64 j ∧ (∃ u us2, UN n (w.heap.size + 2) wx b u r us2 ∧ foldE (cutOne n pd cd) ((List.range cd.length).take j) (us.map PEl.dat) = (0, us2.map PEl.dat)) ∧ (SetBox wx w.heap.size D (some ⟨b1, off1, none⟩) k c ∧ SetBox wx (w.heap.size + 1) 0 none 0 0) ∧ Below w.heap.size w wx)
          case atStart => exact ⟨0, by omega, rfl, ⟨_, us, U4, rfl⟩, ⟨B4, X4⟩, hbw⟩
          case round =>
            clear U4 X4 B4 hbw
            obtain ⟨j, hjg, rfl, ⟨u2, us2, hU2, hF2⟩, ⟨B6, X6⟩, hbx⟩ := hrel
            have HF2 := Lib.hid hF2
            clear hF2
            cases gk with
            | zero =>
              obtain rfl : j = m := by omega
              have hge : ¬ ((j : Int) < j) := by omega
              have HE2 := Lib.hid (show foldE (withOne n cd) ((ps.map PEl.dat).take (i + 1)) [] = (0, us2.map PEl.dat) by
                rw [HT2.out, ← HF2.out, List.take_of_length_le (by rw [List.length_range, ← HCD.out, List.length_map, HQL.out]; exact Nat.le_refl _)])
              go_wp2
              go_roundg g
              case measure => omega
              case rel => exact ⟨i + 1, by omega, by go_num, ⟨u2, us2, hU2, HE2.out⟩, ⟨B6, X6⟩, hbx⟩
            | succ g2 =>
              have hlt2 : j < m := by omega
              have hVq := HQ.out.step hbx
              obtain ⟨b2, off2, e, hB, hblt2, hej, hmem, hcs, hin⟩ := hVq.1.1.conds.at hlt2
              obtain ⟨x0, x1, x2, x3⟩ := hcs
              have hen := (hVq.1.2.1 e hmem).2.1
              have HVE := Lib.hid (hVq.2.1 e.d (List.mem_map.2 ⟨e, hmem, rfl⟩))
              have HEJ := Lib.hid hej
              obtain ⟨eq, eM, eA, en, ec, eK, exs⟩ := e
              simp only at x0 x1 x2 x3 hin hen
              subst hen
              have hq2 : (j : Int) < m := by omega
              have b5 := below_alloc wr (.cells #[.int .i64 eq, .int .i64 eM, .slice eA en ec, .int .i64 eK] 55)
              have y1 := hin.step b5
              have X1 := CBox.new wr eq eM eA en ec eK
              obtain ⟨er, her⟩ : ∃ er, negE eq eM en exs eK = er := ⟨_, rfl⟩
              have HER := Lib.hid her
              have HT3 := Lib.hid (fold_take (f := cutOne en pd cd) (l := List.range cd.length) (i := j) (x := j) (List.getElem?_range (by rw [← HCD.out, List.length_map, HQL.out]; exact hlt2)) HF2.out)
              have HCJ := Lib.hid (show cd[j]? = some ⟨eq, eM, exs, eK⟩ by rw [← HCD.out, List.getElem?_map, hej]; rfl)
              have hbx1 := hbx.trans (b5.mono hbx.size)
              subst hB
              clear hej hmem hVq hin her
              by_cases h0 : er = 0
              · subst h0
                obtain ⟨nl, hnl⟩ : ∃ nl, negL eq eM en exs eK = nl := ⟨_, rfl⟩
                have HNL := Lib.hid hnl
                have HT4 := Lib.hid (show foldE (cutOne en pd cd) ((List.range cd.length).take (j + 1)) (us.map PEl.dat) = foldE (fun us z => addD en us (pd ++ (cd.take j ++ [z]))) nl (us2.map PEl.dat) by
                  rw [HT3.out]
                  unfold cutOne
                  rw [HCJ.out]
                  simp only [HER.out, HNL.out]
                  rw [if_neg (show ¬ ((0 : Int) ≠ 0) by decide)])
                clear hnl
                go_wp2_with (go_at_call 79; refine (cond_neg eq eM eA en ec eK exs _ y1).mono ?_; rw [HER.out, HNL.out]; rintro e w4 ⟨ul, els3, rfl, hL3, hd3, hn3, hbn⟩; have hb9 := hbx1.trans (hbn.mono hbx1.size); have X4 := (X6.step b5).step hbn; have B4 := (B6.step b5).step hbn; have U4 := (hU2.step b5).step hbn; obtain ⟨lA, lc, rfl⟩ := hL3.slice; have HL3 := Lib.hid (And.intro hL3 (And.intro hd3 hn3)); have hfew3 := hL3.few; clear hL3 hd3 hn3)
                go_loopg [67] els3.length (fun g3 v wz => ∃ z : Nat, z + g3 = els3.length ∧ v = .int .i64 z ∧ (∃ u us3, UN en (w.heap.size + 2) wz b u r us3 ∧ foldE (fun us z => addD en us (pd ++ (cd.take j ++ [z]))) (nl.take z) (us2.map PEl.dat) = (0, us3.map PEl.dat)) ∧ (SetBox wz w.heap.size D (some ⟨b1, off1, none⟩) k c ∧ SetBox wz (w.heap.size + 1) 0 none 0 0) ∧ KeepU w4 wz ∧ Below w.heap.size w wz)
                case atStart => exact ⟨0, by omega, rfl, ⟨_, us2, U4, rfl⟩, ⟨B4, X4⟩, KeepU.refl _, hb9⟩
                case round =>
                  clear U4 X4 B4
                  obtain ⟨z, hzg, rfl, ⟨u3, us3, hU3, hF3⟩, ⟨B8, X8⟩, hku, hbz⟩ := hrel
                  have HF3 := Lib.hid hF3
                  clear hF3
                  cases gk with
                  | zero =>
                    have hge : ¬ ((z : Int) < (els3.length : Nat)) := by omega
                    have HE3 := Lib.hid (show foldE (cutOne en pd cd) ((List.range cd.length).take (j + 1)) (us.map PEl.dat) = (0, us3.map PEl.dat) by
                      have h5 := HF3.out
                      rw [show nl.take z = nl from List.take_of_length_le (by rw [← HL3.out.2.1, List.length_map]; omega)] at h5
                      rw [HT4.out]
                      exact h5)
                    go_wp2
                    go_roundg g2
                    case measure => omega
                    case rel => exact ⟨j + 1, by omega, by go_num, ⟨u3, us3, hU3, HE3.out⟩, ⟨B8, X8⟩, hbz⟩
                  | succ g3 =>
                    have hlt3 : z < els3.length := by omega
                    have hCV := CV.keep ((CV.of_cl HL3.out.1).mono (Nat.zero_le _) (Nat.zero_le _)) hku
                    obtain ⟨b3, off3, f, hB3, hblt3, hej3, hmem3, hcs3, hin3⟩ := hCV.conds.at hlt3
                    obtain ⟨v0, v1, v2, v3⟩ := hcs3
                    have hro3 := hCV.rows f hmem3
                    have hne3 := HL3.out.2.2 f hmem3
                    have hnv : ValidD en f.d := neg_valid hn HVE.out.1 HVE.out.2 f.d (by show f.d ∈ negL eq eM en exs eK; rw [HNL.out, ← HL3.out.2.1]; exact List.mem_map.2 ⟨f, hmem3, rfl⟩)
                    have HT5 := Lib.hid (fold_take (f := fun us z => addD en us (pd ++ (cd.take j ++ [z]))) (l := nl) (i := z) (x := f.d) (by rw [← HL3.out.2.1, List.getElem?_map, hej3]; rfl) HF3.out)
                    have hq3 : (z : Int) < (els3.length : Nat) := by omega
                    have HFD := Lib.hid (And.intro hro3 (And.intro hne3 hnv))
                    obtain ⟨fq, fM, fA, fn, fc, fK, fxs⟩ := f
                    simp only at v0 v1 v2 v3 hin3
                    have X18 := CBox.new wr fq fM fA fn fc fK
                    have b18 := below_alloc wr (.cells #[.int .i64 fq, .int .i64 fM, .slice fA fn fc, .int .i64 fK] 55)
                    have hbz1 := hbz.trans (b18.mono hbz.size)
                    have HVP3 := Lib.hid ((HV.out _ HMP.out).step hbz1)
                    have HVQ3 := Lib.hid (PieceV.take (HQ.out.step hbz1) (Nat.le_of_lt hlt2) c' HQ.out.1.2.2.2.1.1 (Nat.le_trans (Nat.le_of_lt hlt2) HQ.out.1.2.2.2.2))
                    have hin4 := hin3.step b18
                    have U8 := hU3.step b18
                    have X9 := X8.step b18
                    have B9 := B8.step b18
                    have g0 := X18.c0
                    have g1 := X18.c1
                    have g2' := X18.c2
                    have g3' := X18.c3
                    subst hB3
                    clear hej3 hmem3 hin3 hro3 hne3 hnv hCV
                    have hj5 : (j : Int) ≤ c' := by have := HQ.out.1.2.2.2.2; simp only at this; omega
                    have hj6 : (m : Int) ≤ c' := by have := HQ.out.1.2.2.2.2; simp only at this; omega
                    have hj7 : (j : Int) ≤ m := by omega
                    go_wp2
                    have hs18 : (wr.alloc (.cells #[.int .i64 fq, .int .i64 fM, .slice fA fn fc, .int .i64 fK] 55)).heap.size = wr.heap.size + 1 := by simp
                    generalize wr.alloc (.cells #[.int .i64 fq, .int .i64 fM, .slice fA fn fc, .int .i64 fK] 55) = W0 at *
                    have hB1 := below_alloc W0 (.cells #[.int .i64 fq, .int .i64 fM, .slice fA fn fc, .int .i64 fK] 55)
                    have hB2 := below_alloc (W0.alloc (.cells #[.int .i64 fq, .int .i64 fM, .slice fA fn fc, .int .i64 fK] 55)) (.cells #[.slice pA pn pc, .slice (some ⟨b2, off2, none⟩) j c', .slice (some ⟨wr.heap.size + 1, 0, none⟩) 1 1] 40)
                    have hdr := (Below.refl ((W0.alloc (.cells #[.int .i64 fq, .int .i64 fM, .slice fA fn fc, .int .i64 fK] 55)).alloc (.cells #[.slice pA pn pc, .slice (some ⟨b2, off2, none⟩) j c', .slice (some ⟨wr.heap.size + 1, 0, none⟩) 1 1] 40)).heap.size ((W0.alloc (.cells #[.int .i64 fq, .int .i64 fM, .slice fA fn fc, .int .i64 fK] 55)).alloc (.cells #[.slice pA pn pc, .slice (some ⟨b2, off2, none⟩) j c', .slice (some ⟨wr.heap.size + 1, 0, none⟩) 1 1] 40))).drew
                    have hB12 := below_step (below_step hB1 hB2) hdr
                    have hG1 : (W0.alloc (.cells #[.int .i64 fq, .int .i64 fM, .slice fA fn fc, .int .i64 fK] 55)).heap[wr.heap.size + 1]? = some (.cells (ccells [⟨fq, fM, fA, fn, fc, fK, fxs⟩]).toArray 55 (0, 0)) := by
                      rw [← hs18]
                      exact heap_alloc_new W0 _
                    have hONE := ((one_piece hG1 (hin4.step hB1) ((HFD.out.1.step b18).step hB1) HFD.out.2.1 HFD.out.2.2).step hB2).step hdr
                    have HJ3 := Lib.hid (joined (n := en) (w := ((W0.alloc (.cells #[.int .i64 fq, .int .i64 fM, .slice fA fn fc, .int .i64 fK] 55)).alloc (.cells #[.slice pA pn pc, .slice (some ⟨b2, off2, none⟩) j c', .slice (some ⟨wr.heap.size + 1, 0, none⟩) 1 1] 40)).drew) (g := wr.heap.size + 2) (ps := [⟨pA, pn, pc, pels⟩, ⟨some ⟨b2, off2, none⟩, j, c', els.take j⟩, ⟨some ⟨wr.heap.size + 1, 0, none⟩, 1, 1, [⟨fq, fM, fA, fn, fc, fK, fxs⟩]⟩]) 3 3 rfl (by
                      have h5 := heap_alloc_new (W0.alloc (.cells #[.int .i64 fq, .int .i64 fM, .slice fA fn fc, .int .i64 fK] 55)) (.cells #[.slice pA pn pc, .slice (some ⟨b2, off2, none⟩) j c', .slice (some ⟨wr.heap.size + 1, 0, none⟩) 1 1] 40)
                      rw [World.size_alloc, hs18] at h5
                      exact (hdr.block _ (by simp [hs18])).trans h5) (fun x hx => by
                      rcases List.mem_cons.1 hx with rfl | hx
                      · exact HVP3.out.step hB12
                      · rcases List.mem_cons.1 hx with rfl | hx
                        · exact HVQ3.out.step hB12
                        · rw [List.mem_singleton.1 hx]; exact hONE) (by simp))
                    obtain ⟨aw, haw⟩ : ∃ aw, addD en (us3.map PEl.dat) (([(⟨pA, pn, pc, pels⟩ : PEl), ⟨some ⟨b2, off2, none⟩, j, c', els.take j⟩, ⟨some ⟨wr.heap.size + 1, 0, none⟩, 1, 1, [⟨fq, fM, fA, fn, fc, fK, fxs⟩]⟩].flatMap PEl.els).map CEl.d) = aw := ⟨_, rfl⟩
                    obtain ⟨er5, l5⟩ := aw
                    have HAW := Lib.hid haw
                    have HT6 := Lib.hid (show foldE (fun us z => addD en us (pd ++ (cd.take j ++ [z]))) (nl.take (z + 1)) (us2.map PEl.dat) = (er5, l5) by
                      rw [HT5.out, ← haw, ← HPD.out, ← HCD.out]
                      simp [PEl.dat, List.map_take])
                    have HPRE := Lib.hid (fun e (he : e ∈ [(⟨pA, pn, pc, pels⟩ : PEl), ⟨some ⟨b2, off2, none⟩, j, c', els.take j⟩, ⟨some ⟨wr.heap.size + 1, 0, none⟩, 1, 1, [⟨fq, fM, fA, fn, fc, fK, fxs⟩]⟩].flatMap PEl.els) => show PreB en e by
                      obtain ⟨x, hx, he⟩ := List.mem_flatMap.1 he
                      rcases List.mem_cons.1 hx with rfl | hx
                      · exact HVP3.out.pre e he
                      · rcases List.mem_cons.1 hx with rfl | hx
                        · exact HVQ3.out.pre e he
                        · rw [List.mem_singleton.1 hx] at he; exact hONE.pre e he)
                    have HUU := Lib.hid (U8.step hB12)
                    have HB12 := Lib.hid hB12
                    have hN8 : w.heap.size + 2 ≤ W0.heap.size := by have := X9.lt; omega
                    have HN8 := Lib.hid (Nat.le_trans hN8 hB12.size)
                    have HC1 := Lib.hid (fun W (hb : Below (((W0.alloc (.cells #[.int .i64 fq, .int .i64 fM, .slice fA fn fc, .int .i64 fK] 55)).alloc (.cells #[.slice pA pn pc, .slice (some ⟨b2, off2, none⟩) j c', .slice (some ⟨wr.heap.size + 1, 0, none⟩) 1 1] 40)).drew).heap.size (((W0.alloc (.cells #[.int .i64 fq, .int .i64 fM, .slice fA fn fc, .int .i64 fK] 55)).alloc (.cells #[.slice pA pn pc, .slice (some ⟨b2, off2, none⟩) j c', .slice (some ⟨wr.heap.size + 1, 0, none⟩) 1 1] 40)).drew) W) => (show CBox W wr.heap.size fq fM fA fn fc fK from (X18.step HB12.out).step hb))
                    have HC2 := Lib.hid (fun W W' (X : CBox W wr.heap.size fq fM fA fn fc fK) (hk : KeepUR r W W') => (show CBox W' wr.heap.size fq fM fA fn fc fK from hk.u.rows _ _ _ _ X (.inl rfl)))
                    have hn100 : en ≤ 100 := by omega
                    have HS := Lib.hid (fun W (X : CBox W wr.heap.size fq fM fA fn fc fK) => (⟨X.c0, X.c1, X.c2, X.c3⟩ : W.cell? ⟨wr.heap.size, 0, none⟩ = some (.int .i64 fq) ∧ W.cell? ⟨wr.heap.size, 1, none⟩ = some (.int .i64 fM) ∧ W.cell? ⟨wr.heap.size, 2, none⟩ = some (.slice fA fn fc) ∧ W.cell? ⟨wr.heap.size, 3, none⟩ = some (.int .i64 fK)))
                    have HSA := Lib.hid (HS.out _ (X18.step (Below.refl _ W0).drew))
                    have HSB := Lib.hid (HS.out _ ((X18.alloc (.cells #[.int .i64 fq, .int .i64 fM, .slice fA fn fc, .int .i64 fK] 55)).step (Below.refl _ (W0.alloc (.cells #[.int .i64 fq, .int .i64 fM, .slice fA fn fc, .int .i64 fK] 55))).drew))
                    have HSC := Lib.hid (HS.out _ (X18.step HB12.out))
                    clear haw hB12 hB1 hB2 hG1 hONE hdr U8 v0 v1 v2 v3 x0 x1 x2 x3 y1 hin4
                    by_cases h5 : er5 = 0
                    · subst h5
                      go_region_held3 (fun W => W.cell? ⟨wr.heap.size, 0, none⟩ = some (.int .i64 fq) ∧ W.cell? ⟨wr.heap.size, 1, none⟩ = some (.int .i64 fM) ∧ W.cell? ⟨wr.heap.size, 2, none⟩ = some (.slice fA fn fc) ∧ W.cell? ⟨wr.heap.size, 3, none⟩ = some (.int .i64 fK)) (first | with_reducible exact ⟨g0, g1, g2', g3'⟩ | with_reducible exact HSA.out | with_reducible exact HSB.out | with_reducible exact HSC.out | (trace_state; fail))
                        (first
                          | (go_at_call 58; refine HJ3.out.mono ?_; rintro e w5 ⟨A5, k5, c5, rfl, hC5, hk5, hb5⟩; have X5 := HC1.out w5 hb5; clear g0 g1 g2' g3'; have g0 := X5.c0; have g1 := X5.c1; have g2' := X5.c2; have g3' := X5.c3; have UU := HUU.out.step hb5; have hN5 := Nat.le_trans HN8.out hb5.size)
                          | (go_at_call 80; refine (union_adds (c := c5) hn100 _ UU hC5 HPRE.out hk5 hN5 HAW.out).mono ?_; rintro e w6 ⟨rfl, ⟨u6, us6, hd6, U6⟩, hb6, hk6⟩; have X6 := HC2.out w5 w6 X5 hk6; clear g0 g1 g2' g3'; have g0 := X6.c0; have g1 := X6.c1; have g2' := X6.c2; have g3' := X6.c3))
                      rename_i hHeld
                      clear hHeld
                      have B10 := ((B9.step HB12.out).step hb5).below hb6 (by omega)
                      have X10 := ((X9.step HB12.out).step hb5).below hb6 (by omega)
                      have HK10 := Lib.hid (hku.trans ((KeepU.of_below b18).trans ((KeepU.of_below HB12.out).trans ((KeepU.of_below hb5).trans hk6.u))))
                      have HB10 := Lib.hid (((hbz1.trans (HB12.out.mono hbz1.size)).trans (hb5.mono (Nat.le_trans hbz1.size HB12.out.size))).trans (hb6.mono (by omega)))
                      have HR10 := Lib.hid (HT6.out.trans (congrArg (fun l => ((0 : Int), l)) hd6.symm))
                      go_wp2
                      go_roundg g3
                      case measure => omega
                      case rel => exact ⟨z + 1, by omega, by go_num, ⟨u6, us6, U6, HR10.out⟩, ⟨B10, X10⟩, HK10.out, HB10.out⟩
                    · have h0' : (er5 != 0) = true := by simpa using h5
                      have h0'' : (er5 == 0) = false := by simpa using h5
                      go_region_held3 (fun W => W.cell? ⟨wr.heap.size, 0, none⟩ = some (.int .i64 fq) ∧ W.cell? ⟨wr.heap.size, 1, none⟩ = some (.int .i64 fM) ∧ W.cell? ⟨wr.heap.size, 2, none⟩ = some (.slice fA fn fc) ∧ W.cell? ⟨wr.heap.size, 3, none⟩ = some (.int .i64 fK)) (first | with_reducible exact ⟨g0, g1, g2', g3'⟩ | with_reducible exact HSA.out | with_reducible exact HSB.out | with_reducible exact HSC.out | (trace_state; fail))
                        (first
                          | (go_at_call 58; refine HJ3.out.mono ?_; rintro e w5 ⟨A5, k5, c5, rfl, hC5, hk5, hb5⟩; have X5 := HC1.out w5 hb5; clear g0 g1 g2' g3'; have g0 := X5.c0; have g1 := X5.c1; have g2' := X5.c2; have g3' := X5.c3; have UU := HUU.out.step hb5; have hN5 := Nat.le_trans HN8.out hb5.size)
                          | (go_at_call 80; refine (union_adds (c := c5) hn100 _ UU hC5 HPRE.out hk5 hN5 HAW.out).mono ?_; rintro e w4 ⟨rfl, ⟨u6, us6, hd6, U6⟩, hb6, hk6⟩; have X6 := HC2.out w5 w4 X5 hk6; clear g0 g1 g2' g3'; have g0 := X6.c0; have g1 := X6.c1; have g2' := X6.c2; have g3' := X6.c3))
                      rename_i hHeld
                      clear hHeld
                      have X4 := ((X9.step HB12.out).step hb5).below hb6 (by omega)
                      have HB10 := Lib.hid (((hbz1.trans (HB12.out.mono hbz1.size)).trans (hb5.mono (Nat.le_trans hbz1.size HB12.out.size))).trans (hb6.mono (by omega)))
                      have z0 := X4.c0
                      have z1 := X4.c1
                      have f0 := X4.f 0
                      have f1 := X4.f 1
                      go_wp2
                      obtain ⟨X5, hb8⟩ := And.intro (X4.put 0 none 0 0) (below_put (w := w4) (N := w.heap.size) (b := w.heap.size + 1) (Nat.le_succ _) (.int .i64 0) (.slice none 0 0)); generalize (w4.setCell ⟨w.heap.size + 1, 0, none⟩ (.int .i64 0)).setCell ⟨w.heap.size + 1, 1, none⟩ (.slice none 0 0) = w5 at *; have y0 := X5.c0; have y1 := X5.c1; try rw [Exit.noGoto_ret]
                      refine bodyPost_ret (v := .tuple #[setV 0 none 0 0, .int .i64 er5]) (by simp [results, Try.results53, go_sem, y0, y1]) rfl ?_
                      have h7 : (foldE (cutOne en pd cd) ((List.range cd.length).take (j + 1)) (us.map PEl.dat)).1 = er5 := by
                        rw [HT4.out, fold_fail HT6.out h5]
                      exact gather_fail (wd_fail HWD.out HT2.out (by rw [fold_fail rfl (by rw [h7]; exact h5)]; exact h7) h5) h5 (HB10.out.trans hb8)
              · have h0' : (er != 0) = true := by simpa using h0
                have h0'' : (er == 0) = false := by simpa using h0
                go_wp2_with (go_at_call 79; refine (cond_neg eq eM eA en ec eK exs _ y1).mono ?_; rw [HER.out]; rintro e w4 ⟨ul, els3, rfl, _, _, _, hbn⟩; have hb9 := hbx1.trans (hbn.mono hbx1.size); have X4 := (X6.step b5).step hbn; have z0 := X4.c0; have z1 := X4.c1; have f0 := X4.f 0; have f1 := X4.f 1)
                obtain ⟨X5, hb8⟩ := And.intro (X4.put 0 none 0 0) (below_put (w := w4) (N := w.heap.size) (b := w.heap.size + 1) (Nat.le_succ _) (.int .i64 0) (.slice none 0 0)); generalize (w4.setCell ⟨w.heap.size + 1, 0, none⟩ (.int .i64 0)).setCell ⟨w.heap.size + 1, 1, none⟩ (.slice none 0 0) = w5 at *; have y0 := X5.c0; have y1 := X5.c1; try rw [Exit.noGoto_ret]
                refine bodyPost_ret (v := .tuple #[setV 0 none 0 0, .int .i64 er]) (by simp [results, Try.results53, go_sem, y0, y1]) rfl ?_
                have h7 : (foldE (cutOne en pd cd) ((List.range cd.length).take (j + 1)) (us.map PEl.dat)).1 = er := by
                  rw [HT3.out]
                  unfold cutOne
                  rw [HCJ.out]
                  simp only [HER.out]
                  rw [if_pos h0]
                exact gather_fail (wd_fail HWD.out HT2.out (by rw [fold_fail rfl (by rw [h7]; exact h0)]; exact h7) h0) h0 (hb9.trans hb8)
        · obtain ⟨kp, hkp⟩ : ∃ kp, keepP us ⟨pA, pn, pc, pels⟩ = kp := ⟨_, rfl⟩
          obtain ⟨ek, us2⟩ := kp
          have HW1 := Lib.hid (show withOne n cd (us.map PEl.dat) (⟨pA, pn, pc, pels⟩ : PEl).dat = (ek, us2.map PEl.dat) by
            unfold withOne
            rw [HP1.out]
            rw [if_neg (show ¬ ((0 : Int) ≠ 0) by decide), if_pos rfl, ← keep_dat, hkp])
          have HKP := Lib.hid hkp
          have HWR := Lib.hid (show w.heap.size + 2 ≤ wr.heap.size from X2.lt)
          clear hkp
          by_cases hek : ek = 0
          · subst hek
            go_wp2_with (first
              | (go_at_call 58; refine HJ.out.mono ?_; rintro e w3 ⟨A3, k3, c3, rfl, hC3, hk3, hb3⟩; have hb4 := (below_alloc wr (.cells #[.slice pA pn pc, .slice B m c'] 40)).trans (hb3.mono (below_alloc wr (.cells #[.slice pA pn pc, .slice B m c'] 40)).size))
              | (go_at_call 49; refine (HPR.out w3 k3 A3 c3 hC3 hk3).mono ?_; rw [HDD.out]; rintro e w4 ⟨A4, k4, c4, l4, rfl, hL4, hd4, hn4, hb5⟩; have hb6 := below_step hb4 hb5; have U4 := HU.out.step hb6; have V4 := HVP.out.step hb6)
              | (go_at_call 78; refine (union_keep (by omega) _ U4 ⟨pA, pn, pc, pels⟩ V4.1 (Nat.le_trans HWR.out hb6.size)).mono ?_; rw [HKP.out]; rintro e w5 ⟨⟨u5, rfl, U5⟩, hb7, hk7⟩))
            go_roundg g
            case measure => omega
            case rel => exact ⟨i + 1, by omega, by go_num, ⟨u5, us2, U5, HT.out.trans HW1.out⟩, ⟨((B2.step hb6).below hb7 (by omega)), ((X2.step hb6).below hb7 (by omega))⟩, hbr.trans ((hb6.mono hbr.size).trans (hb7.mono (by omega)))⟩
          · have h0' : (ek != 0) = true := by simpa using hek
            have h0'' : (ek == 0) = false := by simpa using hek
            go_wp2_with (first
              | (go_at_call 58; refine HJ.out.mono ?_; rintro e w3 ⟨A3, k3, c3, rfl, hC3, hk3, hb3⟩; have hb4 := (below_alloc wr (.cells #[.slice pA pn pc, .slice B m c'] 40)).trans (hb3.mono (below_alloc wr (.cells #[.slice pA pn pc, .slice B m c'] 40)).size))
              | (go_at_call 49; refine (HPR.out w3 k3 A3 c3 hC3 hk3).mono ?_; rw [HDD.out]; rintro e w9 ⟨A4, k4, c4, l4, rfl, hL4, hd4, hn4, hb5⟩; have hb6 := below_step hb4 hb5; have U4 := HU.out.step hb6; have V4 := HVP.out.step hb6)
              | (go_at_call 78; refine (union_keep (by omega) _ U4 ⟨pA, pn, pc, pels⟩ V4.1 (Nat.le_trans HWR.out hb6.size)).mono ?_; rw [HKP.out]; rintro e w4 ⟨⟨u5, rfl, U5⟩, hb7, hk7⟩; have X4 := (X2.step hb6).below hb7 (by omega); have z0 := X4.c0; have z1 := X4.c1; have f0 := X4.f 0; have f1 := X4.f 1))
            obtain ⟨X5, hb8⟩ := And.intro (X4.put 0 none 0 0) (below_put (w := w4) (N := w.heap.size) (b := w.heap.size + 1) (Nat.le_succ _) (.int .i64 0) (.slice none 0 0)); generalize (w4.setCell ⟨w.heap.size + 1, 0, none⟩ (.int .i64 0)).setCell ⟨w.heap.size + 1, 1, none⟩ (.slice none 0 0) = w5 at *; have y0 := X5.c0; have y1 := X5.c1; try rw [Exit.noGoto_ret]
            refine bodyPost_ret (v := .tuple #[setV 0 none 0 0, .int .i64 ek]) (by simp [results, Try.results53, go_sem, y0, y1]) rfl ?_
            exact gather_fail (wd_fail HWD.out HT.out (congrArg Prod.fst HW1.out) hek) hek (hbr.trans ((hb6.mono hbr.size).trans ((hb7.mono (by omega)).trans hb8)))
      · have h0' : (er != 0) = true := by simpa using h0
        have h0'' : (er == 0) = false := by simpa using h0
        go_wp2_with (first
          | (go_at_call 58; refine HJ.out.mono ?_; rintro e w3 ⟨A3, k3, c3, rfl, hC3, hk3, hb3⟩; have hb4 := (below_alloc wr (.cells #[.slice pA pn pc, .slice B m c'] 40)).trans (hb3.mono (below_alloc wr (.cells #[.slice pA pn pc, .slice B m c'] 40)).size))
          | (go_at_call 49; refine (HPR.out w3 k3 A3 c3 hC3 hk3).mono ?_; rw [HDD.out]; rintro e w4 ⟨A4, k4, c4, l4, rfl, hL4, hd4, hn4, hb5⟩; have hb6 := below_step hb4 hb5; have X4 := X2.step hb6; have z0 := X4.c0; have z1 := X4.c1; have f0 := X4.f 0; have f1 := X4.f 1))
        obtain ⟨X5, hb8⟩ := And.intro (X4.put 0 none 0 0) (below_put (w := w4) (N := w.heap.size) (b := w.heap.size + 1) (Nat.le_succ _) (.int .i64 0) (.slice none 0 0)); generalize (w4.setCell ⟨w.heap.size + 1, 0, none⟩ (.int .i64 0)).setCell ⟨w.heap.size + 1, 1, none⟩ (.slice none 0 0) = w5 at *; have y0 := X5.c0; have y1 := X5.c1; try rw [Exit.noGoto_ret]
        refine bodyPost_ret (v := .tuple #[setV 0 none 0 0, .int .i64 er]) (by simp [results, Try.results53, go_sem, y0, y1]) rfl ?_
        exact gather_fail (wd_fail HWD.out HT.out (by unfold withOne; rw [HP1.out]; exact congrArg Prod.fst (if_pos h0)) h0) h0 (hbr.trans ((hb6.mono hbr.size).trans hb8))
    | zero =>
      obtain rfl : i = k := by omega
      have hge : ¬ ((i : Int) < i) := by omega
      have HDN := Lib.hid (show wd = (0, us.map PEl.dat) by
        rw [← HWD.out]
        unfold withoutD
        rw [← HF.out, List.take_of_length_le (by rw [List.length_map, HLP.out]; exact Nat.le_refl _)])
      have x0 := B2.c0
      have x1 := B2.c1
      have HPC := Lib.hid (union_pieces (wr.drew) (hU.step (Below.refl _ wr).drew))
      have HU4 := Lib.hid hU
      obtain ⟨uA, uc, hu⟩ := hU.slice
      subst hu
      clear hU
      go_wp2
      have d0 := X2.c0
      have d1 := X2.c1
      have e0 := X2.f 0
      have e1 := X2.f 1
      go_region_held3 (fun W => W.cell? ⟨w.heap.size, 0, none⟩ = some (.int .i64 D)) (first | with_reducible exact x0 | go_keep)
        (first | (go_at_call 81; refine HPC.out.mono ?_; rintro e w3 ⟨rfl, rfl⟩))
      all_goals
        rename_i hHeld
        clear hHeld
        have X5 := (X2.put D uA us.length uc).step (Below.refl _ _).drew
        have hU5 := (((HU4.out.set (a := ⟨w.heap.size + 1, 0, none⟩) (by show w.heap.size + 1 < _; omega) X2 (by decide) (by decide) (by decide) (.int .i64 D)).set (a := ⟨w.heap.size + 1, 1, none⟩) (by show w.heap.size + 1 < _; omega) (show (wr.setCell ⟨w.heap.size + 1, 0, none⟩ (.int .i64 D)).heap[w.heap.size + 1]? = some (Obj.cells #[.int .i64 D, .slice none 0 0] 24 (0, 0)) by
          unfold SetBox at X2
          simp only [World.setCell]
          rw [Array.getElem?_modify, if_pos rfl, X2]
          rfl) (by decide) (by decide) (by decide) (.slice uA us.length uc))).step (Below.refl _ _).drew
        have hb7 := (hbr.trans (below_put (w := wr) (N := w.heap.size) (b := w.heap.size + 1) (Nat.le_succ _) (.int .i64 D) (.slice uA us.length uc))).drew
        clear d0 d1 e0 e1 HPC HU4
        generalize ((wr.setCell ⟨w.heap.size + 1, 0, none⟩ (.int .i64 D)).setCell ⟨w.heap.size + 1, 1, none⟩ (.slice uA us.length uc)).drew = w5 at *
        have y0 := X5.c0
        have y1 := X5.c1
        obtain ⟨A5, c5, he5, hP5, hA5⟩ := hU5.pieces
        cases he5
        go_wp2
        try rw [Exit.noGoto_ret]
        refine bodyPost_ret (v := .tuple #[setV D uA us.length uc, .int .i64 0]) (by simp [results, Try.results53, go_sem, y0, y1]) rfl ?_
        rw [HDN.out]
        exact ⟨uA, us.length, uc, us, rfl, hP5, hU5.ok, rfl, (fun h => let ⟨g, o, h1, h2⟩ := hA5 h; ⟨g, o, h1, by omega⟩), hb7⟩
end Go.Proofs.Ytkgnlloioaobiaa
namespace Go.Proofs.Ytkgnlloioaobiaa
open Go.RowKit
def bothE (D : Int) (ps : List PEl) (D' : Int) (ps' : List PEl) : Int := if validS D ps = true ∧ validS D' ps' = true then (if D = D' then 0 else 2) else 1
theorem both_inv {D : Int} {ps : List PEl} {D' : Int} {ps' : List PEl} (h : validS D ps = false ∨ validS D' ps' = false) : bothE D ps D' ps' = 1 := by
  unfold bothE
  rw [if_neg]
  rintro ⟨h1, h2⟩
  rcases h with h | h <;> simp_all
set_option maxHeartbeats 4000000 in
theorem set_both (D : Int) (A : Option Addr) (n c : Nat) (ps : List PEl) (D' : Int) (A' : Option Addr) (n' c' : Nat) (ps' : List PEl) (w : World) (h : PiecesAt w A n ps) (h' : PiecesAt w A' n' ps') :
    Calls Try.prog 52 #[setV D A n c, setV D' A' n' c'] w fun e w' => e = .returned (.int .i64 (bothE D ps D' ps')) ∧ Below w.heap.size w w' := by
  have B1 := below_step (below_alloc w (.cells #[.int .i64 D, .slice A n c] 24)) (below_alloc _ (.cells #[.int .i64 D', .slice A' n' c'] 24))
  have X1 := (SetBox.new w D A n c).alloc (.cells #[.int .i64 D', .slice A' n' c'] 24)
  have X2 := SetBox.new (w.alloc (.cells #[.int .i64 D, .slice A n c] 24)) D' A' n' c'
  rw [World.size_alloc] at X2
  have P1 := h.step B1
  have P2 := h'.step B1
  have c0 := X1.c0
  have c1 := X1.c1
  have d0 := X2.c0
  have d1 := X2.c1
  have T1 : True := trivial
  obtain ⟨v1, hv1⟩ : ∃ v, validS D ps = v := ⟨_, rfl⟩
  obtain ⟨v2, hv2⟩ : ∃ v, validS D' ps' = v := ⟨_, rfl⟩
  have HV1 := Lib.hid hv1
  have HV2 := Lib.hid hv2
  obtain ⟨er, her⟩ : ∃ er, bothE D ps D' ps' = er := ⟨_, rfl⟩
  rw [her]
  have HE := Lib.hid her
  clear hv1 hv2 her h h'
  cases v1
  · have HR := Lib.hid (show er = 1 by rw [← HE.out]; exact both_inv (.inl HV1.out))
    go_enter Try.func52, Try.ntmps52
    go_wp2_with (first | (go_at_call 16; have t1 := T1; clear T1 t1; refine (set_valid D A n c ps _ P1).mono ?_; rintro e w1 ⟨rfl, hb⟩; rw [HV1.out]; replace B1 := below_step B1 hb; replace P2 := P2.step hb; replace X1 := X1.step hb; replace X2 := X2.step hb; clear c0 c1 d0 d1; have c0 := X1.c0; have c1 := X1.c1; have d0 := X2.c0; have d1 := X2.c1))
    go_ret
    exact ⟨ret1 (vint HR.out.symm), B1⟩
  · cases v2
    · have HR := Lib.hid (show er = 1 by rw [← HE.out]; exact both_inv (.inr HV2.out))
      go_enter Try.func52, Try.ntmps52
      go_wp2_with (first | (go_at_call 16; have t1 := T1; clear T1 t1; refine (set_valid D A n c ps _ P1).mono ?_; rintro e w1 ⟨rfl, hb⟩; rw [HV1.out]; replace B1 := below_step B1 hb; replace P2 := P2.step hb; replace X1 := X1.step hb; replace X2 := X2.step hb; clear c0 c1 d0 d1; have c0 := X1.c0; have c1 := X1.c1; have d0 := X2.c0; have d1 := X2.c1) | (go_at_call 16; refine (set_valid D' A' n' c' ps' _ P2).mono ?_; rintro e w2 ⟨rfl, hb⟩; rw [HV2.out]; replace B1 := below_step B1 hb; replace X1 := X1.step hb; replace X2 := X2.step hb; clear c0 c1 d0 d1; have c0 := X1.c0; have c1 := X1.c1; have d0 := X2.c0; have d1 := X2.c1))
      go_ret
      exact ⟨ret1 (vint HR.out.symm), B1⟩
    · by_cases hd : D = D'
      · have HR := Lib.hid (show er = 0 by rw [← HE.out]; unfold bothE; rw [if_pos ⟨HV1.out, HV2.out⟩, if_pos hd])
        have q1 : (D != D') = false := by simpa using hd
        have q2 : (D == D') = true := by simpa using hd
        clear hd
        go_enter Try.func52, Try.ntmps52
        go_wp2_with (first | (go_at_call 16; have t1 := T1; clear T1 t1; refine (set_valid D A n c ps _ P1).mono ?_; rintro e w1 ⟨rfl, hb⟩; rw [HV1.out]; replace B1 := below_step B1 hb; replace P2 := P2.step hb; replace X1 := X1.step hb; replace X2 := X2.step hb; clear c0 c1 d0 d1; have c0 := X1.c0; have c1 := X1.c1; have d0 := X2.c0; have d1 := X2.c1) | (go_at_call 16; refine (set_valid D' A' n' c' ps' _ P2).mono ?_; rintro e w2 ⟨rfl, hb⟩; rw [HV2.out]; replace B1 := below_step B1 hb; replace X1 := X1.step hb; replace X2 := X2.step hb; clear c0 c1 d0 d1; have c0 := X1.c0; have c1 := X1.c1; have d0 := X2.c0; have d1 := X2.c1))
        go_ret
        exact ⟨ret1 (vint HR.out.symm), B1⟩
      · have HR := Lib.hid (show er = 2 by rw [← HE.out]; unfold bothE; rw [if_pos ⟨HV1.out, HV2.out⟩, if_neg hd])
        have q1 : (D != D') = true := by simpa using hd
        have q2 : (D == D') = false := by simpa using hd
        clear hd
        go_enter Try.func52, Try.ntmps52
        go_wp2_with (first | (go_at_call 16; have t1 := T1; clear T1 t1; refine (set_valid D A n c ps _ P1).mono ?_; rintro e w1 ⟨rfl, hb⟩; rw [HV1.out]; replace B1 := below_step B1 hb; replace P2 := P2.step hb; replace X1 := X1.step hb; replace X2 := X2.step hb; clear c0 c1 d0 d1; have c0 := X1.c0; have c1 := X1.c1; have d0 := X2.c0; have d1 := X2.c1) | (go_at_call 16; refine (set_valid D' A' n' c' ps' _ P2).mono ?_; rintro e w2 ⟨rfl, hb⟩; rw [HV2.out]; replace B1 := below_step B1 hb; replace X1 := X1.step hb; replace X2 := X2.step hb; clear c0 c1 d0 d1; have c0 := X1.c0; have c1 := X1.c1; have d0 := X2.c0; have d1 := X2.c1))
        go_ret
        exact ⟨ret1 (vint HR.out.symm), B1⟩
end Go.Proofs.Ytkgnlloioaobiaa
namespace Go.Proofs.Ytkgnlloioaobiaa
open Go.RowKit
theorem without_good {n : Nat} (hn : n ≤ 12) {ps : List (List CD)} {c : List CD} (hp : GoodU n ps) (hc : (∀ d ∈ c, ValidD n d) ∧ c.length ≤ 96) : GoodU n (withoutD n ps c).2 := by
  unfold withoutD
  refine fold_good (P := GoodU n) ⟨(fun u h => nomatch h), by simp⟩ fun p hpm us hu => ?_
  unfold withOne
  split
  · exact hu
  · split
    · exact keep_good hu (hp.1 p hpm)
    · refine fold_good (P := GoodU n) hu fun i hi us hu => ?_
      unfold cutOne
      split
      · rename_i d hd
        have hv := hc.1 d (List.mem_of_getElem? hd)
        split
        · exact hu
        · refine fold_good (P := GoodU n) hu fun z hz us hu => add_good hu ?_
          intro x hx
          rcases List.mem_append.1 hx with hx | hx
          · exact ((hp.1 p hpm).1 x hx).kind
          · rcases List.mem_append.1 hx with hx | hx
            · exact (hc.1 x (List.mem_of_mem_take hx)).kind
            · rw [List.mem_singleton.1 hx]; exact (neg_valid hn hv.1 hv.2 z hz).kind
      · exact hu
end Go.Proofs.Ytkgnlloioaobiaa
namespace Go.Proofs.Ytkgnlloioaobiaa
open Go.RowKit Go.Shelf
theorem gather_ok {n : Nat} {w w' : World} {e : Ending} {D : Int} {l : List (List CD)} (h : GatherRet n w e w' D (0, l)) :
    ∃ A k c ps, e = .returned (.tuple #[setV D A k c, .int .i64 0]) ∧ PiecesAt w' A k ps ∧ (∀ p ∈ ps, PieceOk n w' p) ∧ ps.map PEl.dat = l ∧ (0 < k → ∃ g o, A = some ⟨g, o, none⟩ ∧ w.heap.size ≤ g) ∧ Below w.heap.size w w' := h
theorem gather_bad {n : Nat} {w w' : World} {e : Ending} {D : Int} {l : List (List CD)} {er : Int} (h0 : er ≠ 0) (h : GatherRet n w e w' D (er, l)) :
    ∃ A k c, e = .returned (.tuple #[setV 0 A k c, .int .i64 er]) ∧ Below w.heap.size w w' := by
  obtain ⟨A, k, c, ps, he, _, _, _, _, hb⟩ := h
  have h0 : ((er, l).1 ≠ 0) := h0
  rw [if_pos h0] at he
  exact ⟨A, k, c, he, hb⟩
theorem pieceV_of {n : Nat} {w : World} {ps : List PEl} {l : List (List CD)} (hok : ∀ p ∈ ps, PieceOk n w p) (hd : ps.map PEl.dat = l) (hg : GoodU n l) : (∀ p ∈ ps, PieceV n w p) ∧ ps.length ≤ 400 := by
  subst hd
  refine ⟨fun p hp => ⟨hok p hp, ?_⟩, by have := hg.2; rwa [List.length_map] at this⟩
  obtain ⟨h1, h2⟩ := hg.1 p.dat (List.mem_map.2 ⟨p, hp, rfl⟩)
  exact ⟨h1, by rwa [PEl.dat, List.length_map] at h2⟩
theorem valid_kinds {D : Int} {w : World} {A : Option Addr} {k : Nat} {ps : List PEl} (hP : PiecesAt w A k ps) (hv : validS D ps = true) : ∀ ds ∈ ps.map PEl.dat, KindsOk D.toNat ds := fun ds hds d hd => by
  obtain ⟨p, hp, rfl⟩ := List.mem_map.1 hds
  obtain ⟨e, he, rfl⟩ := List.mem_map.1 hd
  have h1 := ((valid_parts hv).2 p hp).1 e he
  have hl := ((hP.conds p hp).ints e he).len
  exact ⟨h1.2.1, by have := h1.1; show e.xs.length = _; omega⟩
theorem minus_val {n : Nat} {ps qs l1 l2 : List (List CD)} (h1 : gatherD n ps = (0, l1)) (h2 : gatherD n qs = (0, l2)) : minusD n ps qs = foldE (withoutD n) l2 l1 := by
  unfold minusD
  rw [h1, h2]
  rw [if_neg (show ¬ ((0 : Int) ≠ 0) by decide), if_neg (show ¬ ((0 : Int) ≠ 0) by decide)]
theorem minus_e1 {n : Nat} {ps qs l1 : List (List CD)} {er : Int} (h1 : gatherD n ps = (er, l1)) (h0 : er ≠ 0) : (minusD n ps qs).1 = er := by
  unfold minusD
  rw [h1, if_pos h0]
theorem minus_e2 {n : Nat} {ps qs l1 l2 : List (List CD)} {er : Int} (h1 : gatherD n ps = (0, l1)) (h2 : gatherD n qs = (er, l2)) (h0 : er ≠ 0) : (minusD n ps qs).1 = er := by
  unfold minusD
  rw [h1, h2, if_neg (show ¬ ((0 : Int) ≠ 0) by decide), if_pos h0]
theorem put_far {w : World} {b k : Nat} {D : Int} {A : Option Addr} {n c : Nat} (h : SetBox w k D A n c) (hk : k ≠ b) (x y : Value) : SetBox ((w.setCell ⟨b, 0, none⟩ x).setCell ⟨b, 1, none⟩ y) k D A n c := (put_other hk x y).trans h
set_option maxHeartbeats 8000000 in
theorem set_minus (D : Int) (A : Option Addr) (n c : Nat) (ps : List PEl) (A' : Option Addr) (n' c' : Nat) (ps' : List PEl) (w : World) (h : PiecesAt w A n ps) (h' : PiecesAt w A' n' ps') (hv1 : validS D ps = true) (hv2 : validS D ps' = true) :
    Calls Try.prog 28 #[setV D A n c, setV D A' n' c'] w fun e w' => GatherRet D.toNat w e w' D (minusD D.toNat (ps.map PEl.dat) (ps'.map PEl.dat)) := by
  have HE := Lib.hid (show bothE D ps D ps' = 0 by unfold bothE; rw [if_pos ⟨hv1, hv2⟩, if_pos rfl])
  obtain ⟨md, hmd⟩ : ∃ md, minusD D.toNat (ps.map PEl.dat) (ps'.map PEl.dat) = md := ⟨_, rfl⟩
  rw [hmd]
  have hD : D.toNat ≤ 12 := by have := (valid_parts hv1).1; omega
  have HD := Lib.hid hD
  have HN1 := Lib.hid (fun W (P : PiecesAt W A n ps) => set_normal D A n c ps W P hv1)
  have HN2 := Lib.hid (fun W (P : PiecesAt W A' n' ps') => set_normal D A' n' c' ps' W P hv2)
  have HGU1 := Lib.hid (gather_good (valid_kinds h hv1))
  have HGU2 := Lib.hid (gather_good (valid_kinds h' hv2))
  obtain ⟨g1, hg1⟩ : ∃ g, gatherD D.toNat (ps.map PEl.dat) = g := ⟨_, rfl⟩
  obtain ⟨g2, hg2⟩ : ∃ g, gatherD D.toNat (ps'.map PEl.dat) = g := ⟨_, rfl⟩
  obtain ⟨er1, l1⟩ := g1
  obtain ⟨er2, l2⟩ := g2
  rw [hg1] at HN1 HGU1
  rw [hg2] at HN2 HGU2
  have HM := Lib.hid (And.intro hmd (And.intro hg1 hg2))
  obtain ⟨nn, hnn⟩ : ∃ nn, D.toNat = nn := ⟨_, rfl⟩
  rw [hnn] at HN1 HN2 HGU1 HGU2 HM HD ⊢
  have B1 := below_step (below_step (below_alloc w (.cells #[.int .i64 D, .slice A n c] 24)) (below_alloc _ (.cells #[.int .i64 D, .slice A' n' c'] 24))) (below_alloc _ (.cells #[.int .i64 0, .slice none 0 0] 24))
  have X1 := ((SetBox.new w D A n c).alloc (.cells #[.int .i64 D, .slice A' n' c'] 24)).alloc (.cells #[.int .i64 0, .slice none 0 0] 24)
  have X2 := (SetBox.new (w.alloc (.cells #[.int .i64 D, .slice A n c] 24)) D A' n' c').alloc (.cells #[.int .i64 0, .slice none 0 0] 24)
  have X3 : SetBox (((w.alloc (.cells #[.int .i64 D, .slice A n c] 24)).alloc (.cells #[.int .i64 D, .slice A' n' c'] 24)).alloc (.cells #[.int .i64 0, .slice none 0 0] 24)) (w.heap.size + 2) 0 none 0 0 := by
    have := SetBox.new ((w.alloc (.cells #[.int .i64 D, .slice A n c] 24)).alloc (.cells #[.int .i64 D, .slice A' n' c'] 24)) 0 none 0 0
    rw [World.size_alloc, World.size_alloc] at this
    exact this
  rw [World.size_alloc] at X2
  have P1 := h.step B1
  have P2 := h'.step B1
  have c0 := X1.c0
  have c1 := X1.c1
  have d0 := X2.c0
  have d1 := X2.c1
  have T1 : True := trivial
  clear h h' hv1 hv2 hg1 hg2 hmd hD hnn
  by_cases h1 : er1 = 0
  · subst h1
    by_cases h2 : er2 = 0
    · subst h2
      go_enter Try.func28, Try.ntmps28
      go_wp2_with (first
        | (go_at_call 52; refine (set_both D A n c ps D A' n' c' ps' _ P1 P2).mono ?_; rintro e w1 ⟨rfl, hb⟩; rw [HE.out]; replace B1 := below_step B1 hb; replace X1 := X1.step hb; replace X2 := X2.step hb; replace X3 := X3.step hb; replace P1 := P1.step hb; replace P2 := P2.step hb; clear c0 c1 d0 d1; have c0 := X1.c0; have c1 := X1.c1; have HW1 := Lib.hid (show w.heap.size + 3 ≤ w1.heap.size from X3.lt))
        | (go_at_call 32; have t1 := T1; clear T1 t1; refine (HN1.out _ P1).mono ?_; rintro e w2 hG; obtain ⟨A3, k3, c3, us, rfl, hP3, hok3, hd3, hA3, hb2⟩ := gather_ok hG; have S1 := SetBox.new w2 D A3 k3 c3; have b2 := below_step hb2 (below_alloc w2 (.cells #[.int .i64 D, .slice A3 k3 c3] 24)); replace B1 := below_step B1 b2; replace X2 := X2.step b2; replace X3 := X3.step b2; replace P2 := P2.step b2; clear c0 c1 X1 P1; have d0 := X2.c0; have d1 := X2.c1; have b3 := below_alloc w2 (.cells #[.int .i64 D, .slice A3 k3 c3] 24); have HG3 := Lib.hid (And.intro (hP3.step b3) (And.intro (fun p hp => (hok3 p hp).keep (.of_below b3)) (And.intro hd3 (And.intro hA3 (And.intro (fun h0 => (let ⟨b, off, hA, hlt, _⟩ := hP3.cells h0; ⟨b, off, hA, hlt⟩ : ∃ g o, A3 = some ⟨g, o, none⟩ ∧ g < w2.heap.size)) hb2.size))))); clear hG hP3 hok3 hd3 hA3 hb2 b2 b3)
        | (go_at_call 32; refine (HN2.out _ P2).mono ?_; rintro e w4 hG; obtain ⟨A4, k4, c4, qs, rfl, hP4, hok4, hd4, hA4, hb4⟩ := gather_ok hG; have b4 := below_alloc w4 (.cells #[.int .i64 D, .slice A4 k4 c4] 24); have b5 := below_step hb4 b4; replace B1 := below_step B1 b5; replace S1 := S1.step b5; replace X3 := X3.step b5; clear d0 d1 X2 P2; have HG4 := Lib.hid (And.intro (hP4.step b4) (And.intro (fun p hp => (hok4 p hp).keep (.of_below b4)) (And.intro hd4 hA4))); have HG3b := Lib.hid (And.intro (HG3.out.1.step b5) (fun p hp => (HG3.out.2.1 p hp).keep (.of_below b5))); clear hG hP4 hok4 hd4 hA4 hb4 b4 b5))
      generalize w4.alloc (.cells #[.int .i64 D, .slice A4 k4 c4] 24) = w5 at *
      have HQV := Lib.hid (pieceV_of HG4.out.2.1 HG4.out.2.2.1 HGU2.out)
      have HUV := Lib.hid (pieceV_of HG3b.out.2 HG3.out.2.2.1 HGU1.out)
      have HQ4 := Lib.hid (show 0 < k4 → ∀ g o, A4 = some ⟨g, o, none⟩ → g ≠ w2.heap.size from fun h0 g o hA => by
        obtain ⟨g', o', h1, h2⟩ := HG4.out.2.2.2 h0
        rw [hA] at h1
        cases h1
        rw [World.size_alloc] at h2
        omega)
      have HFR := Lib.hid (show 0 < k3 → ∃ g o, A3 = some ⟨g, o, none⟩ ∧ w.heap.size + 3 ≤ g ∧ g ≠ w2.heap.size from fun h0 => by
        obtain ⟨g, o, h1, h2⟩ := HG3.out.2.2.2.1 h0
        obtain ⟨g', o', h3, h4⟩ := HG3.out.2.2.2.2.1 h0
        rw [h1] at h3
        cases h3
        have := HW1.out
        exact ⟨g, o, h1, by omega, by omega⟩)
      have hw2 := Nat.le_trans HW1.out HG3.out.2.2.2.2.2
      have hk4 : k4 ≤ 400 := by have h5 := HG4.out.1.len; have h6 := HQV.out.2; omega
      have HW2 := Lib.hid hw2
      go_loopg [40] k4 (fun g v wr => ∃ i : Nat, i + g = k4 ∧ v = .int .i64 i ∧ (∃ A5 k5 c5 us5, SetBox wr w2.heap.size D A5 k5 c5 ∧ (PiecesAt wr A5 k5 us5 ∧ (∀ p ∈ us5, PieceV nn wr p)) ∧ (GoodU nn (us5.map PEl.dat) ∧ foldE (withoutD nn) (l2.take i) l1 = (0, us5.map PEl.dat)) ∧ (0 < k5 → ∃ g o, A5 = some ⟨g, o, none⟩ ∧ w.heap.size + 3 ≤ g ∧ g ≠ w2.heap.size)) ∧ SetBox wr (w.heap.size + 2) 0 none 0 0 ∧ (PiecesAt wr A4 k4 qs ∧ ∀ p ∈ qs, PieceV nn wr p) ∧ Below w.heap.size w wr)
      case atStart => exact ⟨0, by omega, rfl, ⟨A3, k3, c3, us, S1, ⟨HG3b.out.1, HUV.out.1⟩, ⟨by rw [HG3.out.2.2.1]; exact HGU1.out, by rw [HG3.out.2.2.1]; rfl⟩, HFR.out⟩, X3, ⟨HG4.out.1, HQV.out.1⟩, B1⟩
      case round =>
        clear S1 X3 B1
        obtain ⟨i, hig, rfl, ⟨A5, k5, c5, us5, S5, ⟨P5, hV5⟩, ⟨hG5, hF5⟩, hA5⟩, X5, ⟨Q5, hW5⟩, hbr⟩ := hrel
        have HV5 := Lib.hid hV5
        have HG5 := Lib.hid hG5
        have HF5 := Lib.hid hF5
        have HA5 := Lib.hid hA5
        have HW5 := Lib.hid hW5
        have hx5 := S5.c0
        have hx6 := S5.c1
        clear hV5 hG5 hF5 hA5 hW5
        cases gk with
        | succ g =>
          have hlt : i < k4 := by omega
          obtain ⟨b1, off1, q, hA, hblt, hqj, hmem, hcell, hCq⟩ := Q5.at hlt
          have HVq := Lib.hid (HW5.out q hmem)
          have HQ9 := Lib.hid (HQ4.out (by omega) b1 off1 hA)
          obtain ⟨r6, hr6⟩ : ∃ r, withoutD nn (us5.map PEl.dat) q.dat = r := ⟨_, rfl⟩
          obtain ⟨er6, l6⟩ := r6
          have HT := Lib.hid ((fold_take (f := withoutD nn) (l := l2) (i := i) (x := q.dat) (by rw [← HG4.out.2.2.1, List.getElem?_map, hqj]; rfl) HF5.out).trans hr6)
          have HGG := Lib.hid (show GoodU nn l6 by
            have := without_good HD.out HG5.out (c := q.dat) ⟨HVq.out.2.1, by rw [PEl.dat, List.length_map]; exact HVq.out.2.2⟩
            rw [hr6] at this
            exact this)
          have HWO := Lib.hid (show Calls Try.prog 53 #[setV D A5 k5 c5, .slice q.A q.n q.c] wr fun e w' => GatherRet nn wr e w' D (er6, l6) by
            rw [← hr6]
            exact set_without HD.out D A5 k5 c5 us5 q.A q.n q.c q.els wr P5 (by have h5 := P5.len; have h6 := HG5.out.2; rw [List.length_map] at h6; omega) HV5.out HVq.out)
          obtain ⟨qA, qn, qc, qels⟩ := q
          simp only at hcell HWO
          have hqq : (i : Int) < k4 := by omega
          subst hA
          clear hqj hmem hCq hr6
          by_cases h0 : er6 = 0
          · subst h0
            go_wp2_with (go_at_call 53; refine HWO.out.mono ?_; rintro e w6 hG; obtain ⟨A6, k6, c6, us6, rfl, hP6, hok6, hd6, hA6, hb6⟩ := gather_ok hG; have S6 := S5.step hb6; have X6 := X5.step hb6; have z0 := S6.c0; have z1 := S6.c1; have f0 := S6.f 0; have f1 := S6.f 1; have HG6 := Lib.hid (And.intro hP6 (And.intro hok6 (And.intro hd6 (And.intro hA6 (And.intro (Q5.step hb6) (And.intro (fun p hp => (HW5.out p hp).step hb6) hb6)))))); clear hG hP6 hok6 hd6 hA6 hb6)
            have hku := S6.keepU (.int .i64 D) (.slice A6 k6 c6)
            have HV6 := Lib.hid (pieceV_of HG6.out.2.1 HG6.out.2.2.1 HGG.out)
            have hl5 := S5.lt
            have HS6 := Lib.hid (show (0 < k6 → ∃ g o, A6 = some ⟨g, o, none⟩ ∧ w.heap.size + 3 ≤ g ∧ g ≠ w2.heap.size) from fun h0 => by
              obtain ⟨g, o, h1, h2⟩ := HG6.out.2.2.2.1 h0
              have := HW2.out
              exact ⟨g, o, h1, by omega, by omega⟩)
            have HRL := Lib.hid (⟨S6.put D A6 k6 c6, ⟨pieces_move HG6.out.1 (fun p hp => ((HV6.out.1 p hp).keep hku).1) hku.size (fun h0 g o hA => by
              obtain ⟨g', o', h1, h2, h3⟩ := HS6.out h0
              rw [hA] at h1
              cases h1
              exact put_other h3 _ _), fun p hp => (HV6.out.1 p hp).keep hku⟩, ⟨by rw [HG6.out.2.2.1]; exact HGG.out, by rw [HG6.out.2.2.1]; exact HT.out⟩, HS6.out⟩ : SetBox _ w2.heap.size D A6 k6 c6 ∧ (PiecesAt _ A6 k6 us6 ∧ ∀ p ∈ us6, PieceV nn _ p) ∧ (GoodU nn (us6.map PEl.dat) ∧ foldE (withoutD nn) (l2.take (i + 1)) l1 = (0, us6.map PEl.dat)) ∧ (0 < k6 → ∃ g o, A6 = some ⟨g, o, none⟩ ∧ w.heap.size + 3 ≤ g ∧ g ≠ w2.heap.size))
            have HX6 := Lib.hid (put_far X6 (b := w2.heap.size) (by have := HW2.out; omega) (.int .i64 D) (.slice A6 k6 c6))
            have HQ6 := Lib.hid (⟨pieces_move HG6.out.2.2.2.2.1 (fun p hp => ((HG6.out.2.2.2.2.2.1 p hp).keep hku).1) hku.size (fun h0 g o hA => put_other (HQ4.out h0 g o hA) _ _), fun p hp => (HG6.out.2.2.2.2.2.1 p hp).keep hku⟩ : PiecesAt _ (some ⟨b1, off1, none⟩) k4 qs ∧ ∀ p ∈ qs, PieceV nn _ p)
            have HBR := Lib.hid ((hbr.trans (HG6.out.2.2.2.2.2.2.mono hbr.size)).trans (below_put (w := w6) (N := w.heap.size) (b := w2.heap.size) (by have := HW2.out; omega) (.int .i64 D) (.slice A6 k6 c6)))
            clear hku
            go_roundg g
            case measure => omega
            case rel => exact ⟨i + 1, by omega, by go_num, ⟨A6, k6, c6, us6, HRL.out⟩, HX6.out, HQ6.out, HBR.out⟩
          · have h0' : (er6 != 0) = true := by simpa using h0
            have h0'' : (er6 == 0) = false := by simpa using h0
            go_wp2_with (go_at_call 53; refine HWO.out.mono ?_; rintro e w6 hG; obtain ⟨A6, k6, c6, rfl, hb6⟩ := gather_bad h0 hG; have S6 := S5.step hb6; have X6 := put_far (X5.step hb6) (b := w2.heap.size) (by have := HW2.out; omega) (.int .i64 0) (.slice A6 k6 c6); have z0 := S6.c0; have z1 := S6.c1; have f0 := S6.f 0; have f1 := S6.f 1; have hb7 := (hbr.trans (hb6.mono hbr.size)).trans (below_put (w := w6) (N := w.heap.size) (b := w2.heap.size) (by have := HW2.out; omega) (.int .i64 0) (.slice A6 k6 c6)); have u0 := X6.c0; have u1 := X6.c1; have v0 := X6.f 0; have v1 := X6.f 1; clear hG)
            generalize (w6.setCell ⟨w2.heap.size, 0, none⟩ (.int .i64 0)).setCell ⟨w2.heap.size, 1, none⟩ (.slice A6 k6 c6) = w4 at *
            have X4 := X6
            have X5 := X4.put 0 none 0 0; have hb8 := below_put (w := w4) (N := w.heap.size) (b := w.heap.size + 2) (by omega) (.int .i64 0) (.slice none 0 0); generalize (w4.setCell ⟨w.heap.size + 2, 0, none⟩ (.int .i64 0)).setCell ⟨w.heap.size + 2, 1, none⟩ (.slice none 0 0) = w5 at *; have y0 := X5.c0; have y1 := X5.c1; try rw [Exit.noGoto_ret]
            refine bodyPost_ret (v := .tuple #[setV 0 none 0 0, .int .i64 er6]) (by simp [results, Try.results28, go_sem, y0, y1]) rfl ?_
            have HR := (show md.1 = er6 by
              rw [← HM.out.1, minus_val HM.out.2.1 HM.out.2.2, fold_fail HT.out h0])
            exact gather_fail HR h0 (hb7.trans hb8)
        | zero =>
          obtain rfl : i = k4 := by omega
          have hge : ¬ ((i : Int) < i) := by omega
          have HR := Lib.hid (show md = (0, us5.map PEl.dat) by
            rw [← HM.out.1, minus_val HM.out.2.1 HM.out.2.2, ← HF5.out, List.take_of_length_le]
            rw [← HG4.out.2.2.1, List.length_map, HG4.out.1.len]
            exact Nat.le_refl _)
          have u0 := X5.c0
          have u1 := X5.c1
          have v0 := X5.f 0
          have v1 := X5.f 1
          go_wp2
          have X7 := X5.put D A5 k5 c5
          have hku := X5.keepU (.int .i64 D) (.slice A5 k5 c5)
          have hP7 := pieces_move P5 (fun p hp => ((HV5.out p hp).keep hku).1) hku.size (fun h0 g o hA => by
            obtain ⟨g', o', h1, h2, h3⟩ := HA5.out h0
            rw [hA] at h1
            cases h1
            exact put_other (by omega) _ _)
          have hok7 := fun p hp => ((HV5.out p hp).keep hku).1
          have hb8 := hbr.trans (below_put (w := wr) (N := w.heap.size) (b := w.heap.size + 2) (by omega) (.int .i64 D) (.slice A5 k5 c5))
          clear hku
          generalize (wr.setCell ⟨w.heap.size + 2, 0, none⟩ (.int .i64 D)).setCell ⟨w.heap.size + 2, 1, none⟩ (.slice A5 k5 c5) = w7 at *
          have y0 := X7.c0
          have y1 := X7.c1
          try rw [Exit.noGoto_ret]
          refine bodyPost_ret (v := .tuple #[setV D A5 k5 c5, .int .i64 0]) (by simp [results, Try.results28, go_sem, y0, y1]) rfl ?_
          rw [HR.out]
          exact ⟨A5, k5, c5, us5, rfl, hP7, hok7, rfl, (fun h => let ⟨g, o, h1, h2, _⟩ := HA5.out h; ⟨g, o, h1, by omega⟩), hb8⟩
    · have h0' : (er2 != 0) = true := by simpa using h2
      have h0'' : (er2 == 0) = false := by simpa using h2
      have HR := Lib.hid (show md.1 = er2 by rw [← HM.out.1]; exact minus_e2 HM.out.2.1 HM.out.2.2 h2)
      go_enter Try.func28, Try.ntmps28
      go_wp2_with (first
        | (go_at_call 52; refine (set_both D A n c ps D A' n' c' ps' _ P1 P2).mono ?_; rintro e w1 ⟨rfl, hb⟩; rw [HE.out]; replace B1 := below_step B1 hb; replace X1 := X1.step hb; replace X2 := X2.step hb; replace X3 := X3.step hb; replace P1 := P1.step hb; replace P2 := P2.step hb; clear c0 c1 d0 d1; have c0 := X1.c0; have c1 := X1.c1; have HW1 := Lib.hid (show w.heap.size + 3 ≤ w1.heap.size from X3.lt))
        | (go_at_call 32; have t1 := T1; clear T1 t1; refine (HN1.out _ P1).mono ?_; rintro e w2 hG; obtain ⟨A3, k3, c3, us, rfl, hP3, hok3, hd3, hA3, hb2⟩ := gather_ok hG; have S1 := SetBox.new w2 D A3 k3 c3; have b2 := below_step hb2 (below_alloc w2 (.cells #[.int .i64 D, .slice A3 k3 c3] 24)); replace B1 := below_step B1 b2; replace X2 := X2.step b2; replace X3 := X3.step b2; replace P2 := P2.step b2; clear c0 c1 X1 P1; have d0 := X2.c0; have d1 := X2.c1; have b3 := below_alloc w2 (.cells #[.int .i64 D, .slice A3 k3 c3] 24); have HG3 := Lib.hid (And.intro (hP3.step b3) (And.intro (fun p hp => (hok3 p hp).keep (.of_below b3)) (And.intro hd3 (And.intro hA3 (And.intro (fun h0 => (let ⟨b, off, hA, hlt, _⟩ := hP3.cells h0; ⟨b, off, hA, hlt⟩ : ∃ g o, A3 = some ⟨g, o, none⟩ ∧ g < w2.heap.size)) hb2.size))))); clear hG hP3 hok3 hd3 hA3 hb2 b2 b3)
        | (go_at_call 32; refine (HN2.out _ P2).mono ?_; rintro e w9 hG; obtain ⟨A4, k4, c4, rfl, hb4⟩ := gather_bad h2 hG; replace B1 := below_step (below_step B1 hb4) (below_alloc w9 (.cells #[.int .i64 0, .slice A4 k4 c4] 24)); have X4 := (X3.step hb4).alloc (.cells #[.int .i64 0, .slice A4 k4 c4] 24); have z0 := X4.c0; have z1 := X4.c1; have f0 := X4.f 0; have f1 := X4.f 1; clear hG; generalize hw4 : w9.alloc (.cells #[.int .i64 0, .slice A4 k4 c4] 24) = w4 at *))
      have X5 := X4.put 0 none 0 0; have hb8 := below_put (w := w4) (N := w.heap.size) (b := w.heap.size + 2) (by omega) (.int .i64 0) (.slice none 0 0); generalize (w4.setCell ⟨w.heap.size + 2, 0, none⟩ (.int .i64 0)).setCell ⟨w.heap.size + 2, 1, none⟩ (.slice none 0 0) = w5 at *; have y0 := X5.c0; have y1 := X5.c1; try rw [Exit.noGoto_ret]
      refine bodyPost_ret (v := .tuple #[setV 0 none 0 0, .int .i64 er2]) (by simp [results, Try.results28, go_sem, y0, y1]) rfl ?_
      exact gather_fail HR.out h2 (B1.trans hb8)
  · have h0' : (er1 != 0) = true := by simpa using h1
    have h0'' : (er1 == 0) = false := by simpa using h1
    have HR := Lib.hid (show md.1 = er1 by rw [← HM.out.1]; exact minus_e1 HM.out.2.1 h1)
    go_enter Try.func28, Try.ntmps28
    go_wp2_with (first
      | (go_at_call 52; refine (set_both D A n c ps D A' n' c' ps' _ P1 P2).mono ?_; rintro e w1 ⟨rfl, hb⟩; rw [HE.out]; replace B1 := below_step B1 hb; replace X1 := X1.step hb; replace X2 := X2.step hb; replace X3 := X3.step hb; replace P1 := P1.step hb; replace P2 := P2.step hb; clear c0 c1 d0 d1; have c0 := X1.c0; have c1 := X1.c1; have HW1 := Lib.hid (show w.heap.size + 3 ≤ w1.heap.size from X3.lt))
      | (go_at_call 32; refine (HN1.out _ P1).mono ?_; rintro e w9 hG; obtain ⟨A4, k4, c4, rfl, hb4⟩ := gather_bad h1 hG; replace B1 := below_step (below_step B1 hb4) (below_alloc w9 (.cells #[.int .i64 0, .slice A4 k4 c4] 24)); have X4 := (X3.step hb4).alloc (.cells #[.int .i64 0, .slice A4 k4 c4] 24); have z0 := X4.c0; have z1 := X4.c1; have f0 := X4.f 0; have f1 := X4.f 1; clear hG; generalize hw4 : w9.alloc (.cells #[.int .i64 0, .slice A4 k4 c4] 24) = w4 at *))
    have X5 := X4.put 0 none 0 0; have hb8 := below_put (w := w4) (N := w.heap.size) (b := w.heap.size + 2) (by omega) (.int .i64 0) (.slice none 0 0); generalize (w4.setCell ⟨w.heap.size + 2, 0, none⟩ (.int .i64 0)).setCell ⟨w.heap.size + 2, 1, none⟩ (.slice none 0 0) = w5 at *; have y0 := X5.c0; have y1 := X5.c1; try rw [Exit.noGoto_ret]
    refine bodyPost_ret (v := .tuple #[setV 0 none 0 0, .int .i64 er1]) (by simp [results, Try.results28, go_sem, y0, y1]) rfl ?_
    exact gather_fail HR.out h1 (B1.trans hb8)
end Go.Proofs.Ytkgnlloioaobiaa
namespace Go.Proofs.Ytkgnlloioaobiaa
open Go.RowKit
def sameC (q M : Int) (xs : List Int) (K : Int) (q' M' : Int) (ys : List Int) (K' : Int) : Bool := (q == q') && ((M == M') && sameB xs K ys K')
set_option maxHeartbeats 2000000 in
theorem cond_same (q M : Int) (A : Option Addr) (n c : Nat) (K : Int) (xs : List Int) (q' M' : Int) (A' : Option Addr) (n' c' : Nat) (K' : Int) (ys : List Int) (w : World) (hI : IntsAt w A n xs) (hI' : IntsAt w A' n' ys) :
    Calls Try.prog 51 #[condV q M A n c K, condV q' M' A' n' c' K'] w fun e w' => e = .returned (.bool (sameC q M xs K q' M' ys K')) ∧ Below w.heap.size w w' := by
  have b1 := below_alloc w (.cells #[.int .i64 q, .int .i64 M, .slice A n c, .int .i64 K] 55)
  have hB := below_step b1 (below_alloc _ (.cells #[.int .i64 q', .int .i64 M', .slice A' n' c', .int .i64 K'] 55))
  have h1 := hI.step hB
  have h2 := hI'.step hB
  have B1 := (CBox.new w q M A n c K).alloc (.cells #[.int .i64 q', .int .i64 M', .slice A' n' c', .int .i64 K'] 55)
  have B2 := CBox.new (w.alloc (.cells #[.int .i64 q, .int .i64 M, .slice A n c, .int .i64 K] 55)) q' M' A' n' c' K'
  rw [World.size_alloc] at B2
  have c0 := B1.c0
  have c1 := B1.c1
  have c2 := B1.c2
  have c3 := B1.c3
  have d0 := B2.c0
  have d1 := B2.c1
  have d2 := B2.c2
  have d3 := B2.c3
  obtain ⟨v, hv⟩ : ∃ v, sameB xs K ys K' = v := ⟨_, rfl⟩
  have HV := Lib.hid hv
  clear hI hI' b1
  by_cases hq : q = q'
  · subst hq
    by_cases hm : M = M'
    · subst hm
      have e : sameC q M xs K q M ys K' = v := by unfold sameC; rw [hv]; simp
      rw [e]
      clear e hv
      go_enter Try.func51, Try.ntmps51
      go_wp2_with (go_at_call 76; refine (ref_same _ _ _ _ xs _ _ _ _ ys _ h1 h2).mono ?_; rintro e w1 ⟨rfl, hb⟩; rw [HV.out]; replace hB := below_step hB hb)
      go_ret
      exact ⟨ret_bool (by simp), hB⟩
    · have e : sameC q M xs K q M' ys K' = false := by unfold sameC; simp [hm]
      rw [e]
      have g : (M == M') = false := by simpa using hm
      clear e hv
      go_enter Try.func51, Try.ntmps51
      go_wp2
      go_ret
      exact ⟨ret_bool (by simp), hB⟩
  · have e : sameC q M xs K q' M' ys K' = false := by unfold sameC; simp [hq]
    rw [e]
    have g : (q == q') = false := by simpa using hq
    clear e hv
    go_enter Try.func51, Try.ntmps51
    go_wp2
    go_ret
    exact ⟨ret_bool (by simp), hB⟩
end Go.Proofs.Ytkgnlloioaobiaa
namespace Go.Proofs.Ytkgnlloioaobiaa
open Go.RowKit
def sameL {α : Type} (f : α → α → Bool) : List α → List α → Bool
  | [], [] => true
  | a :: l, b :: l' => f a b && sameL f l l'
  | _, _ => false
theorem sameL_len {α : Type} {f : α → α → Bool} : ∀ {l l' : List α}, l.length ≠ l'.length → sameL f l l' = false
  | [], [], h => absurd rfl h
  | [], _ :: _, _ => rfl
  | _ :: _, [], _ => rfl
  | a :: l, b :: l', h => by
    have := sameL_len (f := f) (l := l) (l' := l') fun e => h (by simp [e])
    simp [sameL, this]
theorem sameL_no {α : Type} {f : α → α → Bool} : ∀ {l l' : List α} {i : Nat} {a b : α}, l[i]? = some a → l'[i]? = some b → f a b = false → sameL f l l' = false
  | [], _, _, _, _, h, _, _ => by simp at h
  | _ :: _, [], _, _, _, _, h, _ => by simp at h
  | a :: l, b :: l', 0, x, y, h, h', hf => by
    simp only [List.getElem?_cons_zero, Option.some.injEq] at h h'
    subst h h'
    simp [sameL, hf]
  | a :: l, b :: l', i + 1, x, y, h, h', hf => by
    simp only [List.getElem?_cons_succ] at h h'
    simp [sameL, sameL_no h h' hf]
theorem sameL_yes {α : Type} {f : α → α → Bool} : ∀ {l l' : List α}, l.length = l'.length → (∀ i a b, i < l.length → l[i]? = some a → l'[i]? = some b → f a b = true) → sameL f l l' = true
  | [], [], _, _ => rfl
  | [], _ :: _, h, _ => by simp at h
  | _ :: _, [], h, _ => by simp at h
  | a :: l, b :: l', h, hf => by
    have h0 := hf 0 a b (by simp) rfl rfl
    have h1 := sameL_yes (f := f) (l := l) (l' := l') (by simpa using h) fun i x y hi hx hy => hf (i + 1) x y (by simp; omega) (by simpa using hx) (by simpa using hy)
    simp [sameL, h0, h1]
def CEl.same (e e' : CEl) : Bool := sameC e.q e.M e.xs e.K e'.q e'.M e'.xs e'.K
def sameP (l l' : List CEl) : Bool := sameL CEl.same l l'
def sameS (D : Int) (ps : List PEl) (D' : Int) (ps' : List PEl) : Bool := (D == D') && sameL (fun p p' => sameP p.els p'.els) ps ps'
set_option maxHeartbeats 4000000 in
theorem same_piece (A : Option Addr) (m c : Nat) (els : List CEl) (A' : Option Addr) (m' c' : Nat) (els' : List CEl) (w : World) (C0 : CondsAt w A m els) (C1 : CondsAt w A' m' els') :
    Calls Try.prog 27 #[.slice A m c, .slice A' m' c'] w fun e w' => e = .returned (.bool (sameP els els')) ∧ Below w.heap.size w w' := by
  have hsm := C0.small
  have hsm' := C1.small
  by_cases hmm : m = m'
  · subst hmm
    have HL := Lib.hid C0.len
    have HL' := Lib.hid C1.len
    obtain ⟨er, her⟩ : ∃ er, sameP els els' = er := ⟨_, rfl⟩
    rw [her]
    have HE := Lib.hid her
    clear her
    go_enter Try.func27, Try.ntmps27
    go_wp2
    go_loopw [13] (fun v wr => ∃ i : Nat, i ≤ m ∧ v = .int .i64 i ∧ (∀ j x y, j < i → els[j]? = some x → els'[j]? = some y → x.same y = true) ∧ Below w.heap.size w wr) (fun v _ => m - (intOf v).toNat)
    case atStart => exact ⟨0, Nat.zero_le _, rfl, (fun j x y h => absurd h (by omega)), Below.refl _ _⟩
    case round =>
      obtain ⟨i, hi, rfl, hgood, hbr⟩ := hrel
      have HG := Lib.hid hgood
      clear hgood
      by_cases hlt : i < m
      · obtain ⟨b, off, e, hA2, hblt, hej, hmem, hcs, hin⟩ := (C0.step hbr).at hlt
        obtain ⟨b', off', e', hA3, hblt', hej', hmem', hcs', hin'⟩ := (C1.step hbr).at hlt
        obtain ⟨eq, eM, eA, en, ec, eK, exs⟩ := e
        obtain ⟨eq', eM', eA', en', ec', eK', exs'⟩ := e'
        obtain ⟨x0, x1, x2, x3⟩ := hcs
        obtain ⟨y0, y1, y2, y3⟩ := hcs'
        simp only at x0 x1 x2 x3 y0 y1 y2 y3 hin hin'
        have HEJ := Lib.hid hej
        have HEJ' := Lib.hid hej'
        subst hA2 hA3
        have hq1 : (i : Int) < m := by omega
        replace hin := hin.step (Below.refl _ wr).drew
        replace hin' := hin'.step (Below.refl _ wr).drew
        have hbd := hbr.drew
        clear hej hej' hmem hmem' hbr
        cases hv : sameC eq eM exs eK eq' eM' exs' eK'
        · have HV := Lib.hid hv
          have HR := Lib.hid (show er = false by rw [← HE.out]; exact sameL_no HEJ.out HEJ'.out hv)
          clear hv
          go_wp2
          go_region_held3 (fun W => W.cell? ⟨b, off + i * 4, none⟩ = some (.int .i64 eq) ∧ W.cell? ⟨b, off + i * 4 + 1, none⟩ = some (.int .i64 eM) ∧ W.cell? ⟨b, off + i * 4 + 2, none⟩ = some (.slice eA en ec) ∧ W.cell? ⟨b, off + i * 4 + 3, none⟩ = some (.int .i64 eK) ∧ W.cell? ⟨b', off' + i * 4, none⟩ = some (.int .i64 eq') ∧ W.cell? ⟨b', off' + i * 4 + 1, none⟩ = some (.int .i64 eM') ∧ W.cell? ⟨b', off' + i * 4 + 2, none⟩ = some (.slice eA' en' ec') ∧ W.cell? ⟨b', off' + i * 4 + 3, none⟩ = some (.int .i64 eK')) (first | with_reducible exact ⟨x0, x1, x2, x3, y0, y1, y2, y3⟩ | with_reducible exact ⟨z0, z1, z2, z3, z4, z5, z6, z7⟩ | go_keep) (first | (go_at_call 51; refine (cond_same _ _ _ _ _ _ exs _ _ _ _ _ _ exs' _ hin hin').mono ?_; rintro e w4 ⟨rfl, hb⟩; rw [HV.out]; have hbe := (Below.refl wr.heap.size wr).drew.trans hb; have z0 := (hbe.cell (p := ⟨b, off + i * 4, none⟩) hblt).trans x0; have z1 := (hbe.cell (p := ⟨b, off + i * 4 + 1, none⟩) hblt).trans x1; have z2 := (hbe.cell (p := ⟨b, off + i * 4 + 2, none⟩) hblt).trans x2; have z3 := (hbe.cell (p := ⟨b, off + i * 4 + 3, none⟩) hblt).trans x3; have z4 := (hbe.cell (p := ⟨b', off' + i * 4, none⟩) hblt').trans y0; have z5 := (hbe.cell (p := ⟨b', off' + i * 4 + 1, none⟩) hblt').trans y1; have z6 := (hbe.cell (p := ⟨b', off' + i * 4 + 2, none⟩) hblt').trans y2; have z7 := (hbe.cell (p := ⟨b', off' + i * 4 + 3, none⟩) hblt').trans y3; replace hbd := hbd.trans (hb.mono hbd.size)))
          all_goals
            go_wp2
            go_ret
            exact ⟨ret_bool HR.out.symm, hbd⟩
        · have HV := Lib.hid hv
          clear hv
          go_wp2
          go_region_held3 (fun W => W.cell? ⟨b, off + i * 4, none⟩ = some (.int .i64 eq) ∧ W.cell? ⟨b, off + i * 4 + 1, none⟩ = some (.int .i64 eM) ∧ W.cell? ⟨b, off + i * 4 + 2, none⟩ = some (.slice eA en ec) ∧ W.cell? ⟨b, off + i * 4 + 3, none⟩ = some (.int .i64 eK) ∧ W.cell? ⟨b', off' + i * 4, none⟩ = some (.int .i64 eq') ∧ W.cell? ⟨b', off' + i * 4 + 1, none⟩ = some (.int .i64 eM') ∧ W.cell? ⟨b', off' + i * 4 + 2, none⟩ = some (.slice eA' en' ec') ∧ W.cell? ⟨b', off' + i * 4 + 3, none⟩ = some (.int .i64 eK')) (first | with_reducible exact ⟨x0, x1, x2, x3, y0, y1, y2, y3⟩ | with_reducible exact ⟨z0, z1, z2, z3, z4, z5, z6, z7⟩ | go_keep) (first | (go_at_call 51; refine (cond_same _ _ _ _ _ _ exs _ _ _ _ _ _ exs' _ hin hin').mono ?_; rintro e w4 ⟨rfl, hb⟩; rw [HV.out]; have hbe := (Below.refl wr.heap.size wr).drew.trans hb; have z0 := (hbe.cell (p := ⟨b, off + i * 4, none⟩) hblt).trans x0; have z1 := (hbe.cell (p := ⟨b, off + i * 4 + 1, none⟩) hblt).trans x1; have z2 := (hbe.cell (p := ⟨b, off + i * 4 + 2, none⟩) hblt).trans x2; have z3 := (hbe.cell (p := ⟨b, off + i * 4 + 3, none⟩) hblt).trans x3; have z4 := (hbe.cell (p := ⟨b', off' + i * 4, none⟩) hblt').trans y0; have z5 := (hbe.cell (p := ⟨b', off' + i * 4 + 1, none⟩) hblt').trans y1; have z6 := (hbe.cell (p := ⟨b', off' + i * 4 + 2, none⟩) hblt').trans y2; have z7 := (hbe.cell (p := ⟨b', off' + i * 4 + 3, none⟩) hblt').trans y3; replace hbd := hbd.trans (hb.mono hbd.size)))
          all_goals
            go_wp2
            go_roundw
            case rel => exact ⟨i + 1, by omega, by go_num, (fun j x y hj hjx hjy => by
              rcases Nat.lt_or_eq_of_le (Nat.le_of_lt_succ hj) with h | rfl
              · exact HG.out j x y h hjx hjy
              · rw [HEJ.out] at hjx; rw [HEJ'.out] at hjy; cases hjx; cases hjy; exact HV.out), hbd⟩
            case measure => simp [intOf]; omega
      · have hge : ¬ ((i : Int) < m) := by omega
        have HR := Lib.hid (show er = true by rw [← HE.out]; exact sameL_yes (by rw [HL.out, HL'.out]) fun j x y hj => HG.out j x y (by have := HL.out; omega))
        go_wp2
        go_ret
        exact ⟨ret_bool HR.out.symm, hbr⟩
  · have HR := Lib.hid (show sameP els els' = false from sameL_len (by rw [C0.len, C1.len]; exact hmm))
    have q1 : ((m : Int) != (m' : Int)) = true := by simpa using fun e => hmm (by omega)
    have q2 : ((m : Int) == (m' : Int)) = false := by simpa using fun e => hmm (by omega)
    clear C0 C1 hmm
    go_enter Try.func27, Try.ntmps27
    go_wp2
    go_ret
    exact ⟨ret_bool HR.out.symm, Below.refl _ _⟩
set_option maxHeartbeats 4000000 in
theorem same_set (D : Int) (A : Option Addr) (n c : Nat) (ps : List PEl) (D' : Int) (A' : Option Addr) (n' c' : Nat) (ps' : List PEl) (w : World) (h : PiecesAt w A n ps) (h' : PiecesAt w A' n' ps') :
    Calls Try.prog 36 #[setV D A n c, setV D' A' n' c'] w fun e w' => e = .returned (.bool (sameS D ps D' ps')) ∧ Below w.heap.size w w' := by
  have b1 := below_alloc w (.cells #[.int .i64 D, .slice A n c] 24)
  have hB := below_step b1 (below_alloc _ (.cells #[.int .i64 D', .slice A' n' c'] 24))
  have P0 := h.step hB
  have P1 := h'.step hB
  have B1 := (SetBox.new w D A n c).alloc (.cells #[.int .i64 D', .slice A' n' c'] 24)
  have B2 := SetBox.new (w.alloc (.cells #[.int .i64 D, .slice A n c] 24)) D' A' n' c'
  rw [World.size_alloc] at B2
  have c0 := B1.c0
  have c1 := B1.c1
  have d0 := B2.c0
  have d1 := B2.c1
  have hl := h.len
  have hl' := h'.len
  have hsm := h.small
  have hsm' := h'.small
  clear b1 h h'
  by_cases hD : D = D'
  · by_cases hnn : n = n'
    · subst hD hnn
      have HL := Lib.hid hl
      have HL' := Lib.hid hl'
      obtain ⟨er, her⟩ : ∃ er, sameS D ps D ps' = er := ⟨_, rfl⟩
      rw [her]
      have HE := Lib.hid (show sameL (fun p p' => sameP p.els p'.els) ps ps' = er by rw [← her]; simp [sameS])
      clear her hl hl'
      go_enter Try.func36, Try.ntmps36
      go_wp2
      generalize hw0 : (w.alloc (.cells #[.int .i64 D, .slice A n c] 24)).alloc (.cells #[.int .i64 D, .slice A' n c'] 24) = w0 at *
      clear hw0 c0 c1 d0 d1
      go_loopw [23] (fun v wr => ∃ i : Nat, i ≤ n ∧ v = .int .i64 i ∧ (∀ j x y, j < i → ps[j]? = some x → ps'[j]? = some y → sameP x.els y.els = true) ∧ Below w0.heap.size w0 wr) (fun v _ => n - (intOf v).toNat)
      case atStart => exact ⟨0, Nat.zero_le _, rfl, (fun j x y h => absurd h (by omega)), Below.refl _ _⟩
      case round =>
        obtain ⟨i, hi, rfl, hgood, hbr⟩ := hrel
        have HG := Lib.hid hgood
        clear hgood
        by_cases hlt : i < n
        · obtain ⟨b, off, p, hA2, hblt, hpj, hmem, x2, hin⟩ := (P0.step hbr).at hlt
          obtain ⟨b', off', p', hA3, hblt', hpj', hmem', x3, hin'⟩ := (P1.step hbr).at hlt
          obtain ⟨pA, pn, pc, pels⟩ := p
          obtain ⟨pA', pn', pc', pels'⟩ := p'
          simp only at x2 x3 hin hin'
          have HPJ := Lib.hid hpj
          have HPJ' := Lib.hid hpj'
          subst hA2 hA3
          have hq1 : (i : Int) < n := by omega
          replace hin := hin.step (Below.refl _ wr).drew
          replace hin' := hin'.step (Below.refl _ wr).drew
          have B3 := B1.step hbr
          have B4 := B2.step hbr
          have x0 := B3.c1
          have x1 := B4.c1
          have hbd := hbr.drew
          clear hpj hpj' hmem hmem' hbr
          cases hv : sameP pels pels'
          · have HV := Lib.hid hv
            have HR := Lib.hid (show er = false by rw [← HE.out]; exact sameL_no HPJ.out HPJ'.out hv)
            clear hv
            go_wp2
            go_region_held3 (fun W => W.cell? ⟨w.heap.size, 1, none⟩ = some (.slice (some ⟨b, off, none⟩) n c) ∧ W.cell? ⟨w.heap.size + 1, 1, none⟩ = some (.slice (some ⟨b', off', none⟩) n c') ∧ W.cell? ⟨b, off + i, none⟩ = some (.slice pA pn pc) ∧ W.cell? ⟨b', off' + i, none⟩ = some (.slice pA' pn' pc')) (first | with_reducible exact ⟨x0, x1, x2, x3⟩ | with_reducible exact ⟨z0, z1, z2, z3⟩ | go_keep) (first | (go_at_call 27; refine (same_piece _ _ _ pels _ _ _ pels' _ hin hin').mono ?_; rintro e w4 ⟨rfl, hb⟩; rw [HV.out]; have hbe := (Below.refl wr.heap.size wr).drew.trans hb; have z0 := (hbe.cell (p := ⟨w.heap.size, 1, none⟩) B3.lt).trans x0; have z1 := (hbe.cell (p := ⟨w.heap.size + 1, 1, none⟩) B4.lt).trans x1; have z2 := (hbe.cell (p := ⟨b, off + i, none⟩) hblt).trans x2; have z3 := (hbe.cell (p := ⟨b', off' + i, none⟩) hblt').trans x3; replace hbd := hbd.trans (hb.mono hbd.size)))
            all_goals
              go_wp2
              go_ret
              exact ⟨ret_bool HR.out.symm, below_step hB hbd⟩
          · have HV := Lib.hid hv
            clear hv
            go_wp2
            go_region_held3 (fun W => W.cell? ⟨w.heap.size, 1, none⟩ = some (.slice (some ⟨b, off, none⟩) n c) ∧ W.cell? ⟨w.heap.size + 1, 1, none⟩ = some (.slice (some ⟨b', off', none⟩) n c') ∧ W.cell? ⟨b, off + i, none⟩ = some (.slice pA pn pc) ∧ W.cell? ⟨b', off' + i, none⟩ = some (.slice pA' pn' pc')) (first | with_reducible exact ⟨x0, x1, x2, x3⟩ | with_reducible exact ⟨z0, z1, z2, z3⟩ | go_keep) (first | (go_at_call 27; refine (same_piece _ _ _ pels _ _ _ pels' _ hin hin').mono ?_; rintro e w4 ⟨rfl, hb⟩; rw [HV.out]; have hbe := (Below.refl wr.heap.size wr).drew.trans hb; have z0 := (hbe.cell (p := ⟨w.heap.size, 1, none⟩) B3.lt).trans x0; have z1 := (hbe.cell (p := ⟨w.heap.size + 1, 1, none⟩) B4.lt).trans x1; have z2 := (hbe.cell (p := ⟨b, off + i, none⟩) hblt).trans x2; have z3 := (hbe.cell (p := ⟨b', off' + i, none⟩) hblt').trans x3; replace hbd := hbd.trans (hb.mono hbd.size)))
            all_goals
              go_wp2
              go_roundw
              case rel => exact ⟨i + 1, by omega, by go_num, (fun j x y hj hjx hjy => by
                rcases Nat.lt_or_eq_of_le (Nat.le_of_lt_succ hj) with h | rfl
                · exact HG.out j x y h hjx hjy
                · rw [HPJ.out] at hjx; rw [HPJ'.out] at hjy; cases hjx; cases hjy; exact HV.out), hbd⟩
              case measure => simp [intOf]; omega
        · have hge : ¬ ((i : Int) < n) := by omega
          have HR := Lib.hid (show er = true by rw [← HE.out]; exact sameL_yes (by rw [HL.out, HL'.out]) fun j x y hj => HG.out j x y (by have := HL.out; omega))
          go_wp2
          go_ret
          exact ⟨ret_bool HR.out.symm, below_step hB hbr⟩
    · have HR := Lib.hid (show sameS D ps D' ps' = false by unfold sameS; rw [sameL_len (by rw [hl, hl']; exact hnn), Bool.and_false])
      have q1 : ((n : Int) != (n' : Int)) = true := by simpa using fun e => hnn (by omega)
      have q2 : ((n : Int) == (n' : Int)) = false := by simpa using fun e => hnn (by omega)
      subst hD
      clear hl hl' hnn
      go_enter Try.func36, Try.ntmps36
      go_wp2
      go_ret
      exact ⟨ret_bool HR.out.symm, hB⟩
  · have HR := Lib.hid (show sameS D ps D' ps' = false by unfold sameS; rw [beq_eq_false_iff_ne.2 hD, Bool.false_and])
    have q1 : (D != D') = true := by simpa using hD
    have q2 : (D == D') = false := by simpa using hD
    clear hl hl' hD
    go_enter Try.func36, Try.ntmps36
    go_wp2
    go_ret
    exact ⟨ret_bool HR.out.symm, hB⟩
end Go.Proofs.Ytkgnlloioaobiaa
namespace Go.Proofs.Ytkgnlloioaobiaa
open Go.RowKit
def CEl.data (e : CEl) : Int × Int × List Int × Int := (e.q, e.M, e.xs, e.K)
def dataS (ps : List PEl) : List (List (Int × Int × List Int × Int)) := ps.map fun p => p.els.map CEl.data
theorem same_data {e e' : CEl} (h : e.data = e'.data) : e.same e' = true := by
  obtain ⟨q, M, A, n, c, K, xs⟩ := e
  obtain ⟨q', M', A', n', c', K', xs'⟩ := e'
  simp only [CEl.data, Prod.mk.injEq] at h
  obtain ⟨rfl, rfl, rfl, rfl⟩ := h
  show sameC q M xs K q M xs K = true
  unfold sameC
  simp [sameB_self]
theorem sameP_data : ∀ {l l' : List CEl}, l.map CEl.data = l'.map CEl.data → sameP l l' = true
  | [], [], _ => rfl
  | [], _ :: _, h => by simp at h
  | _ :: _, [], h => by simp at h
  | a :: l, b :: l', h => by
    simp only [List.map_cons, List.cons.injEq] at h
    show (a.same b && sameP l l') = true
    rw [same_data h.1, sameP_data h.2]; rfl
theorem sameL_data : ∀ {l l' : List PEl}, dataS l = dataS l' → sameL (fun p p' => sameP p.els p'.els) l l' = true
  | [], [], _ => rfl
  | [], _ :: _, h => by simp [dataS] at h
  | _ :: _, [], h => by simp [dataS] at h
  | a :: l, b :: l', h => by
    simp only [dataS, List.map_cons, List.cons.injEq] at h
    show (sameP a.els b.els && sameL _ l l') = true
    rw [sameP_data h.1, sameL_data h.2]; rfl
theorem sameS_data {D : Int} {l l' : List PEl} (h : dataS l = dataS l') : sameS D l D l' = true := by
  unfold sameS; rw [sameL_data h]; simp
theorem sis_same (D : Int) (A : Option Addr) (n c : Nat) (ps : List PEl) (A' : Option Addr) (n' c' : Nat) (ps' : List PEl) (e : Int) (w : World) (h : PiecesAt w A n ps) (h' : PiecesAt w A' n' ps') (hd : dataS ps = dataS ps') :
    Calls Try.prog 18 #[setV D A n c, .int .i64 e, setV D A' n' c', .int .i64 e] w fun e w' => e = .returned (.bool true) ∧ Below w.heap.size w w' := by
  have hB := below_step (below_alloc w (.cells #[.int .i64 D, .slice A n c] 24)) (below_alloc _ (.cells #[.int .i64 D, .slice A' n' c'] 24))
  have h1 := h.step hB
  have h2 := h'.step hB
  have HD := Lib.hid (sameS_data (D := D) hd)
  clear h h' hd
  go_enter Try.func18, Try.ntmps18
  go_wp2_with (go_at_call 36; refine (same_set _ _ _ _ ps _ _ _ _ ps' _ h1 h2).mono ?_; rintro e w3 ⟨rfl, hb3⟩; rw [HD.out]; replace hB := below_step hB hb3)
  go_ret
  exact ⟨rfl, hB⟩
end Go.Proofs.Ytkgnlloioaobiaa
namespace Go.Proofs.Ytkgnlloioaobiaa
open Go.RowKit
theorem conds_row {w : World} {g : Nat} {els : List CEl} (hg : w.heap[g]? = some (.cells (ccells els).toArray 55 (0, 0))) (hi : ∀ e ∈ els, IntsAt w e.A e.n e.xs) (hl : els.length ≤ 1000) : CondsAt w (some ⟨g, 0, none⟩) els.length els := by
  have key : ∀ (k : Nat) (v : Value), (ccells els)[k]? = some v → w.cell? ⟨g, k, none⟩ = some v := fun k v hv => by rw [cell_of_row w g k _ _ (0, 0) hg]; simpa using hv
  refine ⟨rfl, by omega, fun _ => ⟨g, 0, rfl, (Array.getElem?_eq_some_iff.1 hg).1, fun j e he => ?_⟩, hi⟩
  obtain ⟨h0, h1, h2, h3⟩ := ccells_at els j e he
  rw [Nat.zero_add]
  exact ⟨key _ _ h0, key _ _ h1, key _ _ h2, key _ _ h3⟩
theorem pieces_row {w : World} {g : Nat} {ps : List PEl} (hg : w.heap[g]? = some (.cells (ps.map PEl.v).toArray 40 (0, 0))) (hc : ∀ p ∈ ps, CondsAt w p.A p.n p.els) (hl : ps.length ≤ 1000) : PiecesAt w (some ⟨g, 0, none⟩) ps.length ps := by
  refine ⟨rfl, by omega, fun _ => ⟨g, 0, rfl, (Array.getElem?_eq_some_iff.1 hg).1, fun j p hp => ?_⟩, hc⟩
  rw [Nat.zero_add, cell_of_row w g j _ _ (0, 0) hg]
  simp [hp, PEl.v]
def atE (A : Option Addr) (a k : Int) : CEl := ⟨0, 0, A, 1, 1, k, [a]⟩
theorem conds_two {w : World} {A B : Option Addr} {a b k l : Int} (hA : IntsAt w A 1 [a]) (hB : IntsAt w B 1 [b]) :
    CondsAt (w.alloc (.cells #[.int .i64 0, .int .i64 0, .slice A 1 1, .int .i64 k, .int .i64 0, .int .i64 0, .slice B 1 1, .int .i64 l] 55)) (some ⟨w.heap.size, 0, none⟩) 2 [atE A a k, atE B b l] := by
  have hb := below_alloc w (.cells #[.int .i64 0, .int .i64 0, .slice A 1 1, .int .i64 k, .int .i64 0, .int .i64 0, .slice B 1 1, .int .i64 l] 55)
  refine conds_row (els := [atE A a k, atE B b l]) (heap_alloc_new w _) (fun e he => ?_) (by simp)
  rcases List.mem_cons.1 he with rfl | he
  · exact hA.step hb
  · rw [List.mem_singleton.1 he]; exact hB.step hb
theorem pieces_single {w : World} {p : PEl} (h : CondsAt w p.A p.n p.els) : PiecesAt (w.alloc (.cells #[.slice p.A p.n p.c] 40)) (some ⟨w.heap.size, 0, none⟩) 1 [p] := by
  refine pieces_row (ps := [p]) (heap_alloc_new w _) (fun q hq => ?_) (by simp)
  rw [List.mem_singleton.1 hq]
  exact h.step (below_alloc w _)
theorem pieces_two {w : World} {p q : PEl} (h : CondsAt w p.A p.n p.els) (h' : CondsAt w q.A q.n q.els) : PiecesAt (w.alloc (.cells #[.slice p.A p.n p.c, .slice q.A q.n q.c] 40)) (some ⟨w.heap.size, 0, none⟩) 2 [p, q] := by
  refine pieces_row (ps := [p, q]) (heap_alloc_new w _) (fun x hx => ?_) (by simp)
  rcases List.mem_cons.1 hx with rfl | hx
  · exact h.step (below_alloc w _)
  · rw [List.mem_singleton.1 hx]; exact h'.step (below_alloc w _)
theorem one_row (w : World) (a : Int) (ha : -9223372036854775808 ≤ a ∧ a ≤ 9223372036854775807) :
    IntsAt (w.alloc (.cells #[.int .i64 a] 3)) (some ⟨w.heap.size, 0, none⟩) 1 [a] :=
  (OwnRow.new w [a] 1 rfl).ints (by omega) (fun x hx => by rw [List.mem_singleton] at hx; subst hx; exact ha)
theorem law_at (a k : Int) (ha : -9223372036854775808 ≤ a ∧ a ≤ 9223372036854775807) (w : World) : Calls Try.prog 38 #[.int .i64 a, .int .i64 k] w fun e w' => ∃ A, e = .returned (condV 0 0 A 1 1 k) ∧ IntsAt w' A 1 [a] ∧ Below w.heap.size w w' := by
  have I1 : ∀ x : Int, IntsAt ((w.alloc (.cells #[.int .i64 0, .int .i64 0, .slice (some ⟨w.heap.size + 1, 0, none⟩) 1 1, .int .i64 x] 55)).alloc (.cells #[.int .i64 a] 3)) (some ⟨w.heap.size + 1, 0, none⟩) 1 [a] := fun x => by
    have := one_row (w.alloc (.cells #[.int .i64 0, .int .i64 0, .slice (some ⟨w.heap.size + 1, 0, none⟩) 1 1, .int .i64 x] 55)) a ha
    rw [World.size_alloc] at this
    exact this
  have hB := below_step (below_alloc w (.cells #[.int .i64 0, .int .i64 0, .slice (some ⟨w.heap.size + 1, 0, none⟩) 1 1, .int .i64 k] 55)) (below_alloc _ (.cells #[.int .i64 a] 3))
  go_enter Try.func38, Try.ntmps38
  go_wp2
  refine bodyPost_ret (v := condV 0 0 (some ⟨w.heap.size + 1, 0, none⟩) 1 1 k) (by simp [results, Try.results38, go_sem]) rfl ?_
  exact ⟨_, rfl, I1 k, hB⟩
theorem data_dat {l l' : List PEl} (h : l.map PEl.dat = l'.map PEl.dat) : dataS l = dataS l' := by
  have key : ∀ l : List PEl, dataS l = (l.map PEl.dat).map fun ds => ds.map fun d => (d.q, d.M, d.xs, d.K) := fun l => by
    unfold dataS
    rw [List.map_map]
    refine List.map_congr_left fun p _ => ?_
    simp [PEl.dat, CEl.data, CEl.d]
  rw [key, key, h]
end Go.Proofs.Ytkgnlloioaobiaa
namespace Go.Proofs.Ytkgnlloioaobiaa
open Go.RowKit
def awM : List (List CD) := [[⟨0, 0, [-1], 5⟩, ⟨0, 0, [1], -4⟩], [⟨0, 0, [-1], 1⟩, ⟨0, 0, [1], 0⟩]]
def awN : List (List CD) := [[⟨1, 0, [1], -3⟩]]
theorem aw_minus_call {w : World} {B1 B2 g1 g2 A1 A2 A3 A4 : Option Addr} (Q1 : PiecesAt w B1 1 [⟨g1, 2, 2, [atE A1 1 0, atE A2 (-1) 5]⟩]) (Q3 : PiecesAt w B2 1 [⟨g2, 2, 2, [atE A3 1 (-2), atE A4 (-1) 3]⟩]) :
    Calls Try.prog 28 #[setV 1 B1 1 1, setV 1 B2 1 1] w fun e w' => GatherRet 1 w e w' 1 (0, awM) := by
  have h := set_minus 1 B1 1 1 _ B2 1 1 _ w Q1 Q3 (by kernel_rfl) (by kernel_rfl)
  have e : minusD (1 : Int).toNat (List.map PEl.dat [⟨g1, 2, 2, [atE A1 1 0, atE A2 (-1) 5]⟩]) (List.map PEl.dat [⟨g2, 2, 2, [atE A3 1 (-2), atE A4 (-1) 3]⟩]) = (0, awM) := aw_minus
  rw [e] at h
  exact h
theorem aw_norm_call {w : World} {B1 g1 A1 A2 : Option Addr} (Q1 : PiecesAt w B1 1 [⟨g1, 2, 2, [atE A1 1 (-3), atE A2 (-1) 3]⟩]) :
    Calls Try.prog 32 #[setV 1 B1 1 1] w fun e w' => GatherRet 1 w e w' 1 (0, awN) := by
  have h := set_normal 1 B1 1 1 _ w Q1 (by kernel_rfl)
  have e : gatherD (1 : Int).toNat (List.map PEl.dat [⟨g1, 2, 2, [atE A1 1 (-3), atE A2 (-1) 3]⟩]) = (0, awN) := aw_three
  rw [e] at h
  exact h
theorem aw_core {w : World} {A : Option Addr} {n c : Nat} {ps : List PEl} {A' : Option Addr} {n' c' : Nat} {ps' : List PEl} (h : PiecesAt w A n ps) (h' : PiecesAt w A' n' ps') (hd : ps.map PEl.dat = ps'.map PEl.dat) :
    Calls Try.prog 36 #[setV 1 A n c, setV 1 A' n' c'] w fun e w' => e = .returned (.bool true) ∧ Below w.heap.size w w' := by
  have := same_set 1 A n c ps 1 A' n' c' ps' w h h'
  rw [sameS_data (data_dat hd)] at this
  exact this
theorem aw_ga {w : World} {g : Nat} {A7 A8 A9 A10 : Option Addr} (R : w.heap[g]? = some (.cells (ccells [atE A7 (-1) 5, atE A8 1 (-4)]).toArray 55 (0, 0))) (I7 : IntsAt w A7 1 [-1]) (I8 : IntsAt w A8 1 [1]) (I9 : IntsAt w A9 1 [-1]) (I10 : IntsAt w A10 1 [1]) :
    PiecesAt ((w.alloc (.cells #[.int .i64 0, .int .i64 0, .slice A9 1 1, .int .i64 1, .int .i64 0, .int .i64 0, .slice A10 1 1, .int .i64 0] 55)).alloc (.cells #[.slice (some ⟨g, 0, none⟩) 2 2, .slice (some ⟨w.heap.size, 0, none⟩) 2 2] 40)) (some ⟨w.heap.size + 1, 0, none⟩) 2 [⟨some ⟨g, 0, none⟩, 2, 2, [atE A7 (-1) 5, atE A8 1 (-4)]⟩, ⟨some ⟨w.heap.size, 0, none⟩, 2, 2, [atE A9 (-1) 1, atE A10 1 0]⟩] := by
  have C2 := conds_two (k := 1) (l := 0) I9 I10
  have C1 : CondsAt w (some ⟨g, 0, none⟩) 2 [atE A7 (-1) 5, atE A8 1 (-4)] := conds_row (els := [atE A7 (-1) 5, atE A8 1 (-4)]) R (fun e he => by
    rcases List.mem_cons.1 he with rfl | he
    · exact I7
    · rw [List.mem_singleton.1 he]; exact I8) (by simp)
  have h := pieces_two (p := ⟨some ⟨g, 0, none⟩, 2, 2, [atE A7 (-1) 5, atE A8 1 (-4)]⟩) (q := ⟨some ⟨w.heap.size, 0, none⟩, 2, 2, [atE A9 (-1) 1, atE A10 1 0]⟩) (C1.step (below_alloc w (.cells #[.int .i64 0, .int .i64 0, .slice A9 1 1, .int .i64 1, .int .i64 0, .int .i64 0, .slice A10 1 1, .int .i64 0] 55))) C2
  rw [World.size_alloc] at h
  exact h
theorem aw_gb {w : World} {A7 A8 A9 A10 : Option Addr} (I7 : IntsAt w A7 1 [-1]) (I8 : IntsAt w A8 1 [1]) (I9 : IntsAt w A9 1 [-1]) (I10 : IntsAt w A10 1 [1]) :
    PiecesAt (((w.alloc (.cells #[.int .i64 0, .int .i64 0, .slice A7 1 1, .int .i64 5, .int .i64 0, .int .i64 0, .slice A8 1 1, .int .i64 (-4)] 55)).alloc (.cells #[.int .i64 0, .int .i64 0, .slice A9 1 1, .int .i64 1, .int .i64 0, .int .i64 0, .slice A10 1 1, .int .i64 0] 55)).alloc (.cells #[.slice (some ⟨w.heap.size, 0, none⟩) 2 2, .slice (some ⟨w.heap.size + 1, 0, none⟩) 2 2] 40)) (some ⟨w.heap.size + 1 + 1, 0, none⟩) 2 [⟨some ⟨w.heap.size, 0, none⟩, 2, 2, [atE A7 (-1) 5, atE A8 1 (-4)]⟩, ⟨some ⟨w.heap.size + 1, 0, none⟩, 2, 2, [atE A9 (-1) 1, atE A10 1 0]⟩] := by
  have b := below_alloc w (.cells #[.int .i64 0, .int .i64 0, .slice A7 1 1, .int .i64 5, .int .i64 0, .int .i64 0, .slice A8 1 1, .int .i64 (-4)] 55)
  have h := aw_ga (g := w.heap.size) (heap_alloc_new w (.cells #[.int .i64 0, .int .i64 0, .slice A7 1 1, .int .i64 5, .int .i64 0, .int .i64 0, .slice A8 1 1, .int .i64 (-4)] 55)) (I7.step b) (I8.step b) (I9.step b) (I10.step b)
  rw [World.size_alloc] at h
  exact h
theorem aw_gc {w : World} {A7 A8 A9 A10 : Option Addr} (I7 : IntsAt w A7 1 [-1]) (I8 : IntsAt w A8 1 [1]) (I9 : IntsAt w A9 1 [-1]) (I10 : IntsAt w A10 1 [1]) :
    PiecesAt (((w.alloc (.cells #[.int .i64 0, .int .i64 0, .slice A9 1 1, .int .i64 1, .int .i64 0, .int .i64 0, .slice A10 1 1, .int .i64 0] 55)).alloc (.cells #[.int .i64 0, .int .i64 0, .slice A7 1 1, .int .i64 5, .int .i64 0, .int .i64 0, .slice A8 1 1, .int .i64 (-4)] 55)).alloc (.cells #[.slice (some ⟨w.heap.size + 1, 0, none⟩) 2 2, .slice (some ⟨w.heap.size, 0, none⟩) 2 2] 40)) (some ⟨w.heap.size + 1 + 1, 0, none⟩) 2 [⟨some ⟨w.heap.size + 1, 0, none⟩, 2, 2, [atE A7 (-1) 5, atE A8 1 (-4)]⟩, ⟨some ⟨w.heap.size, 0, none⟩, 2, 2, [atE A9 (-1) 1, atE A10 1 0]⟩] := by
  have b := below_alloc w (.cells #[.int .i64 0, .int .i64 0, .slice A9 1 1, .int .i64 1, .int .i64 0, .int .i64 0, .slice A10 1 1, .int .i64 0] 55)
  have C2 := (conds_two (k := 1) (l := 0) I9 I10).step (below_alloc _ (.cells #[.int .i64 0, .int .i64 0, .slice A7 1 1, .int .i64 5, .int .i64 0, .int .i64 0, .slice A8 1 1, .int .i64 (-4)] 55))
  have C1 := conds_two (w := w.alloc (.cells #[.int .i64 0, .int .i64 0, .slice A9 1 1, .int .i64 1, .int .i64 0, .int .i64 0, .slice A10 1 1, .int .i64 0] 55)) (k := 5) (l := -4) (I7.step b) (I8.step b)
  rw [World.size_alloc] at C1
  have h := pieces_two (p := ⟨some ⟨w.heap.size + 1, 0, none⟩, 2, 2, [atE A7 (-1) 5, atE A8 1 (-4)]⟩) (q := ⟨some ⟨w.heap.size, 0, none⟩, 2, 2, [atE A9 (-1) 1, atE A10 1 0]⟩) C1 C2
  rw [World.size_alloc, World.size_alloc] at h
  exact h
theorem aw_gn {w : World} {B : Option Addr} (I : IntsAt w B 1 [1]) :
    PiecesAt ((w.alloc (.cells #[.int .i64 1, .int .i64 0, .slice B 1 1, .int .i64 (-3)] 55)).alloc (.cells #[.slice (some ⟨w.heap.size, 0, none⟩) 1 1] 40)) (some ⟨w.heap.size + 1, 0, none⟩) 1 [⟨some ⟨w.heap.size, 0, none⟩, 1, 1, [⟨1, 0, B, 1, 1, -3, [1]⟩]⟩] := by
  have C := conds_row (els := [⟨1, 0, B, 1, 1, -3, [1]⟩]) (heap_alloc_new w (.cells #[.int .i64 1, .int .i64 0, .slice B 1 1, .int .i64 (-3)] 55)) (fun e he => by
    rw [List.mem_singleton.1 he]
    exact I.step (below_alloc w _)) (by simp)
  have h := pieces_single (p := ⟨some ⟨w.heap.size, 0, none⟩, 1, 1, [⟨1, 0, B, 1, 1, -3, [1]⟩]⟩) C
  rw [World.size_alloc] at h
  exact h
set_option maxHeartbeats 16000000 in
theorem awake4 (w : World) : Calls Try.prog 11 #[] w fun e w' => e = .returned (.bool true) ∧ Below w.heap.size w w' := by
  have hB := Below.refl w.heap.size w
  have T1 : True := trivial
  have T2 : True := trivial
  have T3 : True := trivial
  have T4 : True := trivial
  have T5 : True := trivial
  have T6 : True := trivial
  have T7 : True := trivial
  have T8 : True := trivial
  have T9 : True := trivial
  have T10 : True := trivial
  have T11 : True := trivial
  go_enter Try.func11, Try.ntmps11
  go_wp2_with (first
    | (go_at_call 38; have t1 := T1; clear T1 t1; refine (law_at 1 0 (by omega) _).mono ?_; rintro e w1 ⟨A1, rfl, I1, hb⟩; replace hB := below_step hB hb; clear hb)
    | (go_at_call 38; have t1 := T2; clear T2 t1; refine (law_at (-1) 5 (by omega) _).mono ?_; rintro e w2 ⟨A2, rfl, I2, hb⟩; replace hB := below_step hB hb; replace I1 := I1.step hb; clear hb; have C1 := conds_two (k := 0) (l := 5) I1 I2; have Q1 := pieces_single (p := ⟨some ⟨w2.heap.size, 0, none⟩, 2, 2, [atE A1 1 0, atE A2 (-1) 5]⟩) C1; rw [World.size_alloc] at Q1; clear C1 I1 I2; have b9 := below_step (below_alloc w2 (.cells #[.int .i64 0, .int .i64 0, .slice A1 1 1, .int .i64 0, .int .i64 0, .int .i64 0, .slice A2 1 1, .int .i64 5] 55)) (below_alloc (w2.alloc (.cells #[.int .i64 0, .int .i64 0, .slice A1 1 1, .int .i64 0, .int .i64 0, .int .i64 0, .slice A2 1 1, .int .i64 5] 55)) (.cells #[.slice (some ⟨w2.heap.size, 0, none⟩) 2 2] 40)); replace hB := below_step hB b9; clear b9; have b9 := below_alloc ((w2.alloc (.cells #[.int .i64 0, .int .i64 0, .slice A1 1 1, .int .i64 0, .int .i64 0, .int .i64 0, .slice A2 1 1, .int .i64 5] 55)).alloc (.cells #[.slice (some ⟨w2.heap.size, 0, none⟩) 2 2] 40)) (.cells #[.int .i64 1, .slice (some ⟨w2.heap.size + 1, 0, none⟩) 1 1] 24); have X1 := SetBox.new ((w2.alloc (.cells #[.int .i64 0, .int .i64 0, .slice A1 1 1, .int .i64 0, .int .i64 0, .int .i64 0, .slice A2 1 1, .int .i64 5] 55)).alloc (.cells #[.slice (some ⟨w2.heap.size, 0, none⟩) 2 2] 40)) 1 (some ⟨w2.heap.size + 1, 0, none⟩) 1 1; replace hB := below_step hB b9; replace Q1 := Q1.step b9; clear b9; simp only [World.size_alloc] at X1)
    | (go_at_call 38; have t1 := T3; clear T3 t1; refine (law_at 1 (-2) (by omega) _).mono ?_; rintro e w3 ⟨A3, rfl, I3, hb⟩; replace hB := below_step hB hb; replace Q1 := Q1.step hb; replace X1 := X1.step hb; clear hb)
    | (go_at_call 38; have t1 := T4; clear T4 t1; refine (law_at (-1) 3 (by omega) _).mono ?_; rintro e w4 ⟨A4, rfl, I4, hb⟩; replace hB := below_step hB hb; replace Q1 := Q1.step hb; replace X1 := X1.step hb; replace I3 := I3.step hb; clear hb; have C3 := conds_two (k := (-2)) (l := 3) I3 I4; have Q3 := pieces_single (p := ⟨some ⟨w4.heap.size, 0, none⟩, 2, 2, [atE A3 1 (-2), atE A4 (-1) 3]⟩) C3; rw [World.size_alloc] at Q3; clear C3 I3 I4; have b9 := below_step (below_alloc w4 (.cells #[.int .i64 0, .int .i64 0, .slice A3 1 1, .int .i64 (-2), .int .i64 0, .int .i64 0, .slice A4 1 1, .int .i64 3] 55)) (below_alloc (w4.alloc (.cells #[.int .i64 0, .int .i64 0, .slice A3 1 1, .int .i64 (-2), .int .i64 0, .int .i64 0, .slice A4 1 1, .int .i64 3] 55)) (.cells #[.slice (some ⟨w4.heap.size, 0, none⟩) 2 2] 40)); replace hB := below_step hB b9; replace Q1 := Q1.step b9; replace X1 := X1.step b9; clear b9; have b9 := below_alloc ((w4.alloc (.cells #[.int .i64 0, .int .i64 0, .slice A3 1 1, .int .i64 (-2), .int .i64 0, .int .i64 0, .slice A4 1 1, .int .i64 3] 55)).alloc (.cells #[.slice (some ⟨w4.heap.size, 0, none⟩) 2 2] 40)) (.cells #[.int .i64 1, .slice (some ⟨w4.heap.size + 1, 0, none⟩) 1 1] 24); have X3 := SetBox.new ((w4.alloc (.cells #[.int .i64 0, .int .i64 0, .slice A3 1 1, .int .i64 (-2), .int .i64 0, .int .i64 0, .slice A4 1 1, .int .i64 3] 55)).alloc (.cells #[.slice (some ⟨w4.heap.size, 0, none⟩) 2 2] 40)) 1 (some ⟨w4.heap.size + 1, 0, none⟩) 1 1; replace hB := below_step hB b9; replace Q1 := Q1.step b9; replace X1 := X1.step b9; replace Q3 := Q3.step b9; clear b9; simp only [World.size_alloc] at X3; have c0 := X1.c0; have c1 := X1.c1; have d0 := X3.c0; have d1 := X3.c1)
    | (go_at_call 28; refine (aw_minus_call Q1 Q3).mono ?_; rintro e w5 hG; obtain ⟨A50, k50, c50, us, rfl, HP, -, HD, -, hb⟩ := gather_ok hG; have b9 := below_alloc w5 (.cells #[.int .i64 1, .slice A50 k50 c50] 24); replace hB := below_step (below_step hB hb) b9; replace HP := HP.step b9; have M5 := SetBox.new w5 1 A50 k50 c50; clear hG hb b9 X1 X3 Q1 Q3 c0 c1 d0 d1)
    | (go_at_call 38; have t1 := T5; clear T5 t1; refine (law_at 1 (-3) (by omega) _).mono ?_; rintro e w6 ⟨A5, rfl, I5, hb⟩; replace hB := below_step hB hb; replace HP := HP.step hb; replace M5 := M5.step hb; clear hb)
    | (go_at_call 38; have t1 := T6; clear T6 t1; refine (law_at (-1) 3 (by omega) _).mono ?_; rintro e w7 ⟨A6, rfl, I6, hb⟩; replace hB := below_step hB hb; replace HP := HP.step hb; replace M5 := M5.step hb; replace I5 := I5.step hb; clear hb; have C5 := conds_two (k := (-3)) (l := 3) I5 I6; have Q5 := pieces_single (p := ⟨some ⟨w7.heap.size, 0, none⟩, 2, 2, [atE A5 1 (-3), atE A6 (-1) 3]⟩) C5; rw [World.size_alloc] at Q5; clear C5 I5 I6; have b9 := below_step (below_alloc w7 (.cells #[.int .i64 0, .int .i64 0, .slice A5 1 1, .int .i64 (-3), .int .i64 0, .int .i64 0, .slice A6 1 1, .int .i64 3] 55)) (below_alloc (w7.alloc (.cells #[.int .i64 0, .int .i64 0, .slice A5 1 1, .int .i64 (-3), .int .i64 0, .int .i64 0, .slice A6 1 1, .int .i64 3] 55)) (.cells #[.slice (some ⟨w7.heap.size, 0, none⟩) 2 2] 40)); replace hB := below_step hB b9; replace HP := HP.step b9; replace M5 := M5.step b9; clear b9)
    | (go_at_call 32; refine (aw_norm_call Q5).mono ?_; rintro e w8 hG; obtain ⟨A80, k80, c80, vs, rfl, HN, -, HE, -, hb⟩ := gather_ok hG; have b9 := below_step hb (below_alloc w8 (.cells #[.int .i64 1, .slice A80 k80 c80] 24)); replace HN := HN.step (below_alloc w8 (.cells #[.int .i64 1, .slice A80 k80 c80] 24)); have M8 := SetBox.new w8 1 A80 k80 c80; replace hB := below_step hB b9; replace HP := HP.step b9; replace M5 := M5.step b9; clear hG hb b9 Q5))
  have I1 := one_row (w8.alloc (.cells #[.int .i64 1, .slice A80 k80 c80] 24)) 1 (by omega)
  have b1 := below_alloc (w8.alloc (.cells #[.int .i64 1, .slice A80 k80 c80] 24)) (.cells #[.int .i64 1] 3)
  have K7 := CBox.new ((w8.alloc (.cells #[.int .i64 1, .slice A80 k80 c80] 24)).alloc (.cells #[.int .i64 1] 3)) 1 0 (some ⟨w8.heap.size + 1, 0, none⟩) 1 1 (-3)
  have b2 := below_step b1 (below_alloc _ (.cells #[.int .i64 1, .int .i64 0, .slice (some ⟨w8.heap.size + 1, 0, none⟩) 1 1, .int .i64 (-3)] 55))
  have b3 := below_alloc ((w8.alloc (.cells #[.int .i64 1, .slice A80 k80 c80] 24)).alloc (.cells #[.int .i64 1] 3)) (.cells #[.int .i64 1, .int .i64 0, .slice (some ⟨w8.heap.size + 1, 0, none⟩) 1 1, .int .i64 (-3)] 55)
  replace HN := HN.step b2
  replace HP := HP.step b2
  replace M5 := M5.step b2
  replace M8 := M8.step b2
  replace I1 := I1.step b3
  replace hB := below_step hB b2
  simp only [World.size_alloc] at K7 I1
  clear b1 b2 b3
  generalize ((w8.alloc (.cells #[.int .i64 1, .slice A80 k80 c80] 24)).alloc (.cells #[.int .i64 1] 3)).alloc (.cells #[.int .i64 1, .int .i64 0, .slice (some ⟨w8.heap.size + 1, 0, none⟩) 1 1, .int .i64 (-3)] 55) = w9 at *
  have HD := Lib.hid HD
  have HE := Lib.hid HE
  generalize w5.heap.size = b5 at *
  generalize w8.heap.size = b8 at *
  have c0 := M5.c0
  have c1 := M5.c1
  have d0 := M8.c0
  have d1 := M8.c1
  have e0 := K7.c0
  have e1 := K7.c1
  have e2 := K7.c2
  have e3 := K7.c3
  go_region_held3 (fun W => W.cell? ⟨b5, 0, none⟩ = some (.int .i64 1) ∧ W.cell? ⟨b5, 1, none⟩ = some (.slice A50 k50 c50) ∧ W.cell? ⟨b8, 0, none⟩ = some (.int .i64 1) ∧ W.cell? ⟨b8, 1, none⟩ = some (.slice A80 k80 c80) ∧ W.cell? ⟨b8 + 1 + 1, 0, none⟩ = some (.int .i64 1) ∧ W.cell? ⟨b8 + 1 + 1, 1, none⟩ = some (.int .i64 0) ∧ W.cell? ⟨b8 + 1 + 1, 2, none⟩ = some (.slice (some ⟨b8 + 1, 0, none⟩) 1 1) ∧ W.cell? ⟨b8 + 1 + 1, 3, none⟩ = some (.int .i64 (-3))) (first | with_reducible exact ⟨c0, c1, d0, d1, e0, e1, e2, e3⟩ | go_keep)
    (first
      | (go_at_call 38; have t1 := T7; clear T7 t1; refine (law_at (-1) (5) (by omega) _).mono ?_; rintro e w10 ⟨A7, rfl, I7, hb⟩; have hx : Below w9.heap.size w9 w10 := (by first | exact hb | exact below_step (Below.refl _ w9).drew hb | exact below_step (below_alloc _ _) hb); replace HN := HN.step hx; replace HP := HP.step hx; replace M5 := M5.step hx; replace M8 := M8.step hx; replace K7 := K7.step hx; replace I1 := I1.step hx; replace hB := below_step hB hx; clear hb hx; clear c0 c1 d0 d1 e0 e1 e2 e3; have c0 := M5.c0; have c1 := M5.c1; have d0 := M8.c0; have d1 := M8.c1; have e0 := K7.c0; have e1 := K7.c1; have e2 := K7.c2; have e3 := K7.c3)
      | (go_at_call 38; have t1 := T8; clear T8 t1; refine (law_at (1) (-4) (by omega) _).mono ?_; rintro e w11 ⟨A8, rfl, I8, hb⟩; have hx : Below w10.heap.size w10 w11 := (by first | exact hb | exact below_step (Below.refl _ w10).drew hb | exact below_step (below_alloc _ _) hb); replace HN := HN.step hx; replace HP := HP.step hx; replace M5 := M5.step hx; replace M8 := M8.step hx; replace K7 := K7.step hx; replace I1 := I1.step hx; replace I7 := I7.step hx; replace hB := below_step hB hx; clear hb hx; clear c0 c1 d0 d1 e0 e1 e2 e3; have c0 := M5.c0; have c1 := M5.c1; have d0 := M8.c0; have d1 := M8.c1; have e0 := K7.c0; have e1 := K7.c1; have e2 := K7.c2; have e3 := K7.c3)
      | (go_at_call 38; have t1 := T9; clear T9 t1; refine (law_at (-1) (1) (by omega) _).mono ?_; rintro e w12 ⟨A9, rfl, I9, hb⟩; have hx : Below w11.heap.size w11 w12 := (by first | exact hb | exact below_step (Below.refl _ w11).drew hb | exact below_step (below_alloc _ _) hb); (try (have R9 : w12.heap[w11.heap.size]? = some (.cells (ccells [atE A7 (-1) 5, atE A8 1 (-4)]).toArray 55 (0, 0)) := (hb.block _ (by simp)).trans (heap_alloc_new w11 (.cells #[.int .i64 0, .int .i64 0, .slice A7 1 1, .int .i64 5, .int .i64 0, .int .i64 0, .slice A8 1 1, .int .i64 (-4)] 55)))); replace HN := HN.step hx; replace HP := HP.step hx; replace M5 := M5.step hx; replace M8 := M8.step hx; replace K7 := K7.step hx; replace I1 := I1.step hx; replace I7 := I7.step hx; replace I8 := I8.step hx; replace hB := below_step hB hx; clear hb hx; clear c0 c1 d0 d1 e0 e1 e2 e3; have c0 := M5.c0; have c1 := M5.c1; have d0 := M8.c0; have d1 := M8.c1; have e0 := K7.c0; have e1 := K7.c1; have e2 := K7.c2; have e3 := K7.c3)
      | (go_at_call 38; have t1 := T10; clear T10 t1; refine (law_at (1) (0) (by omega) _).mono ?_; rintro e w13 ⟨A10, rfl, I10, hb⟩; have hx : Below w12.heap.size w12 w13 := (by first | exact hb | exact below_step (Below.refl _ w12).drew hb | exact below_step (below_alloc _ _) hb); (try (replace R9 := (hx.block _ (Array.getElem?_eq_some_iff.1 R9).1).trans R9)); (try (have R10 : w13.heap[w12.heap.size]? = some (.cells (ccells [atE A7 (-1) 5, atE A8 1 (-4)]).toArray 55 (0, 0)) := (hb.block _ (by simp)).trans (heap_alloc_new w12 (.cells #[.int .i64 0, .int .i64 0, .slice A7 1 1, .int .i64 5, .int .i64 0, .int .i64 0, .slice A8 1 1, .int .i64 (-4)] 55)))); replace HN := HN.step hx; replace HP := HP.step hx; replace M5 := M5.step hx; replace M8 := M8.step hx; replace K7 := K7.step hx; replace I1 := I1.step hx; replace I7 := I7.step hx; replace I8 := I8.step hx; replace I9 := I9.step hx; replace hB := below_step hB hx; clear hb hx; clear c0 c1 d0 d1 e0 e1 e2 e3; have c0 := M5.c0; have c1 := M5.c1; have d0 := M8.c0; have d1 := M8.c1; have e0 := K7.c0; have e1 := K7.c1; have e2 := K7.c2; have e3 := K7.c3)
      | (go_at_call 36; have t1 := T11; clear T11 t1; (first | (refine (aw_core (HP.step (below_step (below_alloc _ _) (below_alloc _ _))) (aw_ga R9 I7 I8 I9 I10) HD.out).mono ?_; rintro e w14 ⟨rfl, hb⟩; have hx := below_step (below_step (below_alloc _ _) (below_alloc _ _)) hb) | (refine (aw_core (HP.step (below_step (below_alloc _ _) (below_alloc _ _))) (aw_ga R10 I7 I8 I9 I10) HD.out).mono ?_; rintro e w14 ⟨rfl, hb⟩; have hx := below_step (below_step (below_alloc _ _) (below_alloc _ _)) hb) | (refine (aw_core (HP.step (below_step (below_step (below_alloc _ _) (below_alloc _ _)) (below_alloc _ _))) (aw_gb I7 I8 I9 I10) HD.out).mono ?_; rintro e w14 ⟨rfl, hb⟩; have hx := below_step (below_step (below_step (below_alloc _ _) (below_alloc _ _)) (below_alloc _ _)) hb) | (refine (aw_core (HP.step (below_step (below_step (below_alloc _ _) (below_alloc _ _)) (below_alloc _ _))) (aw_gc I7 I8 I9 I10) HD.out).mono ?_; rintro e w14 ⟨rfl, hb⟩; have hx := below_step (below_step (below_step (below_alloc _ _) (below_alloc _ _)) (below_alloc _ _)) hb)); replace HN := HN.step hx; replace M5 := M5.step hx; replace M8 := M8.step hx; replace K7 := K7.step hx; replace I1 := I1.step hx; replace hB := below_step hB hx; clear hb hx; clear c0 c1 d0 d1 e0 e1 e2 e3; have c0 := M5.c0; have c1 := M5.c1; have d0 := M8.c0; have d1 := M8.c1; have e0 := K7.c0; have e1 := K7.c1; have e2 := K7.c2; have e3 := K7.c3)
      | (go_at_call 36; refine (aw_core (HN.step (below_step (below_alloc _ _) (below_alloc _ _))) (aw_gn I1) HE.out).mono ?_; rintro e w15 ⟨rfl, hb⟩; have hx := below_step (below_step (below_alloc _ _) (below_alloc _ _)) hb; replace M5 := M5.step hx; replace M8 := M8.step hx; replace K7 := K7.step hx; replace hB := below_step hB hx; clear hb hx; clear c0 c1 d0 d1 e0 e1 e2 e3; have c0 := M5.c0; have c1 := M5.c1; have d0 := M8.c0; have d1 := M8.c1; have e0 := K7.c0; have e1 := K7.c1; have e2 := K7.c2; have e3 := K7.c3))
  all_goals
    go_wp2
    go_ret
    exact ⟨rfl, hB⟩
end Go.Proofs.Ytkgnlloioaobiaa
namespace Go.Proofs.Ytkgnlloioaobiaa
open Go.RowKit
structure SEl where
  D : Int
  A : Option Addr
  n : Nat
  c : Nat
  ps : List PEl
structure SetsAt (w : World) (A : Option Addr) (m : Nat) (ss : List SEl) : Prop where
  len : ss.length = m
  small : m ≤ 4
  cells : 0 < m → ∃ b off, A = some ⟨b, off, none⟩ ∧ b < w.heap.size ∧ ∀ j s, ss[j]? = some s → w.cell? ⟨b, off + j * 2, none⟩ = some (.int .i64 s.D) ∧ w.cell? ⟨b, off + j * 2 + 1, none⟩ = some (.slice s.A s.n s.c)
  pieces : ∀ s ∈ ss, PiecesAt w s.A s.n s.ps
theorem SetsAt.step {w w' : World} {A : Option Addr} {m : Nat} {ss : List SEl} (h : SetsAt w A m ss) (hb : Below w.heap.size w w') : SetsAt w' A m ss :=
  ⟨h.len, h.small, fun hm => let ⟨b, off, hA, hlt, hc⟩ := h.cells hm; ⟨b, off, hA, Nat.lt_of_lt_of_le hlt hb.size, fun j s hs => ⟨(hb.cell (p := ⟨b, off + j * 2, none⟩) hlt).trans (hc j s hs).1, (hb.cell (p := ⟨b, off + j * 2 + 1, none⟩) hlt).trans (hc j s hs).2⟩⟩, fun s hs => (h.pieces s hs).step hb⟩
theorem SetsAt.at {w : World} {A : Option Addr} {m : Nat} {ss : List SEl} (h : SetsAt w A m ss) {j : Nat} (hj : j < m) : ∃ b off s, A = some ⟨b, off, none⟩ ∧ b < w.heap.size ∧ ss[j]? = some s ∧ s ∈ ss ∧ (w.cell? ⟨b, off + j * 2, none⟩ = some (.int .i64 s.D) ∧ w.cell? ⟨b, off + j * 2 + 1, none⟩ = some (.slice s.A s.n s.c)) ∧ PiecesAt w s.A s.n s.ps := by
  obtain ⟨b, off, hA, hlt, hc⟩ := h.cells (by omega)
  have hj' : j < ss.length := by rw [h.len]; exact hj
  exact ⟨b, off, ss[j], hA, hlt, List.getElem?_eq_getElem hj', List.getElem_mem hj', hc j _ (List.getElem?_eq_getElem hj'), h.pieces _ (List.getElem_mem hj')⟩
def fewP (C : Int) (ps : List PEl) : Bool := ps.all fun p => decide ((p.els.length : Int) ≤ C)
def fewC (C : Int) (ss : List SEl) : Bool := ss.all fun s => fewP C s.ps
def fewN : List SEl → Int
  | [] => 0
  | s :: ss => (s.ps.length : Int) + fewN ss
def fewB (P C : Int) (ss : List SEl) : Bool := fewC C ss && decide (fewN ss ≤ P)
theorem fewN_append : ∀ l l' : List SEl, fewN (l ++ l') = fewN l + fewN l'
  | [], l' => by simp [fewN]
  | s :: l, l' => by simp only [List.cons_append, fewN, fewN_append l l']; omega
theorem fewN_take {ss : List SEl} {i : Nat} {s : SEl} (h : ss[i]? = some s) : fewN (ss.take (i + 1)) = fewN (ss.take i) + (s.ps.length : Int) := by
  rw [List.take_add_one, h, Option.toList, fewN_append]
  simp [fewN]
set_option maxHeartbeats 4000000 in
theorem few (P C : Int) (A : Option Addr) (m c : Nat) (ss : List SEl) (w : World) (S0 : SetsAt w A m ss) :
    Calls Try.prog 10 #[.int .i64 P, .int .i64 C, .slice A m c] w fun e w' => e = .returned (.bool (fewB P C ss)) ∧ Below w.heap.size w w' := by
  have hsm := S0.small
  have HL := Lib.hid S0.len
  obtain ⟨er, her⟩ : ∃ er, fewB P C ss = er := ⟨_, rfl⟩
  rw [her]
  have HE := Lib.hid her
  clear her
  go_enter Try.func10, Try.ntmps10
  go_wp2
  go_loopw [7, 14] (fun u v wr => ∃ (i : Nat) (N : Int), i ≤ m ∧ v = .int .i64 i ∧ u = .int .i64 N ∧ (0 ≤ N ∧ N ≤ i * 17592186044416) ∧ (fewN (ss.take i) = N ∧ ∀ j x, j < i → ss[j]? = some x → fewP C x.ps = true) ∧ Below w.heap.size w wr) (fun _ v _ => m - (intOf v).toNat)
  case atStart => exact ⟨0, 0, Nat.zero_le _, rfl, rfl, by omega, ⟨rfl, fun j x h => absurd h (by omega)⟩, Below.refl _ _⟩
  case round =>
    obtain ⟨i, N, hi, rfl, rfl, ⟨hN0, hN1⟩, hgood, hbr⟩ := hrel
    have HG := Lib.hid hgood
    clear hgood
    by_cases hlt : i < m
    · obtain ⟨b, off, s, rfl, hblt, hsj, hmem, hcs, hP⟩ := (S0.step hbr).at hlt; obtain ⟨x0, x1⟩ := hcs; have HSJ := Lib.hid hsj; obtain ⟨sD, sA, sn, sc, sps⟩ := s; simp only at x0 x1 hP; have hq1 : (i : Int) < m := (by omega); have b5 := below_alloc wr (.cells #[.int .i64 sD, .slice sA sn sc] 24); have P1 := hP.step b5; have X1 := SetBox.new wr sD sA sn sc; have z1 := X1.c1; have hss := hP.small; have HPL := Lib.hid hP.len; have hbr1 := hbr.trans (b5.mono hbr.size); clear b5 hmem hsj hP
      have hw : wrap64 (N + (sn : Int)) = N + sn := IntWalk.wrap64_in _ (by omega)
      go_wp2
      generalize hw2 : wr.alloc (.cells #[.int .i64 sD, .slice sA sn sc] 24) = w2 at *
      clear hw2 z1 x0 x1
      go_loopw [26] (fun u wr => ∃ j : Nat, j ≤ sn ∧ u = .int .i64 j ∧ (∀ k x, k < j → sps[k]? = some x → decide ((x.els.length : Int) ≤ C) = true) ∧ Below w2.heap.size w2 wr) (fun u _ => sn - (intOf u).toNat)
      case atStart => exact ⟨0, Nat.zero_le _, rfl, (fun j x h => absurd h (by omega)), Below.refl _ _⟩
      case round =>
        obtain ⟨j, hj, rfl, hgood2, hbs⟩ := hrel
        have HG2 := Lib.hid hgood2
        clear hgood2
        by_cases hlt2 : j < sn
        · obtain ⟨b2, off2, p, rfl, hblt2, hpj, hmem, hcell, hCp⟩ := (P1.step hbs).at hlt2
          have HPJ := Lib.hid hpj
          obtain ⟨pA, pn, pc, pels⟩ := p
          simp only at hcell hCp
          have hq2 : (j : Int) < sn := by omega
          have HPE := Lib.hid hCp.len
          have hps := hCp.small
          clear hmem hpj hCp
          by_cases hC : C < (pn : Int)
          · have HR := Lib.hid (show er = false by
              rw [← HE.out]; unfold fewB fewC
              rw [all_not HSJ.out (show fewP C sps = false from all_not HPJ.out (decide_eq_false (by have := HPE.out; simp only; omega))), Bool.false_and])
            go_wp2
            go_ret
            exact ⟨ret_bool HR.out.symm, hbr1.trans (hbs.mono hbr1.size)⟩
          · go_wp2
            go_roundw
            case rel => exact ⟨j + 1, by omega, by go_num, (fun k x hk hkx => by
              rcases Nat.lt_or_eq_of_le (Nat.le_of_lt_succ hk) with h | rfl
              · exact HG2.out k x h hkx
              · rw [HPJ.out] at hkx; cases hkx; exact decide_eq_true (by have := HPE.out; simp only; omega)), hbs⟩
            case measure => simp [intOf]; omega
        · have hge : ¬ ((j : Int) < sn) := by omega
          have HF := Lib.hid (show fewP C sps = true from all_yes fun k x hk hkx => HG2.out k x (by have hk : k < sps.length := hk; have := HPL.out; omega) hkx)
          go_wp2
          go_roundw
          case rel => exact ⟨i + 1, N + sn, by omega, by go_num, by first | rfl | rw [hw], by omega, ⟨by rw [fewN_take HSJ.out, HG.out.1]; have := HPL.out; simp only; omega, fun k x hk hkx => by
            rcases Nat.lt_or_eq_of_le (Nat.le_of_lt_succ hk) with h | rfl
            · exact HG.out.2 k x h hkx
            · rw [HSJ.out] at hkx; cases hkx; exact HF.out⟩, hbr1.trans (hbs.mono hbr1.size)⟩
          case measure => simp [intOf]; omega
    · have hge : ¬ ((i : Int) < m) := by omega
      have HR := Lib.hid (show er = decide (N ≤ P) by
        rw [← HE.out]; unfold fewB fewC
        rw [all_yes fun j x hj => HG.out.2 j x (by have := HL.out; omega), Bool.true_and, ← HG.out.1, List.take_of_length_le (by have := HL.out; omega)])
      go_wp2
      go_ret
      exact ⟨ret_bool HR.out.symm, hbr⟩
end Go.Proofs.Ytkgnlloioaobiaa
namespace Go.Proofs.Ytkgnlloioaobiaa
open Go.RowKit
theorem piece_bad {D : Int} {els : List CEl} {i : Nat} {e : CEl} (he : els[i]? = some e) (h : e.ok = false ∨ (e.n : Int) ≠ D) : condsE D els ≠ 0 := by
  unfold condsE
  rcases h with h | h
  · rw [if_neg (by rw [all_not he h]; decide)]; decide
  · by_cases ho : els.all CEl.ok = true
    · rw [if_pos ho, if_neg (by rw [all_not (p := fun e : CEl => (e.n : Int) == D) he (by simpa using h)]; decide)]; decide
    · rw [if_neg ho]; decide
theorem piece_good {D : Int} {els : List CEl} (h : ∀ i e, i < els.length → els[i]? = some e → e.ok = true ∧ (e.n : Int) = D) : condsE D els = 0 := by
  unfold condsE
  rw [if_pos (all_yes fun i e hi he => (h i e hi he).1), if_pos (all_yes fun i e hi he => by simpa using (h i e hi he).2)]
theorem piece_len {D : Int} {p : PEl} (h : ¬ p.els.length ≤ 96) : pieceOk D p = false := by
  unfold pieceOk; rw [decide_eq_false h]; rfl
theorem piece_no {D : Int} {p : PEl} (h : condsE D p.els ≠ 0) : pieceOk D p = false := by
  unfold pieceOk; rw [decide_eq_false h, Bool.and_false]
theorem piece_yes {D : Int} {p : PEl} (h : p.els.length ≤ 96) (h0 : condsE D p.els = 0) : pieceOk D p = true := by
  unfold pieceOk; rw [decide_eq_true h, decide_eq_true h0]; rfl
set_option maxHeartbeats 4000000 in
theorem ref_svalid (D : Int) (A : Option Addr) (n c : Nat) (ps : List PEl) (w : World) (h : PiecesAt w A n ps) :
    Calls Try.prog 17 #[setV D A n c] w fun e w' => e = .returned (.bool (validS D ps)) ∧ Below w.heap.size w w' := by
  have hB := below_alloc w (.cells #[.int .i64 D, .slice A n c] 24)
  have P0 := h.step hB
  have B1 := SetBox.new w D A n c
  have c0 := B1.c0
  have c1 := B1.c1
  have hl := h.len
  have hsm := h.small
  by_cases hd : 0 ≤ D ∧ D ≤ 12 ∧ ps.length ≤ 400
  · have HE := Lib.hid (validS_in hd)
    obtain ⟨v, hv⟩ : ∃ v, validS D ps = v := ⟨_, rfl⟩
    rw [hv] at HE ⊢
    obtain ⟨hd0, hd1, hd2⟩ := hd
    have hn : (n : Int) ≤ 400 := by omega
    have q1 : ¬ (400 : Int) < (n : Int) := by omega
    have HL := Lib.hid hl
    clear hv h hd2 hl
    go_enter Try.func17, Try.ntmps17
    go_wp2
    generalize hw0 : w.alloc (.cells #[.int .i64 D, .slice A n c] 24) = w0 at *
    clear hw0 q1
    go_loopw [24] (fun u wr => ∃ i : Nat, i ≤ n ∧ u = .int .i64 i ∧ (∀ j x, j < i → ps[j]? = some x → pieceOk D x = true) ∧ Below w0.heap.size w0 wr) (fun u _ => n - (intOf u).toNat)
    case atStart => exact ⟨0, Nat.zero_le _, rfl, (fun j x h => absurd h (by omega)), Below.refl _ _⟩
    case round =>
      obtain ⟨i, hi, rfl, hgood, hbr⟩ := hrel
      have HG := Lib.hid hgood
      have B2 := B1.step hbr
      clear hgood c0 c1
      by_cases hlt : i < n
      · obtain ⟨b, off, p, rfl, hblt, hpj, hmem, hcell, hCp⟩ := (P0.step hbr).at hlt; have HPJ := Lib.hid hpj; obtain ⟨pA, pn, pc, pels⟩ := p; simp only at hcell hCp; have hq1 : (i : Int) < n := (by omega); have hps := hCp.small; have HPL := Lib.hid hCp.len; clear hmem hpj
        by_cases h96 : pn ≤ 96
        · have q96 : ¬ (96 : Int) < (pn : Int) := by omega
          have C1 := hCp
          go_wp2
          clear hcell q96 hblt
          generalize hw2 : wr = w2 at *
          clear hw2
          go_loopw [33] (fun u wr => ∃ j : Nat, j ≤ pn ∧ u = .int .i64 j ∧ (∀ k x, k < j → pels[k]? = some x → x.ok = true ∧ (x.n : Int) = D) ∧ Below w2.heap.size w2 wr) (fun u _ => pn - (intOf u).toNat)
          case atStart => exact ⟨0, Nat.zero_le _, rfl, (fun j x h => absurd h (by omega)), Below.refl _ _⟩
          case round =>
            obtain ⟨j, hj, rfl, hgood2, hbs⟩ := hrel
            have HG2 := Lib.hid hgood2
            clear hgood2
            by_cases hlt2 : j < pn
            · obtain ⟨b2, off2, e, rfl, hblt2, hej, hmem, hcs, hin⟩ := (C1.step hbs).at hlt2; obtain ⟨x0, x1, x2, x3⟩ := hcs; have HEJ := Lib.hid hej; obtain ⟨eq, eM, eA, en, ec, eK, exs⟩ := e; simp only at x0 x1 x2 x3 hin; have hq2 : (j : Int) < pn := (by omega); have b5 := below_alloc wr (.cells #[.int .i64 eq, .int .i64 eM, .slice eA en ec, .int .i64 eK] 55); have y1 := hin.step b5; have X1 := CBox.new wr eq eM eA en ec eK; have B3 := (B2.step hbs).step b5; have hbr1 := hbs.trans (b5.mono hbs.size); clear b5 hmem hej hin hbs
              cases hcv : validC eq eM exs eK
              · have HV := Lib.hid hcv
                have HR := Lib.hid (show v = false by rw [HE.out, all_not HPJ.out (piece_no (piece_bad HEJ.out (.inl hcv)))])
                clear hcv
                go_wp2_with (go_at_call 40; refine (ref_cvalid _ _ _ _ _ _ exs _ y1).mono ?_; rintro e w1 ⟨rfl, hb⟩; rw [HV.out]; replace hbr1 := hbr1.trans (hb.mono hbr1.size))
                go_ret
                exact ⟨ret_bool HR.out.symm, below_step hB (hbr.trans (hbr1.mono hbr.size))⟩
              · have HV := Lib.hid hcv
                by_cases hnD : (en : Int) = D
                · have HN := Lib.hid hnD
                  have q1 : ((en : Int) != D) = false := by simpa using hnD
                  have q2 : ((en : Int) == D) = true := by simpa using hnD
                  clear hcv hnD
                  go_wp2_with (go_at_call 40; refine (ref_cvalid _ _ _ _ _ _ exs _ y1).mono ?_; rintro e w1 ⟨rfl, hb⟩; rw [HV.out]; replace hbr1 := hbr1.trans (hb.mono hbr1.size); have z2 := (X1.step hb).c2; have c0 := (B3.step hb).c0)
                  go_roundw
                  case rel => exact ⟨j + 1, by omega, by go_num, (fun k x hk hkx => by
                    rcases Nat.lt_or_eq_of_le (Nat.le_of_lt_succ hk) with h | rfl
                    · exact HG2.out k x h hkx
                    · rw [HEJ.out] at hkx; cases hkx; exact ⟨HV.out, HN.out⟩), hbr1⟩
                  case measure => simp [intOf]; omega
                · have HR := Lib.hid (show v = false by rw [HE.out, all_not HPJ.out (piece_no (piece_bad HEJ.out (.inr hnD)))])
                  have q1 : ((en : Int) != D) = true := by simpa using hnD
                  have q2 : ((en : Int) == D) = false := by simpa using hnD
                  clear hcv hnD
                  go_wp2_with (go_at_call 40; refine (ref_cvalid _ _ _ _ _ _ exs _ y1).mono ?_; rintro e w1 ⟨rfl, hb⟩; rw [HV.out]; replace hbr1 := hbr1.trans (hb.mono hbr1.size); have z2 := (X1.step hb).c2; have c0 := (B3.step hb).c0)
                  go_ret
                  exact ⟨ret_bool HR.out.symm, below_step hB (hbr.trans (hbr1.mono hbr.size))⟩
            · have hge : ¬ ((j : Int) < pn) := by omega
              have HP := Lib.hid (show pieceOk D ⟨pA, pn, pc, pels⟩ = true from piece_yes (by have := HPL.out; simp only; omega) (piece_good fun k x hk hkx => HG2.out k x (by have hk : k < pels.length := hk; have := HPL.out; omega) hkx))
              go_wp2
              go_roundw
              case rel => exact ⟨i + 1, by omega, by go_num, (fun k x hk hkx => by
                rcases Nat.lt_or_eq_of_le (Nat.le_of_lt_succ hk) with h | rfl
                · exact HG.out k x h hkx
                · rw [HPJ.out] at hkx; cases hkx; exact HP.out), hbr.trans (hbs.mono hbr.size)⟩
              case measure => simp [intOf]; omega
        · have HV := Lib.hid (show v = false by rw [HE.out, all_not HPJ.out (piece_len (by have := HPL.out; simp only; omega))])
          have q96 : (96 : Int) < (pn : Int) := by omega
          go_wp2
          go_ret
          exact ⟨ret_bool HV.out.symm, below_step hB hbr⟩
      · have hge : ¬ ((i : Int) < n) := by omega
        have HV := Lib.hid (show v = true by rw [HE.out]; exact all_yes fun j x hj => HG.out j x (by have := HL.out; omega))
        go_wp2
        go_ret
        exact ⟨ret_bool HV.out.symm, below_step hB hbr⟩
  · have HE := Lib.hid (validS_out hd)
    rw [hl] at hd
    rcases (show D < 0 ∨ (0 ≤ D ∧ 12 < D) ∨ (0 ≤ D ∧ D ≤ 12 ∧ 400 < n) by omega) with h0 | ⟨h0, h1⟩ | ⟨h0, h1, h2⟩
    · clear hd
      go_enter Try.func17, Try.ntmps17
      go_wp2
      go_ret
      exact ⟨ret_bool HE.out.symm, hB⟩
    · clear hd
      go_enter Try.func17, Try.ntmps17
      go_wp2
      go_ret
      exact ⟨ret_bool HE.out.symm, hB⟩
    · have h3 : (400 : Int) < (n : Int) := by omega
      clear hd
      go_enter Try.func17, Try.ntmps17
      go_wp2
      go_ret
      exact ⟨ret_bool HE.out.symm, hB⟩
end Go.Proofs.Ytkgnlloioaobiaa
namespace Go.Proofs.Ytkgnlloioaobiaa
open Go.RowKit
theorem sets_one {w : World} {D : Int} {A : Option Addr} {n c : Nat} {ps : List PEl} (h : PiecesAt w A n ps) : SetsAt (w.alloc (.cells #[.int .i64 D, .slice A n c] 24)) (some ⟨w.heap.size, 0, none⟩) 1 [⟨D, A, n, c, ps⟩] := by
  have X := SetBox.new w D A n c
  refine ⟨rfl, by omega, fun _ => ⟨w.heap.size, 0, rfl, X.lt, fun j s hs => ?_⟩, fun s hs => ?_⟩
  · match j, hs with
    | 0, hs =>
      simp at hs
      subst hs
      exact ⟨X.c0, X.c1⟩
    | j + 1, hs => simp at hs
  · rw [List.mem_singleton.1 hs]
    exact h.step (below_alloc w _)
theorem few_one {w : World} {P C : Int} {D : Int} {A : Option Addr} {n c : Nat} {ps : List PEl} (g c1 : Nat) (hg : w.heap.size = g) (h : PiecesAt w A n ps) :
    Calls Try.prog 10 #[.int .i64 P, .int .i64 C, .slice (some ⟨g, 0, none⟩) 1 c1] (w.alloc (.cells #[.int .i64 D, .slice A n c] 24)) fun e w' => e = .returned (.bool (fewB P C [⟨D, A, n, c, ps⟩])) ∧ Below w.heap.size w w' := by
  subst hg
  refine (few P C _ 1 c1 _ _ (sets_one h)).mono ?_
  rintro e w' ⟨he, hb⟩
  exact ⟨he, below_step (below_alloc w _) hb⟩
end Go.Proofs.Ytkgnlloioaobiaa
namespace Go.Proofs.Ytkgnlloioaobiaa
open Go.ChangeShapes Go.WideShapes Go.ChangeAt Go.RowKit
theorem grow_zero (w : World) : Calls Try.prog 84 #[.slice none 0 0, .int .i64 0] w fun e w' => e = .returned (.slice none 0 0) ∧ w = w' := by
  go_enter Try.func84, Try.ntmps84
  go_wp2
  go_ret
  exact ⟨rfl, rfl⟩
set_option maxHeartbeats 2000000 in
theorem grow_some (n : Nat) (h0 : 0 < n) (hn : n ≤ 1000) (w : World) : Calls Try.prog 84 #[.slice none 0 0, .int .i64 n] w fun e w' =>
    ∃ cap, e = .returned (.slice (some ⟨w.heap.size, 0, none⟩) 0 cap) ∧ w'.ownsRow w.heap.size 3 1 (.slice (some ⟨w.heap.size, 0, none⟩) 0 cap) 0 [] ∧ Below w.heap.size w w' := by
  obtain ⟨i0, hi, hz0, hz1, hz2⟩ := info_parts infoInt
  have hg := fun ty => Lib.run_append_grow_zeros (P := Try.prog) w 33 3 ty 3 i0 (.int .i64 0) .i64 .i64 Try.underlying33 Try.underlying3 hi hz0 none 0 0 [] (run_firstCells_none _ _ _ _ _) n h0 (by omega) (by omega) (by omega) (by rw [hz2]; omega) (growslice_fits (by omega) (by rw [hz2]; omega))
  have hge := grownCap_ge w (0 + n) 0 3
  have hle := grownCap_le_maxLen w (0 + n) 0 3 (by unfold maxLen; omega)
  simp only [Nat.zero_add] at hg hge hle
  obtain ⟨G, hG⟩ : ∃ G, G = grownCap w n 0 3 := ⟨_, rfl⟩
  rw [← hG] at hg hge hle
  clear hG
  obtain ⟨cs, hcs⟩ : ∃ cs, cs = (([] : List Value).toArray ++ Builtin.zeroCells (Value.int .i64 0).cells n ++ Builtin.zeroCells (Value.int .i64 0).cells (G - n)) := ⟨_, rfl⟩
  have hsz : cs.size = G := by
    rw [hcs]
    simp [Builtin.zeroCells, Value.cells]
    omega
  rw [← hcs] at hg
  clear hcs
  have hn0 : (0 : Int) < (n : Int) := by omega
  have hG1 : (n : Int) ≤ (G : Int) := by omega
  have hfin : (w.drew.alloc (.cells cs 3)).ownsRow w.heap.size 3 1 (.slice (some ⟨w.heap.size, 0, none⟩) 0 G) 0 [] :=
    ⟨rfl, .inr ⟨w.heap.size, G, cs, rfl, Nat.le_refl _, heap_alloc_new w.drew _, by omega, hle, by omega, by simp⟩⟩
  have hB : Below w.heap.size w (w.drew.alloc (.cells cs 3)) := ((Below.refl _ w).drew).alloc (Nat.le_refl _) _
  go_enter Try.func84, Try.ntmps84
  go_wp2_with (at_builtin; refine Lib.wpList_append_run _ rfl _ _ _ _ rfl _ _ rfl rfl _ _ (hg _) ?_)
  all_goals
    go_ret
    exact ⟨G, rfl, hfin, hB⟩
structure Part where
  A : Option Addr
  n : Nat
  c : Nat
  xs : List Int
def tot (P : Nat → Part) : Nat → Nat
  | 0 => 0
  | k + 1 => tot P k + (P k).n
def cat (P : Nat → Part) : Nat → List Int
  | 0 => []
  | k + 1 => cat P k ++ (P k).xs
theorem tot_mono (P : Nat → Part) {i m : Nat} (h : i ≤ m) : tot P i ≤ tot P m := by
  induction h with
  | refl => exact Nat.le_refl _
  | step _ ih => exact Nat.le_trans ih (by simp [tot])
def PartsAt (w : World) (b off m : Nat) (P : Nat → Part) : Prop :=
  ∀ j, j < m → w.cell? ⟨b, off + j, none⟩ = some (.slice (P j).A (P j).n (P j).c) ∧ IntsAt w (P j).A (P j).n (P j).xs ∧ ((P j).A = none → (P j).n = 0 ∧ (P j).c = 0)
theorem own_base {w : World} {base : Nat} {e : TypeId} {size n k : Nat} {v : Value} {xs : List Value} (h : w.ownsRow base e size v n xs) (hk : v.ownBlock = some k) : base ≤ k := by
  obtain ⟨_, ⟨rfl, _⟩ | ⟨g, cap, cur, rfl, hb, _⟩⟩ := h
  · cases hk
  · cases hk; exact hb
theorem own_cap {w : World} {base : Nat} {e : TypeId} {size g n m cap : Nat} {xs : List Value} (h : w.ownsRow base e size (.slice (some ⟨g, 0, none⟩) m cap) n xs) : n ≤ cap ∧ cap ≤ 9223372036854775807 := by
  obtain ⟨_, ⟨h, _⟩ | ⟨g', cap', cur, h, _, _, h1, h2, _⟩⟩ := h
  · cases h
  · simp only [Value.slice.injEq] at h
    unfold maxLen at h2
    omega
set_option maxHeartbeats 4000000 in
theorem concat_in (b off m cm : Nat) (P : Nat → Part) (w : World) (hP : PartsAt w b off m P) (hb : b < w.heap.size) (hm : m ≤ 1000) (ht : tot P m ≤ 1000) :
    Calls Try.prog 60 #[.slice (some ⟨b, off, none⟩) m cm] w fun e w' =>
      ∃ v, e = .returned v ∧ ((v = .slice none 0 0 ∧ tot P m = 0) ∨ ∃ g cap, v = .slice (some ⟨g, 0, none⟩) (tot P m) cap ∧ w.heap.size ≤ g ∧ OwnRow w' g (tot P m) (cat P m) ∧ tot P m ≤ cap ∧ cap ≤ 9223372036854775807) ∧ Below w.heap.size w w' := by
  obtain ⟨i0, hi, hz0, hz1, hz2⟩ := info_parts infoInt
  go_enter Try.func60, Try.ntmps60
  go_wp2
  go_loop [3, 11] (fun u v => ∃ i : Nat, i ≤ m ∧ v = .int .i64 i ∧ u = .int .i64 (tot P i : Nat)) (fun _ v => m - (intOf v).toNat)
  case atStart => exact ⟨0, Nat.zero_le _, rfl, rfl⟩
  case round =>
    obtain ⟨i, hi', rfl, rfl⟩ := hrel
    by_cases hlt : i < m
    · obtain ⟨hcell, hI, hnil⟩ := hP i hlt
      have h1 := tot_mono P (show i + 1 ≤ m by omega)
      have HT := Lib.hid (show tot P (i + 1) = tot P i + (P i).n from rfl)
      have h2 : tot P i + (P i).n ≤ 1000 := by rw [← HT.out]; omega
      have hlt' : (i : Int) < m := by omega
      clear hI hnil h1
      go_wp2
      go_round
      case rel => exact ⟨i + 1, by omega, by go_num, by rw [HT.out]; go_num⟩
      case measure => simp [intOf]; omega
    · obtain rfl : i = m := by omega
      have hge : ¬ i < i := hlt
      by_cases h0 : tot P i = 0
      · have H0 := Lib.hid h0
        go_wp2_with (go_at_call 84; refine (grow_zero _).mono ?_; rintro e w' ⟨rfl, rfl⟩)
        go_loopw [6, 27] (fun u v wr => ∃ j : Nat, j ≤ i ∧ v = .int .i64 j ∧ wr.ownsRow w.heap.size 3 1 u (tot P j) ((cat P j).map (Value.int .i64)) ∧ Below w.heap.size w wr ∧ (tot P i = 0 → u = .slice none 0 0)) (fun _ v _ => i - (intOf v).toNat)
        case atStart => exact ⟨0, Nat.zero_le _, rfl, World.ownsRow_nil _ _ _ _, Below.refl _ _, fun _ => rfl⟩
        case round =>
          obtain ⟨j, hj, rfl, hown, hBr, hnilv⟩ := hrel
          have HNV := Lib.hid hnilv
          clear hnilv
          by_cases hlt : j < i
          · obtain ⟨hcell0, hI, hnil⟩ := hP j hlt
            have hcell := (hBr.cell (p := ⟨b, off + j, none⟩) hb).trans hcell0
            have h2 : tot P j + (P j).n ≤ 1000 := Nat.le_trans (tot_mono P (show j + 1 ≤ i by omega)) ht
            have hz : tot P i = 0 → (P j).n = 0 := fun h => by
              have h4 : tot P j + (P j).n ≤ tot P i := tot_mono P (show j + 1 ≤ i by omega)
              omega
            have HZ := Lib.hid hz
            have HS := Lib.hid (show tot P (j + 1) = tot P j + (P j).n ∧ cat P (j + 1) = cat P j ++ (P j).xs from ⟨rfl, rfl⟩)
            have hlt' : (j : Int) < i := by omega
            clear hcell0 hz
            generalize tot P j = tj at *
            generalize cat P j = cj at *
            generalize hpn : (P j).n = pn at *
            generalize (P j).c = pc at *
            generalize (P j).xs = px at *
            clear hpn
            have HI := Lib.hid hI
            cases hA : (P j).A with
            | none =>
              rw [hA] at hcell
              obtain ⟨rfl, rfl⟩ := hnil hA
              have HX := Lib.hid (show px = [] from List.eq_nil_of_length_eq_zero HI.out.len)
              clear hA hnil hI
              go_wp2_with (at_builtin; refine wpList_append_own_none rfl _ _ 33 rfl w.heap.size 3 i0 1 Try.underlying33 hi _ _ _ rfl hown rfl ?_)
              go_roundw
              case rel => exact ⟨j + 1, by omega, by go_num, (by rw [HS.out.1, HS.out.2, HX.out]; simpa using hown), hBr, HNV.out⟩
              case measure => simp [intOf]; omega
            | some ad =>
              rw [hA] at hcell
              have HC := Lib.hid (show ∀ q a, px[q]? = some a → wr.cell? (ad.add q) = some (.int .i64 a) from fun q a hq => by
                obtain ⟨hql, e⟩ := List.getElem?_eq_some_iff.1 hq
                have hpos : q < pn := by rw [← HI.out.len]; exact hql
                obtain ⟨b', off', e', hlt', hc'⟩ := HI.out.cells (by omega)
                rw [hA] at e'
                obtain rfl : ad = ⟨b', off', none⟩ := by simpa using e'
                rw [add_plain, (hBr.cell (p := ⟨b', off' + q, none⟩) hlt').trans (hc' q hpos)]
                simp [hq])
              clear hA hnil hI
              go_wp2_with (at_builtin; refine wpList_append_own _ rfl _ _ 33 rfl w.heap.size 3 i0 (.int .i64 0) 1 8 Try.underlying33 hi hz0 hz1 hz2 rfl (by decide) _ _ _ rfl hown ad pn pc (px.map (Value.int .i64)) rfl (by simpa using HI.out.len) (by intro q u hq; simp only [List.getElem?_map, Option.map_eq_some_iff] at hq; obtain ⟨a, ha, rfl⟩ := hq; exact HC.out q a ha) (by intro u hu; simp only [List.mem_map] at hu; obtain ⟨a, _, rfl⟩ := hu; rfl) (by unfold maxLen; omega) (by omega) hBr.size ?_; intro v' w2 hown' hgrow hv'; have hsz2 := hBr.size; have hB2 := hBr.grown hgrow hsz2 (fun k e => own_base hown e); have hnew := (show tot P i = 0 → v' = .slice none 0 0 from fun h => hv'.2 ⟨HNV.out h, HZ.out h⟩); have HN2 := Lib.hid hnew; clear hnew hv' hgrow)
              go_roundw
              case rel => exact ⟨j + 1, by omega, by go_num, (by rw [HS.out.1, HS.out.2, List.map_append]; exact hown'), hB2, HN2.out⟩
              case measure => simp [intOf]; omega
          · obtain rfl : j = i := by omega
            have hge : ¬ j < j := hlt
            go_wp2
            go_ret
            exact ⟨_, rfl, .inl ⟨HNV.out h0, h0⟩, hBr⟩
      · have h1 : 0 < tot P i := by omega
        go_wp2_with (go_at_call 84; refine (grow_some _ h1 ht _).mono ?_; rintro e w1 ⟨cap, rfl, hown, hB⟩)
        go_loopw [6, 27] (fun u v wr => ∃ j : Nat, j ≤ i ∧ v = .int .i64 j ∧ wr.ownsRow w.heap.size 3 1 u (tot P j) ((cat P j).map (Value.int .i64)) ∧ Below w.heap.size w wr ∧ (tot P i = 0 → u = .slice none 0 0)) (fun _ v _ => i - (intOf v).toNat)
        case atStart => exact ⟨0, Nat.zero_le _, rfl, hown, hB, fun h => absurd h (by omega)⟩
        case round =>
          obtain ⟨j, hj, rfl, hown, hBr, hnilv⟩ := hrel
          have HNV := Lib.hid hnilv
          clear hnilv
          by_cases hlt : j < i
          · obtain ⟨hcell0, hI, hnil⟩ := hP j hlt
            have hcell := (hBr.cell (p := ⟨b, off + j, none⟩) hb).trans hcell0
            have h2 : tot P j + (P j).n ≤ 1000 := Nat.le_trans (tot_mono P (show j + 1 ≤ i by omega)) ht
            have hz : tot P i = 0 → (P j).n = 0 := fun h => by
              have h4 : tot P j + (P j).n ≤ tot P i := tot_mono P (show j + 1 ≤ i by omega)
              omega
            have HZ := Lib.hid hz
            have HS := Lib.hid (show tot P (j + 1) = tot P j + (P j).n ∧ cat P (j + 1) = cat P j ++ (P j).xs from ⟨rfl, rfl⟩)
            have hlt' : (j : Int) < i := by omega
            clear hcell0 hz
            generalize tot P j = tj at *
            generalize cat P j = cj at *
            generalize hpn : (P j).n = pn at *
            generalize (P j).c = pc at *
            generalize (P j).xs = px at *
            clear hpn
            have HI := Lib.hid hI
            cases hA : (P j).A with
            | none =>
              rw [hA] at hcell
              obtain ⟨rfl, rfl⟩ := hnil hA
              have HX := Lib.hid (show px = [] from List.eq_nil_of_length_eq_zero HI.out.len)
              clear hA hnil hI
              go_wp2_with (at_builtin; refine wpList_append_own_none rfl _ _ 33 rfl w.heap.size 3 i0 1 Try.underlying33 hi _ _ _ rfl hown rfl ?_)
              go_roundw
              case rel => exact ⟨j + 1, by omega, by go_num, (by rw [HS.out.1, HS.out.2, HX.out]; simpa using hown), hBr, HNV.out⟩
              case measure => simp [intOf]; omega
            | some ad =>
              rw [hA] at hcell
              have HC := Lib.hid (show ∀ q a, px[q]? = some a → wr.cell? (ad.add q) = some (.int .i64 a) from fun q a hq => by
                obtain ⟨hql, e⟩ := List.getElem?_eq_some_iff.1 hq
                have hpos : q < pn := by rw [← HI.out.len]; exact hql
                obtain ⟨b', off', e', hlt', hc'⟩ := HI.out.cells (by omega)
                rw [hA] at e'
                obtain rfl : ad = ⟨b', off', none⟩ := by simpa using e'
                rw [add_plain, (hBr.cell (p := ⟨b', off' + q, none⟩) hlt').trans (hc' q hpos)]
                simp [hq])
              clear hA hnil hI
              go_wp2_with (at_builtin; refine wpList_append_own _ rfl _ _ 33 rfl w.heap.size 3 i0 (.int .i64 0) 1 8 Try.underlying33 hi hz0 hz1 hz2 rfl (by decide) _ _ _ rfl hown ad pn pc (px.map (Value.int .i64)) rfl (by simpa using HI.out.len) (by intro q u hq; simp only [List.getElem?_map, Option.map_eq_some_iff] at hq; obtain ⟨a, ha, rfl⟩ := hq; exact HC.out q a ha) (by intro u hu; simp only [List.mem_map] at hu; obtain ⟨a, _, rfl⟩ := hu; rfl) (by unfold maxLen; omega) (by omega) hBr.size ?_; intro v' w2 hown' hgrow hv'; have hsz2 := hBr.size; have hB2 := hBr.grown hgrow hsz2 (fun k e => own_base hown e); have hnew := (show tot P i = 0 → v' = .slice none 0 0 from fun h => hv'.2 ⟨HNV.out h, HZ.out h⟩); have HN2 := Lib.hid hnew; clear hnew hv' hgrow)
              go_roundw
              case rel => exact ⟨j + 1, by omega, by go_num, (by rw [HS.out.1, HS.out.2, List.map_append]; exact hown'), hB2, HN2.out⟩
              case measure => simp [intOf]; omega
          · obtain rfl : j = i := by omega
            have hge : ¬ j < j := hlt
            go_wp2
            go_ret
            obtain ⟨g, cap, rfl, hg, hr⟩ := ownRow_of_owns hown h1
            exact ⟨_, rfl, .inr ⟨g, cap, rfl, hg, hr, own_cap hown⟩, hBr⟩
end Go.Proofs.Ytkgnlloioaobiaa
namespace Go.Proofs.Ytkgnlloioaobiaa
open Go.RowKit
theorem ints_sub {w : World} {b off n d k : Nat} {xs : List Int} (hl : xs.length = n) (hs : n ≤ 17592186044416) (hw : ∀ x ∈ xs, -9223372036854775808 ≤ x ∧ x ≤ 9223372036854775807) (hb : b < w.heap.size)
    (hc : ∀ j, j < n → w.cell? ⟨b, off + j, none⟩ = some (.int .i64 (xs[j]?.getD 0))) (hdk : d + k ≤ n) : IntsAt w (some ⟨b, off + d, none⟩) k ((xs.drop d).take k) := by
  refine ⟨by simp [hl]; omega, by omega, fun x hx => hw x (List.mem_of_mem_drop (List.mem_of_mem_take hx)), fun _ => ⟨b, off + d, rfl, hb, fun j hj => ?_⟩⟩
  rw [show off + d + j = off + (d + j) by omega, hc (d + j) (by omega)]
  simp [hj, List.getElem?_take]
end Go.Proofs.Ytkgnlloioaobiaa
namespace Go.Proofs.Ytkgnlloioaobiaa
open Go.RowKit
def RetC (w : World) (e : Ending) (w' : World) (ys : List Int) (K err : Int) : Prop :=
  ∃ A n c, e = .returned (.tuple #[.agg #[.slice A n c, .int .i64 K], .int .i64 err]) ∧ IntsAt w' A n ys ∧ Below w.heap.size w w' ∧ (n = 0 ∨ ∃ g, A = some ⟨g, 0, none⟩ ∧ w.heap.size ≤ g ∧ OwnRow w' g n ys) ∧ n ≤ c ∧ c ≤ 9223372036854775807
theorem RetC.f {w : World} {e : Ending} {w' : World} {ys : List Int} {K err : Int} (h : RetC w e w' ys K err) : RetF w e w' ys K err := by
  obtain ⟨A, n, c, h1, h2, h3, h4, _⟩ := h
  exact ⟨A, n, c, h1, h2, h3, h4.imp id fun ⟨g, a, b, _⟩ => ⟨g, a, b⟩⟩
theorem RetC.o {w : World} {e : Ending} {w' : World} {ys : List Int} {K err : Int} (h : RetC w e w' ys K err) : RetO w e w' ys K err := by
  obtain ⟨A, n, c, h1, h2, h3, h4, _⟩ := h
  exact ⟨A, n, c, h1, h2, h3, h4⟩
theorem ret_c {A : Option Addr} {n c : Nat} {K err : Int} {w w' : World} {ys : List Int} {K' err' : Int} (hc : n ≤ c ∧ c ≤ 9223372036854775807) (h1 : err' = err) (h2 : K' = K) (hI : IntsAt w' A n ys) (hb : Below w.heap.size w w') (hf : n = 0 ∨ ∃ g, A = some ⟨g, 0, none⟩ ∧ w.heap.size ≤ g ∧ OwnRow w' g n ys) :
    RetC w (.returned (.tuple #[.agg #[.slice A n c, .int .i64 K], .int .i64 err])) w' ys K' err' := by
  subst h1; subst h2; exact ⟨A, n, c, rfl, hI, hb, hf, hc⟩
def roomP (b off n c i k g : Nat) (xs : List Int) (j : Nat) : Part :=
  if j = 0 then ⟨some ⟨b, off, none⟩, i, c, xs.take i⟩ else if j = 1 then ⟨some ⟨g, 0, none⟩, k, k, zeros k⟩ else ⟨(if c = i then some ⟨b, off, none⟩ else some ⟨b, off + i, none⟩), n - i, c - i, xs.drop i⟩
theorem room_parts {w : World} {b off n c i k : Nat} {xs : List Int} (hl : xs.length = n) (hs : n ≤ 17592186044416) (hw : ∀ x ∈ xs, -9223372036854775808 ≤ x ∧ x ≤ 9223372036854775807) (hb : b < w.heap.size)
    (hc : ∀ j, j < n → w.cell? ⟨b, off + j, none⟩ = some (.int .i64 (xs[j]?.getD 0))) (hi : i ≤ n) (hnc : n ≤ c) (hk : k ≤ 12) :
    PartsAt ((w.alloc (.cells ((zeros k).map (Value.int .i64)).toArray 3)).alloc (.cells #[.slice (some ⟨b, off, none⟩) i c, .slice (some ⟨w.heap.size, 0, none⟩) k k, .slice (if c = i then some ⟨b, off, none⟩ else some ⟨b, off + i, none⟩) (n - i) (c - i)] 33)).drew (w.heap.size + 1) 0 3 (roomP b off n c i k w.heap.size xs) := by
  obtain ⟨o, ho⟩ : ∃ o, o = (Obj.cells #[.slice (some ⟨b, off, none⟩) i c, .slice (some ⟨w.heap.size, 0, none⟩) k k, .slice (if c = i then some ⟨b, off, none⟩ else some ⟨b, off + i, none⟩) (n - i) (c - i)] 33) := ⟨_, rfl⟩
  have h2 : Below (w.alloc (.cells ((zeros k).map (Value.int .i64)).toArray 3)).heap.size (w.alloc (.cells ((zeros k).map (Value.int .i64)).toArray 3)) ((w.alloc (.cells ((zeros k).map (Value.int .i64)).toArray 3)).alloc o).drew := (below_alloc _ o).drew
  have hst := below_step (below_alloc w (.cells ((zeros k).map (Value.int .i64)).toArray 3)) h2
  intro j hj
  rcases (show j = 0 ∨ j = 1 ∨ j = 2 by omega) with rfl | rfl | rfl
  · refine ⟨?_, ?_, fun h => by simp [roomP] at h⟩
    · rw [World.cell?_drew, World.cell?_alloc_at _ _ _ _ (by simp)]; rfl
    · rw [← ho]
      have h := ints_sub (d := 0) (k := i) hl hs hw hb hc (by omega)
      exact IntsAt.step (by simpa [roomP] using h) hst
  · refine ⟨?_, ?_, fun h => by simp [roomP] at h⟩
    · rw [World.cell?_drew, World.cell?_alloc_at _ _ _ _ (by simp)]; rfl
    · rw [← ho]
      exact IntsAt.step (new_ints w (zeros k) k (zeros_len k) (by omega) (zeros_wf k) w.heap.size rfl) h2
  · refine ⟨?_, ?_, fun h => by
      have h' : (if c = i then some (⟨b, off, none⟩ : Addr) else some ⟨b, off + i, none⟩) = none := h
      split at h' <;> cases h'⟩
    · rw [World.cell?_drew, World.cell?_alloc_at _ _ _ _ (by simp)]; rfl
    · rw [← ho]
      refine IntsAt.step ?_ hst
      show IntsAt w (if c = i then some ⟨b, off, none⟩ else some ⟨b, off + i, none⟩) (n - i) (xs.drop i)
      have h := ints_sub (d := i) (k := n - i) hl hs hw hb hc (by omega)
      have e : (xs.drop i).take (n - i) = xs.drop i := List.take_of_length_le (by simp [hl])
      rw [e] at h
      by_cases h1 : c = i
      · have h0 : n - i = 0 := by omega
        rw [h0] at h ⊢
        exact ⟨h.len, h.small, h.wf, fun hn => absurd hn (by omega)⟩
      · rw [if_neg h1]; exact h
def roomL (xs : List Int) (i k : Nat) : List Int := xs.take i ++ zeros k ++ xs.drop i
theorem room_tot {b off n c i k g : Nat} {xs : List Int} (hi : i ≤ n) : tot (roomP b off n c i k g xs) 3 = n + k := by simp [tot, roomP]; omega
theorem room_cat {b off n c i k g : Nat} {xs : List Int} : cat (roomP b off n c i k g xs) 3 = roomL xs i k := by simp [cat, roomP, roomL]
theorem room_len {n i k : Nat} {xs : List Int} (hl : xs.length = n) (hi : i ≤ n) : (roomL xs i k).length = n + k := by simp [roomL, hl, zeros_len]; omega
theorem room_wf {i k : Nat} {xs : List Int} (hw : ∀ x ∈ xs, -9223372036854775808 ≤ x ∧ x ≤ 9223372036854775807) : ∀ x ∈ roomL xs i k, -9223372036854775808 ≤ x ∧ x ≤ 9223372036854775807 := by
  intro x hx
  simp only [roomL, List.mem_append] at hx
  rcases hx with (hx | hx) | hx
  · exact hw x (List.mem_of_mem_take hx)
  · exact zeros_wf k x hx
  · exact hw x (List.mem_of_mem_drop hx)
set_option maxHeartbeats 2000000 in
theorem lin_room_ok (b off n c : Nat) (K : Int) (xs : List Int) (i k : Nat) (w : World) (hI : IntsAt w (some ⟨b, off, none⟩) n xs) (hbl : b < w.heap.size) (hcs : ∀ j, j < n → w.cell? ⟨b, off + j, none⟩ = some (.int .i64 (xs[j]?.getD 0))) (hnc : n ≤ c) (hc63 : c ≤ 9223372036854775807)
    (hv : validB xs K = true) (hi : i ≤ n) (hk : n + k ≤ 12) :
    Calls Try.prog 46 #[.agg #[.slice (some ⟨b, off, none⟩) n c, .int .i64 K], .int .i64 i, .int .i64 k] w fun e w' => RetC w e w' (roomL xs i k) K 0 := by
  have hsm := hI.small
  have hmk := make_ints k (by omega)
  have B1 := (LBox.new w (some ⟨b, off, none⟩) n c K).alloc (.cells #[.slice none 0 0, .int .i64 0] 53)
  have B2 := LBox.new (w.alloc (.cells #[.slice (some ⟨b, off, none⟩) n c, .int .i64 K] 53)) none 0 0 0
  have hB := below_step (below_alloc w (.cells #[.slice (some ⟨b, off, none⟩) n c, .int .i64 K] 53)) (below_alloc _ (.cells #[.slice none 0 0, .int .i64 0] 53))
  have h1 := hI.step hB
  rw [World.size_alloc] at B2
  have HC := Lib.hid hcs
  have hi1 : (i : Int) ≤ n := by omega
  have hi2 : (i : Int) ≤ c := by omega
  have hk1 : (k : Int) ≤ 12 - (n : Int) := by omega
  clear hcs hI
  go_enter Try.func46, Try.ntmps46
  go_wp2_with (go_at_call 68; refine (lin_valid _ _ _ _ xs _ h1).mono ?_; rintro e w1 ⟨rfl, hb⟩; replace h1 := h1.step hb; replace B1 := B1.step hb; replace B2 := B2.step hb; have c10 := B1.c0; have c11 := B1.c1; replace hB := below_step hB hb)
  have l2 := B2.lt
  have HA := Lib.hid (fun j (hj : j < n) => (hB.cell (p := ⟨b, off + j, none⟩) hbl).trans (HC.out j hj))
  have l0 : w.heap.size < w1.heap.size := by omega
  have n0 : w.heap.size + 1 ≠ w.heap.size := by omega
  have hbl1 : b < w1.heap.size := by omega
  obtain ⟨Q, hQ⟩ : ∃ Q, (if c = i then some (⟨b, off, none⟩ : Addr) else some ⟨b, off + i, none⟩) = Q := ⟨_, rfl⟩
  have ct := ((concat_in (w1.heap.size + 1) 0 3 3 (roomP b off n c i k w1.heap.size xs) _ (room_parts h1.len hsm h1.wf hbl1 HA.out hi hnc (by omega)) (by simp) (by omega) (by rw [room_tot hi]; omega)).mono
    (R' := fun e w2 => ∃ A5 c5, e = .returned (.slice A5 (n + k) c5) ∧ IntsAt w2 A5 (n + k) (roomL xs i k) ∧ Below w1.heap.size w1 w2 ∧ (n + k = 0 ∨ ∃ g, A5 = some ⟨g, 0, none⟩ ∧ w1.heap.size ≤ g ∧ OwnRow w2 g (n + k) (roomL xs i k)) ∧ n + k ≤ c5 ∧ c5 ≤ 9223372036854775807) (by
      rintro e w2 ⟨v, rfl, hv2, hb2⟩
      rw [room_tot hi, room_cat] at hv2
      have hb3 : Below w1.heap.size w1 w2 := ((below_alloc w1 (.cells ((zeros k).map (Value.int .i64)).toArray 3)).alloc (by simp) _).drew.trans (hb2.mono (show w1.heap.size ≤ ((w1.alloc _).alloc _).heap.size by simp; omega))
      rcases hv2 with ⟨rfl, h0⟩ | ⟨g, cap, rfl, hg, hr, hcap⟩
      · refine ⟨none, 0, by rw [h0], ?_, hb3, .inl h0, by omega, by omega⟩
        have h9 : (roomL xs i k).length = n + k := room_len h1.len hi
        rw [h0] at h9 ⊢
        rw [List.eq_nil_of_length_eq_zero h9]
        exact ints_nil _ _
      · refine ⟨some ⟨g, 0, none⟩, cap, rfl, hr.ints (by omega) (room_wf h1.wf), hb3, .inr ⟨g, rfl, ?_, hr⟩, hcap⟩
        have : ((w1.alloc _).alloc _).heap.size ≤ g := hg
        simp at this
        omega))
  rw [hQ] at ct
  have CT := Lib.hid ct
  clear ct
  have s6 : (n : Int) ≤ c := by omega
  go_region_held3 (fun W => W.cell? ⟨w.heap.size, 0, none⟩ = some (.slice (some ⟨b, off, none⟩) n c) ∧ W.cell? ⟨w.heap.size, 1, none⟩ = some (.int .i64 K)) (go_keep)
    (first | (go_at_call 60; refine CT.out.mono ?_; rintro e w2 ⟨A5, c5, rfl, I5, hb2', hf5, hcap⟩; have k0 := (hb2'.cell (p := ⟨w.heap.size, 0, none⟩) l0).trans c10; have k1 := (hb2'.cell (p := ⟨w.heap.size, 1, none⟩) l0).trans c11; have B4 := B2.step hb2'; have c40 := B4.c0; have c41 := B4.c1; have f40 := B4.f 0; have f41 := B4.f 1))
  have c50 := B4.s0 (.slice A5 (n + k) c5)
  have c51 := (B4.store A5 (n + k) c5 K).c1
  have hf6 : n + k = 0 ∨ ∃ g, A5 = some ⟨g, 0, none⟩ ∧ w.heap.size + 1 < g ∧ OwnRow w2 g (n + k) (roomL xs i k) := hf5.imp id (fun ⟨g, h, h', ho⟩ => ⟨g, h, by omega, ho⟩)
  have hEnd := below_step hB hb2'
  clear k0 k1 c10 c11 n0 hQ
  go_wp2
  refine bodyPost_ret (v := .tuple #[.agg #[.slice A5 (n + k) c5, .int .i64 K], .int .i64 0]) (by simp [results, Try.results46, go_sem, c50, c51]) rfl ?_
  exact ret_c hcap rfl rfl (ints_far I5 (hf6.imp id (fun ⟨g, h, h', _⟩ => ⟨g, h, by omega⟩)) _ _) (below_store2 hEnd (by omega) _ _) (hf6.imp id (fun ⟨g, h, h', ho⟩ => ⟨g, h, by omega, ho.store2 (by omega) _ _⟩))
end Go.Proofs.Ytkgnlloioaobiaa
namespace Go.Proofs.Ytkgnlloioaobiaa
open Go.RowKit
def valD (n : Nat) (x : List Int) (d : CD) : Int := d.K + dotSum d.xs x n
theorem dot_sgn {n : Nat} {s : Int} {xs x : List Int} : dotSum (sgnL s xs) x n = s * dotSum xs x n :=
  dot_scale n fun j _ => by
    unfold sgnL
    rw [List.getElem?_map]
    cases xs[j]? <;> simp
section
variable {α : Type} (R : α → α → Bool) (S : α → α → Prop)
end
section
variable {n : Nat} {x : List Int} {p : List CD} (hs : Sorted p) (hn : ∀ d ∈ p, NormD n d)
include hs hn
omit hs hn in
theorem imp_val {eqs : List CD} {c e : CD} (h : impD eqs c = some e) (he : valD n x e = 0) : e ∈ eqs ∧ c.K - signI c.xs * e.K = valD n x c := by
  unfold impD at h
  obtain ⟨ht, j, hj⟩ := find_elim h
  refine ⟨List.mem_of_getElem? hj, ?_⟩
  unfold valD at he ⊢
  rw [ht, dot_sgn] at he
  have h1 : signI c.xs = 1 ∨ signI c.xs = -1 := by unfold signI; split <;> simp
  rcases h1 with h1 | h1 <;> rw [h1] at he ⊢ <;> omega
end
end Go.Proofs.Ytkgnlloioaobiaa
namespace Go.Proofs.Ytkgnlloioaobiaa
open Go.RowKit
theorem cl_empty (N0 : Nat) {N : Nat} {w : World} {g : Nat} (hN : N ≤ g) (hg : w.heap[g]? = some (.cells #[] 55 (0, 0))) : CL2 N0 N w (.slice (some ⟨g, 0, none⟩) 0 0) [] :=
  ⟨⟨rfl, .inr ⟨g, 0, #[], rfl, hN, hg, by simp, by decide, by simp, by simp [ccells]⟩⟩, by simp, (fun e h => nomatch h), (fun e h => nomatch h)⟩
end Go.Proofs.Ytkgnlloioaobiaa
namespace Go.Proofs.Ytkgnlloioaobiaa
open Go.RowKit
theorem run_eql_conds_nil (w : World) (A : Option Addr) (n c : Nat) :
    (binOp .eql 40 (.slice A n c) (.slice none 0 0)).run Try.prog w = .ok (.bool A.isNone) w := by
  have h : ∀ d : Nat, (Op.equalIn (d + 1) 40 (.slice A n c) (.slice none 0 0)).run Try.prog w = .ok A.isNone w := fun d => by
    cases A <;> simp [Op.equalIn, run_underlying Try.underlying40]
  simp only [binOp]
  simp [Op.equal, Op.maxDepth, h 9999]
end Go.Proofs.Ytkgnlloioaobiaa
namespace Go.Proofs.Ytkgnlloioaobiaa
open Go.ChangeShapes Go.WideShapes Go.ChangeAt Go.RowKit
def RowAny (N : Nat) (W : World) (A : Option Addr) (n : Nat) : Prop := (∃ b off, A = some ⟨b, off, none⟩ ∧ b < N) ∨ RowOk 0 W A n
section
variable {N : Nat} {W W' : World} {A : Option Addr} {n : Nat} {xs : List Int}
theorem RowAny.step (h : RowAny N W A n) (hb : Below W.heap.size W W') : RowAny N W' A n := h.imp id fun h => h.step hb
theorem RowAny.mono {N' : Nat} (h : RowAny N W A n) (hN : N ≤ N') : RowAny N' W A n := h.imp (fun ⟨b, off, hA, hb⟩ => ⟨b, off, hA, Nat.lt_of_lt_of_le hb hN⟩) id
theorem RowAny.of_ints (h : IntsAt W A n xs) (hN : W.heap.size ≤ N) : RowAny N W A n := by
  rcases Nat.eq_zero_or_pos n with h0 | h0
  · exact .inr (.inl h0)
  · obtain ⟨b, off, hA, hlt, _⟩ := h.cells h0
    exact .inl ⟨b, off, hA, Nat.lt_of_lt_of_le hlt hN⟩
theorem RowAny.grown {row : Option Nat} (h : RowAny N W A n) (hg : W.grownBy W' row) (hr : ∀ r, row = some r → N ≤ r ∧ ∃ cur fr, W.heap[r]? = some (.cells cur 55 fr)) : RowAny N W' A n :=
  h.imp id fun h => h.grown hg fun r e => (hr r e).2
theorem IntsAt.grown_any {row : Option Nat} (h : IntsAt W A n xs) (ho : RowAny N W A n) (hg : W.grownBy W' row) (hr : ∀ r, row = some r → N ≤ r ∧ ∃ cur fr, W.heap[r]? = some (.cells cur 55 fr)) : IntsAt W' A n xs := by
  rcases ho with ⟨b', off', hA', hb'⟩ | ho
  · refine ⟨h.len, h.small, h.wf, fun hn => ?_⟩
    obtain ⟨b, off, hA, hlt, hc⟩ := h.cells hn
    rw [hA'] at hA
    cases hA
    refine ⟨b', off', hA', Nat.lt_of_lt_of_le hlt hg.size, fun j hj => ?_⟩
    rw [← hc j hj]
    exact World.cell?_of_block (hg.block b' hlt fun e => by have := (hr b' e.symm).1; omega)
  · exact h.grown ho hg fun r e => (hr r e).2
end
structure CL3 (N : Nat) (W : World) (u : Value) (els : List CEl) : Prop where
  own : W.ownsRow N 55 4 u els.length (ccells els)
  few : els.length ≤ 100000
  ints : ∀ e ∈ els, IntsAt W e.A e.n e.xs
  rows : ∀ e ∈ els, RowAny N W e.A e.n
section
variable {N : Nat} {W W' : World} {u : Value} {els : List CEl}
theorem CL3.of_cl {N0 : Nat} (h : CL2 N0 N W u els) : CL3 N W u els := ⟨h.own, h.few, h.ints, fun e he => .inr ((h.rows e he).mono (Nat.zero_le _))⟩
theorem CL3.nil (N : Nat) (W : World) : CL3 N W (.slice none 0 0) [] := .of_cl (CL2.nil 0 N W)
theorem CL3.step (h : CL3 N W u els) (hb : Below W.heap.size W W') : CL3 N W' u els := by
  refine ⟨⟨h.own.1, ?_⟩, h.few, fun e he => (h.ints e he).step hb, fun e he => (h.rows e he).step hb⟩
  rcases h.own.2 with h0 | ⟨g, cap, cur, hv, hg, hc, rest⟩
  · exact .inl h0
  · exact .inr ⟨g, cap, cur, hv, hg, (hb.block g (Array.getElem?_eq_some_iff.1 hc).1).trans hc, rest⟩
theorem CL3.slice (h : CL3 N W u els) : ∃ A c, u = .slice A els.length c := by
  rcases h.own.2 with ⟨rfl, h0⟩ | ⟨g, cap, cur, rfl, _⟩
  · rw [h0]; exact ⟨none, 0, rfl⟩
  · exact ⟨_, _, rfl⟩
theorem CL3.typed (h : CL3 N W u els) : ∀ r, u.ownBlock = some r → N ≤ r ∧ ∃ cur fr, W.heap[r]? = some (.cells cur 55 fr) := fun r e => by
  rcases h.own.2 with ⟨hv, _⟩ | ⟨gl, cap', cur', hv, hgN, hgl, _⟩
  · rw [hv] at e; cases e
  · rw [hv] at e
    simp only [Value.ownBlock, Option.some.injEq] at e
    subst e
    exact ⟨hgN, cur', _, hgl⟩
theorem CL3.conds {A : Option Addr} {m c : Nat} (h : CL3 N W (.slice A m c) els) : m = els.length ∧ CondsAt W A els.length els := by
  have hm : m = els.length := by
    obtain ⟨A', c', e⟩ := h.slice
    cases e; rfl
  subst hm
  have hf := h.few
  refine ⟨rfl, rfl, by omega, ?_, h.ints⟩
  intro h0
  rcases h.own.2 with ⟨_, h1⟩ | ⟨g, cap, cur, hv, hb, hc, h1, h2, h3, h4⟩
  · omega
  · cases hv
    refine ⟨g, 0, rfl, (Array.getElem?_eq_some_iff.1 hc).1, fun j e he => ?_⟩
    obtain ⟨a0, a1, a2, a3⟩ := ccells_at els j e he
    have hj := (List.getElem?_eq_some_iff.1 he).1
    rw [Nat.zero_add]
    refine ⟨?_, ?_, ?_, ?_⟩
    · have := World.ownsRow.cellAt h.own (j * 4) (by omega); rw [this]; exact a0
    · have := World.ownsRow.cellAt h.own (j * 4 + 1) (by omega); rw [this]; exact a1
    · have := World.ownsRow.cellAt h.own (j * 4 + 2) (by omega); rw [this]; exact a2
    · have := World.ownsRow.cellAt h.own (j * 4 + 3) (by omega); rw [this]; exact a3
end
theorem cl3_empty {N : Nat} {w : World} {g : Nat} (hN : N ≤ g) (hg : w.heap[g]? = some (.cells #[] 55 (0, 0))) : CL3 N w (.slice (some ⟨g, 0, none⟩) 0 0) [] := .of_cl (cl_empty 0 hN hg)
section
variable {ops : Array Oper} {o : Oper} {a : Act} {w : World} {Q : Exit → Act → World → Prop}
theorem wpList_append_any {rest : List Oper} (hgd : o.guard = none) (s x : Operand) (t : TypeId) (ho : o.op = .call { callee := .builtin .append, args := #[s, x], argTypes := #[t, t] }) (ht : Try.prog.underlying t = some (.slice 55))
    {N : Nat} {u : Value} {els : List CEl} (hs : a.eval s = u) (hL : CL3 N w u els) {A : Option Addr} {n c : Nat} {new : List CEl} (hx : a.eval x = .slice A n c) (hC : CondsAt w A n new) (hnil : A = none → c = 0) (hro : ∀ e ∈ new, RowAny N w e.A e.n) (hm : els.length + n ≤ 100000) (hN : N ≤ w.heap.size)
    (h : ∀ u' w', CL3 N w' u' (els ++ new) → Below N w w' → wpList Try.prog ops Q rest (a.put o.dst u') w') : wpList Try.prog ops Q (o :: rest) a w := by
  obtain ⟨i0, hi0, hz, hz1, hz2⟩ := info_parts infoCond
  have hl := hC.len
  cases A with
  | none =>
    have hn : n = 0 := by
      rcases Nat.eq_zero_or_pos n with h0 | h0
      · exact h0
      · obtain ⟨b, off, hA, _⟩ := hC.cells h0
        cases hA
    subst hn
    obtain rfl := hnil rfl
    obtain rfl : new = [] := List.length_eq_zero_iff.1 hl
    exact wpList_append_own_none hgd s x t ho N 55 i0 4 ht hi0 u els.length (ccells els) hs hL.own hx (h u w (by rw [List.append_nil]; exact hL) (Below.refl _ _))
  | some ad =>
    have hat : ∀ (j : Nat) (v : Value), (ccells new)[j]? = some v → w.cell? (ad.add j) = some v := fun j v hv => by
      rcases Nat.eq_zero_or_pos n with h0 | h0
      · rw [List.length_eq_zero_iff.1 (hl.trans h0)] at hv
        simp [ccells] at hv
      · obtain ⟨b, off, hA, _⟩ := hC.cells h0
        cases hA
        rw [add_plain]
        exact conds_cell hC hv
    refine wpList_append_own _ hgd s x t ho N 55 i0 (.agg #[.int .i64 0, .int .i64 0, .slice none 0 0, .int .i64 0]) 4 48 ht hi0 hz hz1 hz2 rfl (by decide) u els.length (ccells els) hs hL.own ad n c (ccells new) hx (by rw [ccells_len, hl]) hat (ccells_one new) (by unfold maxLen; omega) (by omega) hN ?_
    intro v' w' hown hgr _
    refine h v' w' ⟨by rw [List.length_append, ccells_app, hl]; exact hown, by rw [List.length_append]; omega, fun e he => ?_, fun e he => ?_⟩ ((Below.refl N w).grown hgr hN fun k e => (hL.typed k e).1)
    · rcases List.mem_append.1 he with he | he
      · exact (hL.ints e he).grown_any (hL.rows e he) hgr hL.typed
      · exact (hC.ints e he).grown_any (hro e he) hgr hL.typed
    · rcases List.mem_append.1 he with he | he
      · exact (hL.rows e he).grown hgr hL.typed
      · exact (hro e he).grown hgr hL.typed
end
theorem any_clone (A : Option Addr) (m c : Nat) (els : List CEl) (w : World) (C0 : CondsAt w A m els) (hm : m ≤ 1000) :
    Calls Try.prog 67 #[.slice A m c] w fun e w' => ∃ A' c', e = .returned (.slice A' els.length c') ∧ CL3 w.heap.size w' (.slice A' els.length c') els ∧ Below w.heap.size w w' := by
  have heq := fun w => run_eql_conds_nil w A m c
  have hl := C0.len
  cases A with
  | none =>
    obtain rfl : m = 0 := by
      rcases Nat.eq_zero_or_pos m with h0 | h0
      · exact h0
      · obtain ⟨b, off, hA, _⟩ := C0.cells h0
        cases hA
    obtain rfl : els = [] := List.length_eq_zero_iff.1 hl
    go_enter Try.func67, Try.ntmps67
    go_wp2
    go_ret
    exact ⟨none, 0, rfl, CL3.nil _ _, Below.refl _ _⟩
  | some ad =>
    have hB0 := below_alloc w (.cells #[] 55)
    have HL0 := cl3_empty (N := w.heap.size) (w := w.alloc (.cells #[] 55)) (g := w.heap.size) (Nat.le_refl _) (heap_alloc_new w (.cells #[] 55))
    have C1 := C0.step hB0
    have R1 := fun e he => (RowAny.of_ints (C0.ints e he) (Nat.le_refl _)).step hB0
    have h1 : ([] : List CEl).length + m ≤ 100000 := by simp; omega
    have HN := Lib.hid hB0.size
    have HB := Lib.hid hB0
    clear C0 hB0 hl
    go_enter Try.func67, Try.ntmps67
    go_wp2_with (at_builtin; refine wpList_append_any rfl _ _ 40 rfl rfl rfl HL0 rfl C1 (fun h => nomatch h) R1 h1 HN.out ?_; intro u7 w7 L7 hb7; rw [List.nil_append] at L7; obtain ⟨A7, c7, hu7⟩ := L7.slice; subst hu7)
    go_ret
    exact ⟨A7, c7, rfl, L7, HB.out.trans hb7⟩
def CEl.withL (e : CEl) (A : Option Addr) (n c : Nat) (K : Int) (xs : List Int) : CEl := ⟨e.q, e.M, A, n, c, K, xs⟩
theorem ccells_setL : ∀ (l : List CEl) (j : Nat) (e : CEl) (A : Option Addr) (n c : Nat) (K : Int) (xs : List Int), l[j]? = some e → ccells (l.set j (e.withL A n c K xs)) = ((ccells l).set (j * 4 + 2) (.slice A n c)).set (j * 4 + 3) (.int .i64 K)
  | [], j, e, A, n, c, K, xs, h => by simp at h
  | x :: l, 0, e, A, n, c, K, xs, h => by simp at h; subst h; rfl
  | x :: l, j + 1, e, A, n, c, K, xs, h => by
    have ih := ccells_setL l j e A n c K xs (by simpa using h)
    rw [show (j + 1) * 4 + 3 = j * 4 + 3 + 1 + 1 + 1 + 1 by omega, show (j + 1) * 4 + 2 = j * 4 + 2 + 1 + 1 + 1 + 1 by omega]
    simp only [List.set_cons_succ, ccells, CEl.cells, List.cons_append, List.nil_append, ih]
theorem grown_set2 (W : World) (g i j : Nat) (u v : Value) : W.grownBy ((W.setCell ⟨g, i, none⟩ u).setCell ⟨g, j, none⟩ v) (some g) :=
  ⟨rfl, rfl, rfl, by simp [World.setCell], fun k _ hk => (Below.heap_setCell _ _ _ k (fun e => hk (by rw [e]))).trans (Below.heap_setCell _ _ _ k (fun e => hk (by rw [e])))⟩
theorem CL3.setL {N : Nat} {W : World} {g m c : Nat} {els : List CEl} (h : CL3 N W (.slice (some ⟨g, 0, none⟩) m c) els) {j : Nat} {e : CEl} (he : els[j]? = some e) (A' : Option Addr) (n' c' : Nat) (K' : Int) (xs' : List Int) (hi : IntsAt W A' n' xs') (hr : RowAny N W A' n') :
    CL3 N ((W.setCell ⟨g, j * 4 + 2, none⟩ (.slice A' n' c')).setCell ⟨g, j * 4 + 3, none⟩ (.int .i64 K')) (.slice (some ⟨g, 0, none⟩) m c) (els.set j (e.withL A' n' c' K' xs')) := by
  have hgr := grown_set2 W g (j * 4 + 2) (j * 4 + 3) (.slice A' n' c') (.int .i64 K')
  have hty : ∀ r, some g = some r → N ≤ r ∧ ∃ cur fr, W.heap[r]? = some (.cells cur 55 fr) := fun r e => h.typed r (by rw [← e]; rfl)
  have hj := (List.getElem?_eq_some_iff.1 he).1
  refine ⟨⟨by rw [ccells_len], ?_⟩, by rw [List.length_set]; exact h.few, fun x hx => ?_, fun x hx => ?_⟩
  · rcases h.own.2 with ⟨hv, h0⟩ | ⟨g', cap, cur, hv, hN, hc, h1, h2, h3, h4⟩
    · cases hv
    · simp only [Value.slice.injEq, Option.some.injEq, Addr.mk.injEq, and_true, true_and] at hv
      obtain ⟨rfl, rfl, rfl⟩ := hv
      refine .inr ⟨g, c, (cur.setIfInBounds (j * 4 + 2) (.slice A' n' c')).setIfInBounds (j * 4 + 3) (.int .i64 K'), by rw [List.length_set], hN, ?_, by rw [List.length_set]; exact h1, h2, by rw [Array.size_setIfInBounds, Array.size_setIfInBounds]; exact h3, ?_⟩
      · simp only [World.setCell]
        rw [Array.getElem?_modify, if_pos rfl, Array.getElem?_modify, if_pos rfl, hc]
        rfl
      · rw [ccells_setL els j e A' n' c' K' xs' he, ← h4, List.length_set, Array.toList_setIfInBounds, Array.toList_setIfInBounds, List.take_set, List.take_set]
  · rcases List.mem_or_eq_of_mem_set hx with hx | rfl
    · exact (h.ints x hx).grown_any (h.rows x hx) hgr hty
    · exact hi.grown_any hr hgr hty
  · rcases List.mem_or_eq_of_mem_set hx with hx | rfl
    · exact (h.rows x hx).grown hgr hty
    · exact hr.grown hgr hty
end Go.Proofs.Ytkgnlloioaobiaa
namespace Go.Proofs.Ytkgnlloioaobiaa
open Go.RowKit
structure PL (n N : Nat) (w : World) (u : Value) (ps : List PEl) : Prop where
  own : w.ownsRow N 40 1 u ps.length (ps.map PEl.v)
  few : ps.length ≤ 4000000000
  ok : ∀ p ∈ ps, PieceOk n w p
section
variable {n N : Nat} {w w' : World} {u : Value} {ps : List PEl}
theorem PL.nil (n N : Nat) (w : World) : PL n N w (.slice none 0 0) [] := ⟨World.ownsRow_nil _ _ _ _, by simp, (fun p h => nomatch h)⟩
theorem PL.step (h : PL n N w u ps) (hb : Below w.heap.size w w') : PL n N w' u ps := ⟨own_step h.own hb, h.few, fun p hp => (h.ok p hp).keep (.of_below hb)⟩
theorem PL.slice (h : PL n N w u ps) : ∃ A c, u = .slice A ps.length c := by
  rcases h.own.2 with ⟨rfl, h0⟩ | ⟨g, cap, cur, rfl, _⟩
  · rw [h0]; exact ⟨none, 0, rfl⟩
  · exact ⟨_, _, rfl⟩
theorem PL.pieces (h : PL n N w u ps) : ∃ A c, u = .slice A ps.length c ∧ PiecesAt w A ps.length ps ∧ (0 < ps.length → ∃ g o, A = some ⟨g, o, none⟩ ∧ N ≤ g) := by
  have hc : ∀ p ∈ ps, CondsAt w p.A p.n p.els := fun p hp => (h.ok p hp).1.conds
  have hf := h.few
  rcases h.own.2 with ⟨rfl, h0⟩ | ⟨g, cap, cur, rfl, hg, hcc, rest⟩
  · rw [h0]
    exact ⟨none, 0, rfl, ⟨by rw [h0], by omega, fun h' => absurd h' (by omega), hc⟩, fun h' => absurd h' (by omega)⟩
  · refine ⟨_, _, rfl, ⟨rfl, by omega, fun h' => ⟨g, 0, rfl, (Array.getElem?_eq_some_iff.1 hcc).1, fun j p hp => ?_⟩, hc⟩, fun _ => ⟨g, 0, rfl, hg⟩⟩
    have hj : j < ps.length := (List.getElem?_eq_some_iff.1 hp).1
    rw [Nat.zero_add, cell_of_row w g j _ _ (0, 0) hcc]
    have h5 := congrArg (·[j]?) rest.2.2.2
    simp only [List.getElem?_take, List.getElem?_map, hp, Option.map_some] at h5
    rw [if_pos (by omega)] at h5
    simpa [PEl.v] using h5
theorem PL.at (h : PL n N w u ps) {A : Option Addr} {m c : Nat} (hu : u = .slice A m c) : m = ps.length ∧ PiecesAt w A ps.length ps := by
  obtain ⟨A', c', e, hP, _⟩ := h.pieces
  rw [hu] at e
  cases e
  exact ⟨rfl, hP⟩
theorem PL.typed (h : PL n N w u ps) : ∀ r, u.ownBlock = some r → N ≤ r ∧ ∃ cur, w.heap[r]? = some (.cells cur 40 (0, 0)) := fun r e => by
  rcases h.own.2 with ⟨hv, _⟩ | ⟨g, cap, cur, hv, hgN, hc, _⟩
  · rw [hv] at e; cases e
  · rw [hv] at e; cases e; exact ⟨hgN, cur, hc⟩
end
section
variable {ops : Array Oper} {o : Oper} {a : Act} {w : World} {Q : Exit → Act → World → Prop}
end
end Go.Proofs.Ytkgnlloioaobiaa
namespace Go.Proofs.Ytkgnlloioaobiaa
open Go.ChangeShapes Go.WideShapes Go.ChangeAt Go.RowKit Go.Joins Go.Deep
def PieceC (p : PEl) : Prop := (p.A = none → p.c = 0) ∧ p.n ≤ p.c ∧ ∀ e ∈ p.els, CapOf e.A e.n e.c
section
variable {H : Type} {enc : TypeId × Value → H} {w : World}
theorem cond_coreC {fuel : Nat} {cs : List Value} {y : DataW H × List MemPlace} (hlt : ∀ x ∈ y.2, x.block < w.heap.size) (hsz : (y.1.weights Try.prog 55).all (· ≤ reachBytes) = true)
    (hf : DataW.trod enc Try.prog w 0 (fun _ => true) true fuel 55 cs = some y) : ∃ e : CEl, cs = e.cells ∧ IntsAt w e.A e.n e.xs ∧ CapOf e.A e.n e.c := by
  obtain ⟨y0, y1, y2, n, rfl, hlen, h0, h1, h2⟩ := trod_struct3 Try.underlying55 hf
  have k0 : Try.prog.cellsOf 55 = 4 := by kernel_rfl
  have k1 : Try.prog.cellsOf 3 = 1 := by kernel_rfl
  have k2 : Try.prog.cellsOf 53 = 2 := by kernel_rfl
  have k3 : Try.prog.cellsOf 33 = 1 := by kernel_rfl
  rw [k0] at hlen
  match cs, hlen with
  | [c0, c1, c2, c3], _ =>
    simp only [k1, k2, List.drop_zero, List.take_succ_cons, List.take_zero, List.drop_succ_cons] at h0 h1 h2
    simp only [DataW.weights, Try.underlying55, DataW.weightsEach, List.map_cons, List.all_append, Bool.and_eq_true] at hsz
    obtain ⟨q, hv0, hq⟩ := DataW.trod_int Try.underlying3 h0
    obtain ⟨M, hv1, hM⟩ := DataW.trod_int Try.underlying3 h1
    obtain ⟨z0, z1, m, hx2, _, g0, g1⟩ := trod_struct2 Try.underlying53 h2
    simp only [k1, k3, List.drop_zero, List.take_succ_cons, List.take_zero, List.drop_succ_cons] at g0 g1
    subst hx2
    have hsz2 := hsz.2.2.1
    simp only [DataW.weights, Try.underlying53, DataW.weightsEach, List.map_cons, List.all_append, Bool.and_eq_true] at hsz2
    obtain ⟨A, l, c, xs, rfl, hI, hC⟩ := ints_coreC Try.underlying33 Try.underlying3 (by kernel_rfl) (by kernel_rfl) (fun x hx => hlt x (List.mem_append_right _ (List.mem_append_right _ (List.mem_append_left _ hx)))) hsz2.1 g0
    obtain ⟨K, hv3, hK⟩ := DataW.trod_int Try.underlying3 g1
    simp only [List.cons.injEq, and_true] at hv0 hv1 hv3
    subst hv0 hv1 hv3
    exact ⟨⟨q, M, A, l, c, K, xs⟩, rfl, hI, hC⟩
theorem conds_coreC {fuel : Nat} {v : Value} {y : DataW H × List MemPlace} (hlt : ∀ x ∈ y.2, x.block < w.heap.size) (hsz : (y.1.weights Try.prog 40).all (· ≤ reachBytes) = true)
    (hf : DataW.trod enc Try.prog w 0 (fun _ => true) true fuel 40 [v] = some y) : ∃ A n c els, v = .slice A n c ∧ CondsAt w A n els ∧ (A = none → c = 0) ∧ n ≤ c ∧ ∀ e ∈ els, CapOf e.A e.n e.c := by
  have k0 : Try.prog.cellsOf 55 = 4 := by kernel_rfl
  have kb : Try.prog.bytesOf 55 = 48 := by kernel_rfl
  rcases DataW.trod_slice Try.underlying40 hf with ⟨hcs, hx⟩ | ⟨a, len, cap, elems, rest, n, _, hcs, hx, _, hl, hm, hel, hcells, _, _⟩
  · simp only [List.cons.injEq, and_true] at hcs
    exact ⟨none, 0, 0, [], hcs, conds_nil w none, (fun _ => rfl), Nat.le_refl _, (fun e h => nomatch h)⟩
  · simp only [List.cons.injEq, and_true] at hcs
    subst hx
    simp only [DataW.weights, Try.underlying40, List.all_cons, List.all_append, Bool.and_eq_true, decide_eq_true_eq, List.length_map, kb] at hsz
    obtain ⟨hreach, hwe, _⟩ := hsz
    have hn : len ≤ 17592186044416 := by unfold reachBytes at hreach; omega
    rw [k0] at hcells
    have hplain : 0 < len → a.spot = none := fun h0 => by
      have h := hcells 0 h0
      rw [List.getElem?_eq_getElem (by omega)] at h
      obtain ⟨cs, hc, _⟩ := Option.bind_eq_some_iff.1 h
      obtain ⟨_, hcl, hcc⟩ := World.cells?_some hc
      have h1 := hcc 0 (by omega)
      rw [List.getElem?_eq_getElem (by omega)] at h1
      simpa [Addr.add] using World.cell?_spot h1
    rcases Nat.eq_zero_or_pos len with h0 | h0
    · subst h0
      exact ⟨some a, 0, cap, [], hcs, conds_nil w _, (fun h => nomatch h), Nat.zero_le _, (fun e h => nomatch h)⟩
    · obtain ⟨b, off, spot⟩ := a
      have hs := hplain h0
      have hs : spot = none := hs
      subst hs
      have hblk : b < w.heap.size := by
        have h := hcells 0 h0
        rw [List.getElem?_eq_getElem (by omega)] at h
        obtain ⟨cs, hc, _⟩ := Option.bind_eq_some_iff.1 h
        exact World.cells?_block hc (by omega)
      obtain ⟨els, hle, hP⟩ := list_of (P := fun i (e : CEl) => CellsOf w b (off + i * 4) e ∧ IntsAt w e.A e.n e.xs ∧ CapOf e.A e.n e.c) len fun i hi => by
        have h := hcells i hi
        have hi' : i < elems.length := by omega
        rw [List.getElem?_eq_getElem hi'] at h
        obtain ⟨cs, hc, ht⟩ := Option.bind_eq_some_iff.1 h
        obtain ⟨_, hcl, hcc⟩ := World.cells?_some hc
        obtain ⟨e, rfl, hI, hCo⟩ := cond_coreC (fun x hx => hlt x (List.mem_append_right _ (List.mem_flatMap.2 ⟨elems[i], List.mem_append_left _ (List.getElem_mem hi'), hx⟩)))
          (weights_mem (List.mem_map.2 ⟨elems[i], List.getElem_mem hi', rfl⟩) hwe) ht
        have ha : ∀ k : Nat, ((⟨b, off, none⟩ : Addr).add (i * 4)).add k = ⟨b, off + i * 4 + k, none⟩ := fun k => by rw [add_plain, add_plain]
        refine ⟨e, ⟨?_, ?_, ?_, ?_⟩, hI, hCo⟩
        · have := hcc 0 (by omega); rw [ha] at this; exact this
        · have := hcc 1 (by omega); rw [ha] at this; exact this
        · have := hcc 2 (by omega); rw [ha] at this; exact this
        · have := hcc 3 (by omega); rw [ha] at this; exact this
      have hall : ∀ e ∈ els, IntsAt w e.A e.n e.xs ∧ CapOf e.A e.n e.c := fun e he => by
        obtain ⟨j, hj, rfl⟩ := List.getElem_of_mem he
        exact (hP j _ (List.getElem?_eq_getElem hj)).2
      exact ⟨some ⟨b, off, none⟩, len, cap, els, hcs, ⟨hle, hn, fun _ => ⟨b, off, rfl, hblk, fun j e he => (hP j e he).1⟩, fun e he => (hall e he).1⟩, (fun h => nomatch h), hl, fun e he => (hall e he).2⟩
theorem pieces_coreC {fuel : Nat} {v : Value} {y : DataW H × List MemPlace} (hlt : ∀ x ∈ y.2, x.block < w.heap.size) (hsz : (y.1.weights Try.prog 22).all (· ≤ reachBytes) = true)
    (hf : DataW.trod enc Try.prog w 0 (fun _ => true) true fuel 22 [v] = some y) : ∃ A n c ps, v = .slice A n c ∧ PiecesAt w A n ps ∧ (A = none → c = 0) ∧ ∀ p ∈ ps, PieceC p := by
  have k0 : Try.prog.cellsOf 40 = 1 := by kernel_rfl
  have kb : Try.prog.bytesOf 40 = 24 := by kernel_rfl
  rcases DataW.trod_slice Try.underlying22 hf with ⟨hcs, hx⟩ | ⟨a, len, cap, elems, rest, n, _, hcs, hx, _, hl, hm, hel, hcells, _, _⟩
  · simp only [List.cons.injEq, and_true] at hcs
    exact ⟨none, 0, 0, [], hcs, ⟨rfl, by omega, fun h => absurd h (by omega), (fun p h => nomatch h)⟩, (fun _ => rfl), (fun p h => nomatch h)⟩
  · simp only [List.cons.injEq, and_true] at hcs
    subst hx
    simp only [DataW.weights, Try.underlying22, List.all_cons, List.all_append, Bool.and_eq_true, decide_eq_true_eq, List.length_map, kb] at hsz
    obtain ⟨hreach, hwe, _⟩ := hsz
    have hn : len ≤ 17592186044416 := by unfold reachBytes at hreach; omega
    rw [k0] at hcells
    rcases Nat.eq_zero_or_pos len with h0 | h0
    · subst h0
      exact ⟨some a, 0, cap, [], hcs, ⟨rfl, by omega, fun h => absurd h (by omega), (fun p h => nomatch h)⟩, (fun h => nomatch h), (fun p h => nomatch h)⟩
    · obtain ⟨b, off, spot⟩ := a
      obtain ⟨hs, hblk⟩ : spot = none ∧ b < w.heap.size := by
        have h := hcells 0 h0
        rw [List.getElem?_eq_getElem (by omega)] at h
        obtain ⟨cs, hc, _⟩ := Option.bind_eq_some_iff.1 h
        obtain ⟨_, hcl, hcc⟩ := World.cells?_some hc
        have h1 := hcc 0 (by omega)
        rw [List.getElem?_eq_getElem (by omega)] at h1
        exact ⟨by simpa [Addr.add] using World.cell?_spot h1, World.cells?_block hc (by omega)⟩
      subst hs
      obtain ⟨ps, hle, hP⟩ := list_of (P := fun i (p : PEl) => w.cell? ⟨b, off + i, none⟩ = some (.slice p.A p.n p.c) ∧ CondsAt w p.A p.n p.els ∧ PieceC p) len fun i hi => by
        have h := hcells i hi
        have hi' : i < elems.length := by omega
        rw [List.getElem?_eq_getElem hi'] at h
        obtain ⟨cs, hc, ht⟩ := Option.bind_eq_some_iff.1 h
        obtain ⟨_, hcl, hcc⟩ := World.cells?_some hc
        match cs, hcl with
        | [v1], _ =>
          obtain ⟨A, m, c, els, rfl, hC, hCn, hCl, hCe⟩ := conds_coreC (fun x hx => hlt x (List.mem_append_right _ (List.mem_flatMap.2 ⟨elems[i], List.mem_append_left _ (List.getElem_mem hi'), hx⟩)))
            (weights_mem (List.mem_map.2 ⟨elems[i], List.getElem_mem hi', rfl⟩) hwe) ht
          refine ⟨⟨A, m, c, els⟩, ?_, hC, hCn, hCl, hCe⟩
          have := hcc 0 (by omega)
          rw [add_plain, add_plain, Nat.mul_one, Nat.add_zero] at this
          exact this
      have hall : ∀ p ∈ ps, CondsAt w p.A p.n p.els ∧ PieceC p := fun p hp => by
        obtain ⟨j, hj, rfl⟩ := List.getElem_of_mem hp
        exact (hP j _ (List.getElem?_eq_getElem hj)).2
      exact ⟨some ⟨b, off, none⟩, len, cap, ps, hcs, ⟨hle, hn, fun _ => ⟨b, off, rfl, hblk, fun j p hp => (hP j p hp).1⟩, fun p hp => (hall p hp).1⟩, (fun h => nomatch h), fun p hp => (hall p hp).2⟩
theorem set_ofC {r : Reach} {b0 : Nat} {v : Value} {d : DataW H} {p : List MemPlace}
    (hok : Value.okWide Try.prog w r b0 24 v) (hlt : ∀ x ∈ p, x.block < w.heap.size) (hsz : (d.weights Try.prog 24).all (· ≤ reachBytes) = true)
    (h : DataW.Trod enc Try.prog w 0 (fun _ => true) true 24 v d p) : ∃ D A n c ps, v = .agg #[.int .i64 D, .slice A n c] ∧ PiecesAt w A n ps ∧ ((A = none → c = 0) ∧ ∀ p ∈ ps, PieceC p) ∧ (-9223372036854775808 ≤ D ∧ D ≤ 9223372036854775807) := by
  obtain ⟨v0, v1, y0, y1, n, rfl, rfl, rfl, h0, h1⟩ := open_agg2 Try.underlying24 (by kernel_rfl) (by kernel_rfl) hok h
  simp only [DataW.weights, Try.underlying24, DataW.weightsEach, List.map_cons, List.all_append, Bool.and_eq_true] at hsz
  obtain ⟨D, hv, hD⟩ := DataW.trod_int Try.underlying3 h0
  obtain ⟨A, m, c, ps, rfl, hP, hN, hC⟩ := pieces_coreC (fun x hx => hlt x (List.mem_append_right _ hx)) (by simpa using hsz.2.1) h1
  simp only [List.cons.injEq, and_true] at hv
  subst hv
  exact ⟨D, A, m, c, ps, rfl, hP, ⟨hN, hC⟩, bounds_i64 hD.2⟩
end
end Go.Proofs.Ytkgnlloioaobiaa
namespace Go.Proofs.Ytkgnlloioaobiaa
open Go.ChangeShapes Go.WideShapes Go.ChangeAt Go.RowKit
section
variable {N : Nat} {W W' : World} {A : Option Addr} {n : Nat} {xs : List Int} {row : Option Nat} {p : PEl}
def PcRow (N : Nat) (W : World) (row : Option Nat) : Prop := ∀ r, row = some r → N ≤ r ∧ ∃ cur t fr, W.heap[r]? = some (.cells cur t fr) ∧ t ≠ 3 ∧ t ≠ 55
theorem PcRow.ne_int (h : PcRow N W row) {b : Nat} {cur : Array Value} {fz : Nat × Nat} (hc : W.heap[b]? = some (.cells cur 3 fz)) : some b ≠ row := fun e => by
  obtain ⟨_, cur', t, fr, hr, h1, _⟩ := h b e.symm
  rw [hc] at hr
  cases hr
  exact h1 rfl
theorem PcRow.ne_cond (h : PcRow N W row) {b : Nat} {cur : Array Value} {fz : Nat × Nat} (hc : W.heap[b]? = some (.cells cur 55 fz)) : some b ≠ row := fun e => by
  obtain ⟨_, cur', t, fr, hr, _, h1⟩ := h b e.symm
  rw [hc] at hr
  cases hr
  exact h1 rfl
theorem PcRow.ne_low (h : PcRow N W row) {b : Nat} (hb : b < N) : some b ≠ row := fun e => by
  have := (h b e.symm).1
  omega
theorem RowAny.grownP (h : RowAny N W A n) (hg : W.grownBy W' row) (hr : PcRow N W row) : RowAny N W' A n :=
  h.imp id fun h => h.imp id fun ⟨b, a, hb, cur, hc, hn⟩ => ⟨b, a, hb, cur, (hg.block b (Array.getElem?_eq_some_iff.1 hc).1 (hr.ne_int hc)).trans hc, hn⟩
theorem IntsAt.grownP (h : IntsAt W A n xs) (ho : RowAny N W A n) (hg : W.grownBy W' row) (hr : PcRow N W row) : IntsAt W' A n xs := by
  refine ⟨h.len, h.small, h.wf, fun hn => ?_⟩
  obtain ⟨b, off, hA, hlt, hc⟩ := h.cells hn
  have hne : some b ≠ row := by
    rcases ho with ⟨b', off', hA', hb'⟩ | h0 | ⟨b', hA', _, cur, h1, _⟩
    · rw [hA] at hA'; cases hA'; exact hr.ne_low hb'
    · omega
    · rw [hA] at hA'; cases hA'; exact hr.ne_int h1
  exact ⟨b, off, hA, Nat.lt_of_lt_of_le hlt hg.size, fun j hj => by rw [← hc j hj]; exact World.cell?_of_block (hg.block b hlt hne)⟩
structure PieceAny (N : Nat) (w : World) (p : PEl) : Prop where
  conds : CondsAt w p.A p.n p.els
  row : 0 < p.n → ∃ b off, p.A = some ⟨b, off, none⟩ ∧ (b < N ∨ ∃ cur fr, w.heap[b]? = some (.cells cur 55 fr))
  rows : ∀ e ∈ p.els, RowAny N w e.A e.n
theorem PieceAny.step (h : PieceAny N W p) (hb : Below W.heap.size W W') : PieceAny N W' p :=
  ⟨h.conds.step hb, fun h0 => let ⟨b, off, hA, hx⟩ := h.row h0; ⟨b, off, hA, hx.imp id fun ⟨cur, fr, hc⟩ => ⟨cur, fr, (hb.block b (Array.getElem?_eq_some_iff.1 hc).1).trans hc⟩⟩, fun e he => (h.rows e he).step hb⟩
theorem PieceAny.of_cl3 {N' k c : Nat} {els : List CEl} (h : CL3 N' W (.slice A k c) els) (hr : ∀ e ∈ els, RowAny N W e.A e.n) : PieceAny N W ⟨A, k, c, els⟩ := by
  have hc := h.conds
  refine ⟨by rw [← hc.1] at hc; exact hc.2, fun h0 => ?_, hr⟩
  rcases h.own.2 with ⟨hv, h1⟩ | ⟨g, cap, cur, hv, hg, hcc, _⟩
  · exact absurd h0 (by show ¬ 0 < k; rw [hc.1]; omega)
  · cases hv
    exact ⟨g, 0, rfl, .inr ⟨cur, _, hcc⟩⟩
theorem PieceAny.mono {N' : Nat} (h : PieceAny N W p) (hN : N ≤ N') : PieceAny N' W p :=
  ⟨h.conds, fun h0 => let ⟨b, off, hA, hx⟩ := h.row h0; ⟨b, off, hA, hx.imp (fun h => Nat.lt_of_lt_of_le h hN) id⟩, fun e he => (h.rows e he).mono hN⟩
theorem PieceAny.grown (h : PieceAny N W p) (hg : W.grownBy W' row) (hr : PcRow N W row) : PieceAny N W' p := by
  have hne : 0 < p.n → ∀ b off, p.A = some ⟨b, off, none⟩ → some b ≠ row := fun h0 b off hA => by
    obtain ⟨b', off', hA', hx⟩ := h.row h0
    rw [hA] at hA'
    cases hA'
    rcases hx with hx | ⟨cur, fr, hx⟩
    · exact hr.ne_low hx
    · exact hr.ne_cond hx
  refine ⟨⟨h.conds.len, h.conds.small, fun h0 => ?_, fun e he => (h.conds.ints e he).grownP (h.rows e he) hg hr⟩, fun h0 => ?_, fun e he => (h.rows e he).grownP hg hr⟩
  · obtain ⟨b, off, hA, hlt, hc⟩ := h.conds.cells h0
    have hbk := hg.block b hlt (hne h0 b off hA)
    refine ⟨b, off, hA, Nat.lt_of_lt_of_le hlt hg.size, fun j e he => ?_⟩
    obtain ⟨a0, a1, a2, a3⟩ := hc j e he
    exact ⟨(World.cell?_of_block hbk).trans a0, (World.cell?_of_block hbk).trans a1, (World.cell?_of_block hbk).trans a2, (World.cell?_of_block hbk).trans a3⟩
  · obtain ⟨b, off, hA, hx⟩ := h.row h0
    refine ⟨b, off, hA, hx.imp id fun ⟨cur, fr, hc⟩ => ⟨cur, fr, (hg.block b (Array.getElem?_eq_some_iff.1 hc).1 (hr.ne_cond hc)).trans hc⟩⟩
theorem PieceAny.put {b : Nat} {cs : Array Value} {fz : Nat × Nat} (h : PieceAny N W p) (hb : N ≤ b) (hc : W.heap[b]? = some (.cells cs 24 fz)) (x y : Value) : PieceAny N ((W.setCell ⟨b, 0, none⟩ x).setCell ⟨b, 1, none⟩ y) p := by
  have hg : W.grownBy ((W.setCell ⟨b, 0, none⟩ x).setCell ⟨b, 1, none⟩ y) (some b) :=
    ⟨rfl, rfl, rfl, by simp [World.setCell], fun k _ hk => (Below.heap_setCell _ _ _ k (fun e => hk (by rw [e]))).trans (Below.heap_setCell _ _ _ k (fun e => hk (by rw [e])))⟩
  exact h.grown hg fun r e => by cases e; exact ⟨hb, _, _, _, hc, by decide, by decide⟩
end
structure PL3 (N : Nat) (w : World) (u : Value) (ps : List PEl) : Prop where
  own : w.ownsRow N 40 1 u ps.length (ps.map PEl.v)
  few : ps.length ≤ 4000000000
  ok : ∀ p ∈ ps, PieceAny N w p
section
variable {N : Nat} {w w' : World} {u : Value} {ps : List PEl}
theorem PL3.nil (N : Nat) (w : World) : PL3 N w (.slice none 0 0) [] := ⟨World.ownsRow_nil _ _ _ _, by simp, (fun p h => nomatch h)⟩
theorem PL3.step (h : PL3 N w u ps) (hb : Below w.heap.size w w') : PL3 N w' u ps := ⟨own_step h.own hb, h.few, fun p hp => (h.ok p hp).step hb⟩
theorem PL3.slice (h : PL3 N w u ps) : ∃ A c, u = .slice A ps.length c := by
  rcases h.own.2 with ⟨rfl, h0⟩ | ⟨g, cap, cur, rfl, _⟩
  · rw [h0]; exact ⟨none, 0, rfl⟩
  · exact ⟨_, _, rfl⟩
theorem PL3.pieces (h : PL3 N w u ps) : ∃ A c, u = .slice A ps.length c ∧ PiecesAt w A ps.length ps ∧ (0 < ps.length → ∃ g o, A = some ⟨g, o, none⟩ ∧ N ≤ g) := by
  have hc : ∀ p ∈ ps, CondsAt w p.A p.n p.els := fun p hp => (h.ok p hp).conds
  have hf := h.few
  rcases h.own.2 with ⟨rfl, h0⟩ | ⟨g, cap, cur, rfl, hg, hcc, rest⟩
  · rw [h0]
    exact ⟨none, 0, rfl, ⟨by rw [h0], by omega, fun h' => absurd h' (by omega), hc⟩, fun h' => absurd h' (by omega)⟩
  · refine ⟨_, _, rfl, ⟨rfl, by omega, fun h' => ⟨g, 0, rfl, (Array.getElem?_eq_some_iff.1 hcc).1, fun j p hp => ?_⟩, hc⟩, fun _ => ⟨g, 0, rfl, hg⟩⟩
    have hj : j < ps.length := (List.getElem?_eq_some_iff.1 hp).1
    rw [Nat.zero_add, cell_of_row w g j _ _ (0, 0) hcc]
    have h5 := congrArg (·[j]?) rest.2.2.2
    simp only [List.getElem?_take, List.getElem?_map, hp, Option.map_some] at h5
    rw [if_pos (by omega)] at h5
    simpa [PEl.v] using h5
theorem PL3.typed (h : PL3 N w u ps) : PcRow N w u.ownBlock := fun r e => by
  rcases h.own.2 with ⟨hv, _⟩ | ⟨g, cap, cur, hv, hgN, hc, _⟩
  · rw [hv] at e; cases e
  · rw [hv] at e; cases e; exact ⟨hgN, cur, _, _, hc, by decide, by decide⟩
theorem pieces_of_one {g : Nat} {p : PEl} (hg : w.heap[g]? = some (.cells #[p.v] 40 (0, 0))) (hp : CondsAt w p.A p.n p.els) : PiecesAt w (some ⟨g, 0, none⟩) 1 [p] := by
  refine ⟨rfl, by omega, fun _ => ⟨g, 0, rfl, (Array.getElem?_eq_some_iff.1 hg).1, fun j q hq => ?_⟩, fun q hq => by rw [List.mem_singleton.1 hq]; exact hp⟩
  match j, hq with
  | 0, hq =>
    cases hq
    rw [cell_of_row w g _ _ _ (0, 0) hg]; rfl
  | j + 1, hq => simp at hq
theorem pv_one : ∀ l : List PEl, ∀ u ∈ l.map PEl.v, u.oneCell' = true := fun l u hu => by
  obtain ⟨p, _, rfl⟩ := List.mem_map.1 hu
  rfl
end
theorem pieces_again {W W' : World} {A : Option Addr} {k : Nat} {ps : List PEl} (h : PiecesAt W A k ps) (hc : ∀ p ∈ ps, CondsAt W' p.A p.n p.els) (hs : W.heap.size ≤ W'.heap.size) (hr : 0 < k → ∀ g o, A = some ⟨g, o, none⟩ → W'.heap[g]? = W.heap[g]?) : PiecesAt W' A k ps :=
  ⟨h.len, h.small, fun h0 => let ⟨b, off, hA, hlt, hx⟩ := h.cells h0; ⟨b, off, hA, Nat.lt_of_lt_of_le hlt hs, fun j p hp => (World.cell?_of_block (hr h0 b off hA)).trans (hx j p hp)⟩, hc⟩
section
variable {ops : Array Oper} {o : Oper} {a : Act} {w : World} {Q : Exit → Act → World → Prop}
end
section
variable {ops : Array Oper} {o : Oper} {a : Act} {w : World} {Q : Exit → Act → World → Prop}
end
structure PM (N g m : Nat) (w : World) (qs : List PEl) : Prop where
  row : w.heap[g]? = some (.cells (qs.map PEl.v ++ List.replicate (m - qs.length) (Value.slice none 0 0)).toArray 40 (0, 0))
  le : qs.length ≤ m
  far : N ≤ g
  ok : ∀ p ∈ qs, PieceAny N w p
section
variable {N g m : Nat} {w w' : World} {qs : List PEl}
theorem PM.lt (h : PM N g m w qs) : g < w.heap.size := (Array.getElem?_eq_some_iff.1 h.row).1
theorem PM.step (h : PM N g m w qs) (hb : Below w.heap.size w w') : PM N g m w' qs := ⟨(hb.block g h.lt).trans h.row, h.le, h.far, fun p hp => (h.ok p hp).step hb⟩
theorem PM.f (h : PM N g m w qs) (j : Nat) : w.frozen? ⟨g, j, none⟩ = false := by simp [World.frozen?, h.row]
theorem PM.has (h : PM N g m w qs) {j : Nat} (hj : j < m) : ∃ v, w.cell? ⟨g, j, none⟩ = some v := by
  rw [cell_of_row w g j _ _ (0, 0) h.row]
  have hle := h.le
  rw [List.getElem?_toArray, List.getElem?_eq_getElem (by simp; omega)]
  exact ⟨_, rfl⟩
theorem PM.put (h : PM N g m w qs) (hl : qs.length < m) {p : PEl} (hp : PieceAny N w p) : PM N g m (w.setCell ⟨g, qs.length, none⟩ p.v) (qs ++ [p]) := by
  have hgr : w.grownBy (w.setCell ⟨g, qs.length, none⟩ p.v) (some g) := ⟨rfl, rfl, rfl, by simp [World.setCell], fun k _ hk => Below.heap_setCell _ _ _ k (fun e => hk (by rw [e]))⟩
  have hty : PcRow N w (some g) := fun r e => by cases e; exact ⟨h.far, _, _, _, h.row, by decide, by decide⟩
  refine ⟨?_, by rw [List.length_append, List.length_singleton]; omega, h.far, fun q hq => ?_⟩
  · simp only [World.setCell]
    rw [Array.getElem?_modify, if_pos rfl, h.row]
    simp only [Option.map_some, Obj.cells.injEq, Option.some.injEq, and_true]
    rw [List.map_append, List.length_append, List.length_singleton, List.map_singleton]
    obtain ⟨k, hk⟩ : ∃ k, m - qs.length = k + 1 := ⟨m - qs.length - 1, by omega⟩
    rw [hk, show m - (qs.length + 1) = k by omega, List.replicate_succ]
    simp [List.set_append_right]
  · rcases List.mem_append.1 hq with hq | hq
    · exact (h.ok q hq).grown hgr hty
    · rw [List.mem_singleton.1 hq]; exact hp.grown hgr hty
theorem PM.pieces (h : PM N g m w qs) (hm : qs.length = m) (hs : m ≤ 17592186044416) : PiecesAt w (some ⟨g, 0, none⟩) m qs := by
  refine ⟨hm, hs, fun _ => ⟨g, 0, rfl, h.lt, fun j p hp => ?_⟩, fun p hp => (h.ok p hp).conds⟩
  have hj := (List.getElem?_eq_some_iff.1 hp).1
  rw [Nat.zero_add, cell_of_row w g j _ _ (0, 0) h.row, List.getElem?_toArray, List.getElem?_append_left (by simpa using hj), List.getElem?_map, hp]
  rfl
end
end Go.Proofs.Ytkgnlloioaobiaa
namespace Go.Proofs.Ytkgnlloioaobiaa
open Go.RowKit
def chgD (g : List Int → Int → List Int × Int) (d : CD) : CD := ⟨d.q, d.M, (g d.xs d.K).1, (g d.xs d.K).2⟩
structure Chgd (g : List Int → Int → List Int × Int) (els us : List CEl) (j : Nat) : Prop where
  len : us.length = els.length
  done : ∀ t e, t < j → els[t]? = some e → ∃ u, us[t]? = some u ∧ u.d = chgD g e.d
  left : ∀ t, j ≤ t → us[t]? = els[t]?
theorem Chgd.zero (g : List Int → Int → List Int × Int) (els : List CEl) : Chgd g els els 0 := ⟨rfl, fun t e h => absurd h (Nat.not_lt_zero _), fun _ _ => rfl⟩
theorem Chgd.at {g : List Int → Int → List Int × Int} {els us : List CEl} {j : Nat} (h : Chgd g els us j) {e : CEl} (he : els[j]? = some e) : us[j]? = some e := (h.left j (Nat.le_refl _)).trans he
theorem Chgd.step {g : List Int → Int → List Int × Int} {els us : List CEl} {j : Nat} (h : Chgd g els us j) {e : CEl} (he : els[j]? = some e) (A : Option Addr) (n c : Nat) :
    Chgd g els (us.set j (e.withL A n c (g e.xs e.K).2 (g e.xs e.K).1)) (j + 1) := by
  have hj := (List.getElem?_eq_some_iff.1 (h.at he)).1
  refine ⟨by rw [List.length_set]; exact h.len, fun t e' ht he' => ?_, fun t ht => ?_⟩
  · rcases Nat.lt_or_ge t j with hlt | hge
    · obtain ⟨u, hu, hd⟩ := h.done t e' hlt he'
      exact ⟨u, by rw [List.getElem?_set_ne (by omega)]; exact hu, hd⟩
    · obtain rfl : t = j := by omega
      rw [he] at he'
      cases he'
      exact ⟨_, List.getElem?_set_self hj, rfl⟩
  · rw [List.getElem?_set_ne (by omega)]
    exact h.left t (by omega)
theorem Chgd.all {g : List Int → Int → List Int × Int} {els us : List CEl} {m : Nat} (h : Chgd g els us m) (hm : m = els.length) : us.map CEl.d = els.map fun e => chgD g e.d := by
  apply List.ext_getElem?
  intro t
  rcases Nat.lt_or_ge t els.length with ht | ht
  · obtain ⟨u, hu, hd⟩ := h.done t els[t] (by omega) (List.getElem?_eq_getElem ht)
    rw [List.getElem?_map, hu, List.getElem?_map, List.getElem?_eq_getElem ht]
    simp [hd]
  · rw [List.getElem?_eq_none (by simp [h.len]; omega), List.getElem?_eq_none (by simp; omega)]
end Go.Proofs.Ytkgnlloioaobiaa
namespace Go.Proofs.Ytkgnlloioaobiaa
open Go.RowKit
def roomP0 (k g : Nat) (j : Nat) : Part := if j = 1 then ⟨some ⟨g, 0, none⟩, k, k, zeros k⟩ else ⟨none, 0, 0, []⟩
theorem room_parts0 {w : World} {k : Nat} (hk : k ≤ 12) :
    PartsAt ((w.alloc (.cells ((zeros k).map (Value.int .i64)).toArray 3)).alloc (.cells #[.slice none 0 0, .slice (some ⟨w.heap.size, 0, none⟩) k k, .slice none 0 0] 33)).drew (w.heap.size + 1) 0 3 (roomP0 k w.heap.size) := by
  obtain ⟨o, ho⟩ : ∃ o, o = (Obj.cells #[.slice none 0 0, .slice (some ⟨w.heap.size, 0, none⟩) k k, .slice none 0 0] 33) := ⟨_, rfl⟩
  have h2 : Below (w.alloc (.cells ((zeros k).map (Value.int .i64)).toArray 3)).heap.size (w.alloc (.cells ((zeros k).map (Value.int .i64)).toArray 3)) ((w.alloc (.cells ((zeros k).map (Value.int .i64)).toArray 3)).alloc o).drew := (below_alloc _ o).drew
  intro j hj
  rcases (show j = 0 ∨ j = 1 ∨ j = 2 by omega) with rfl | rfl | rfl
  · refine ⟨?_, ints_nil _ _, fun _ => ⟨rfl, rfl⟩⟩
    rw [World.cell?_drew, World.cell?_alloc_at _ _ _ _ (by simp)]; rfl
  · refine ⟨?_, ?_, fun h => by simp [roomP0] at h⟩
    · rw [World.cell?_drew, World.cell?_alloc_at _ _ _ _ (by simp)]; rfl
    · rw [← ho]
      exact IntsAt.step (new_ints w (zeros k) k (zeros_len k) (by omega) (zeros_wf k) w.heap.size rfl) h2
  · refine ⟨?_, ints_nil _ _, fun _ => ⟨rfl, rfl⟩⟩
    rw [World.cell?_drew, World.cell?_alloc_at _ _ _ _ (by simp)]; rfl
theorem room_tot0 {k g : Nat} : tot (roomP0 k g) 3 = k := by simp [tot, roomP0]
theorem room_cat0 {k g : Nat} : cat (roomP0 k g) 3 = roomL [] 0 k := by simp [cat, roomP0, roomL]
set_option maxHeartbeats 2000000 in
theorem lin_room_nil (K : Int) (k : Nat) (w : World) (hv : validB [] K = true) (hk : k ≤ 12) :
    Calls Try.prog 46 #[.agg #[.slice none 0 0, .int .i64 K], .int .i64 0, .int .i64 k] w fun e w' => RetC w e w' (roomL [] 0 k) K 0 := by
  have hI : IntsAt w none 0 [] := ints_nil _ _
  have hsm := hI.small
  have hmk := make_ints k (by omega)
  have B1 := (LBox.new w none 0 0 K).alloc (.cells #[.slice none 0 0, .int .i64 0] 53)
  have B2 := LBox.new (w.alloc (.cells #[.slice none 0 0, .int .i64 K] 53)) none 0 0 0
  have hB := below_step (below_alloc w (.cells #[.slice none 0 0, .int .i64 K] 53)) (below_alloc _ (.cells #[.slice none 0 0, .int .i64 0] 53))
  have h1 := hI.step hB
  rw [World.size_alloc] at B2
  have hk1 : (k : Int) ≤ 12 := by omega
  clear hI
  go_enter Try.func46, Try.ntmps46
  go_wp2_with (go_at_call 68; refine (lin_valid _ _ _ _ [] _ h1).mono ?_; rintro e w1 ⟨rfl, hb⟩; replace h1 := h1.step hb; replace B1 := B1.step hb; replace B2 := B2.step hb; have c10 := B1.c0; have c11 := B1.c1; replace hB := below_step hB hb)
  have l2 := B2.lt
  have l0 : w.heap.size < w1.heap.size := by omega
  have n0 : w.heap.size + 1 ≠ w.heap.size := by omega
  have ct := ((concat_in (w1.heap.size + 1) 0 3 3 (roomP0 k w1.heap.size) _ (room_parts0 (by omega)) (by simp) (by omega) (by rw [room_tot0]; omega)).mono
    (R' := fun e w2 => ∃ A5 c5, e = .returned (.slice A5 k c5) ∧ IntsAt w2 A5 k (roomL [] 0 k) ∧ Below w1.heap.size w1 w2 ∧ (k = 0 ∨ ∃ g, A5 = some ⟨g, 0, none⟩ ∧ w1.heap.size ≤ g ∧ OwnRow w2 g k (roomL [] 0 k)) ∧ k ≤ c5 ∧ c5 ≤ 9223372036854775807) (by
      rintro e w2 ⟨v, rfl, hv2, hb2⟩
      rw [room_tot0, room_cat0] at hv2
      have hb3 : Below w1.heap.size w1 w2 := ((below_alloc w1 (.cells ((zeros k).map (Value.int .i64)).toArray 3)).alloc (by simp) _).drew.trans (hb2.mono (show w1.heap.size ≤ ((w1.alloc _).alloc _).heap.size by simp; omega))
      rcases hv2 with ⟨rfl, h0⟩ | ⟨g, cap, rfl, hg, hr, hcap⟩
      · subst h0
        exact ⟨none, 0, rfl, ints_nil _ _, hb3, .inl rfl, by omega, by omega⟩
      · refine ⟨some ⟨g, 0, none⟩, cap, rfl, hr.ints (by omega) (room_wf h1.wf), hb3, .inr ⟨g, rfl, ?_, hr⟩, hcap⟩
        have : ((w1.alloc _).alloc _).heap.size ≤ g := hg
        simp at this
        omega))
  have CT := Lib.hid ct
  clear ct
  go_region_held3 (fun W => W.cell? ⟨w.heap.size, 0, none⟩ = some (.slice none 0 0) ∧ W.cell? ⟨w.heap.size, 1, none⟩ = some (.int .i64 K)) (go_keep)
    (first | (go_at_call 60; refine CT.out.mono ?_; rintro e w2 ⟨A5, c5, rfl, I5, hb2', hf5, hcap⟩; have k0 := (hb2'.cell (p := ⟨w.heap.size, 0, none⟩) l0).trans c10; have k1 := (hb2'.cell (p := ⟨w.heap.size, 1, none⟩) l0).trans c11; have B4 := B2.step hb2'; have c40 := B4.c0; have c41 := B4.c1; have f40 := B4.f 0; have f41 := B4.f 1))
  have c50 := B4.s0 (.slice A5 k c5)
  have c51 := (B4.store A5 k c5 K).c1
  have hf6 : k = 0 ∨ ∃ g, A5 = some ⟨g, 0, none⟩ ∧ w.heap.size + 1 < g ∧ OwnRow w2 g k (roomL [] 0 k) := hf5.imp id (fun ⟨g, h, h', ho⟩ => ⟨g, h, by omega, ho⟩)
  have hEnd := below_step hB hb2'
  clear k0 k1 c10 c11 n0
  go_wp2
  refine bodyPost_ret (v := .tuple #[.agg #[.slice A5 k c5, .int .i64 K], .int .i64 0]) (by simp [results, Try.results46, go_sem, c50, c51]) rfl ?_
  exact ret_c hcap rfl rfl (ints_far I5 (hf6.imp id (fun ⟨g, h, h', _⟩ => ⟨g, h, by omega⟩)) _ _) (below_store2 hEnd (by omega) _ _) (hf6.imp id (fun ⟨g, h, h', ho⟩ => ⟨g, h, by omega, ho.store2 (by omega) _ _⟩))
end Go.Proofs.Ytkgnlloioaobiaa
namespace Go.Proofs.Ytkgnlloioaobiaa
open Go.RowKit
def roomPz (ad : Addr) (c k g : Nat) (j : Nat) : Part := if j = 1 then ⟨some ⟨g, 0, none⟩, k, k, zeros k⟩ else ⟨some ad, 0, c, []⟩
theorem room_partsz {w : World} {ad : Addr} {c k : Nat} (hk : k ≤ 12) :
    PartsAt ((w.alloc (.cells ((zeros k).map (Value.int .i64)).toArray 3)).alloc (.cells #[.slice (some ad) 0 c, .slice (some ⟨w.heap.size, 0, none⟩) k k, .slice (some ad) 0 c] 33)).drew (w.heap.size + 1) 0 3 (roomPz ad c k w.heap.size) := by
  obtain ⟨o, ho⟩ : ∃ o, o = (Obj.cells #[.slice (some ad) 0 c, .slice (some ⟨w.heap.size, 0, none⟩) k k, .slice (some ad) 0 c] 33) := ⟨_, rfl⟩
  have h2 : Below (w.alloc (.cells ((zeros k).map (Value.int .i64)).toArray 3)).heap.size (w.alloc (.cells ((zeros k).map (Value.int .i64)).toArray 3)) ((w.alloc (.cells ((zeros k).map (Value.int .i64)).toArray 3)).alloc o).drew := (below_alloc _ o).drew
  intro j hj
  rcases (show j = 0 ∨ j = 1 ∨ j = 2 by omega) with rfl | rfl | rfl
  · refine ⟨?_, ints_nil _ _, fun h => by simp [roomPz] at h⟩
    rw [World.cell?_drew, World.cell?_alloc_at _ _ _ _ (by simp)]; rfl
  · refine ⟨?_, ?_, fun h => by simp [roomPz] at h⟩
    · rw [World.cell?_drew, World.cell?_alloc_at _ _ _ _ (by simp)]; rfl
    · rw [← ho]
      exact IntsAt.step (new_ints w (zeros k) k (zeros_len k) (by omega) (zeros_wf k) w.heap.size rfl) h2
  · refine ⟨?_, ints_nil _ _, fun h => by simp [roomPz] at h⟩
    rw [World.cell?_drew, World.cell?_alloc_at _ _ _ _ (by simp)]; rfl
theorem room_totz {ad : Addr} {c k g : Nat} : tot (roomPz ad c k g) 3 = k := by simp [tot, roomPz]
theorem room_catz {ad : Addr} {c k g : Nat} : cat (roomPz ad c k g) 3 = roomL [] 0 k := by simp [cat, roomPz, roomL]
set_option maxHeartbeats 2000000 in
theorem lin_room_zero (b off : Nat) (sp : Option Nat) (c : Nat) (hc63 : c ≤ 9223372036854775807) (K : Int) (k : Nat) (w : World) (hv : validB [] K = true) (hk : k ≤ 12) :
    Calls Try.prog 46 #[.agg #[.slice (some ⟨b, off, sp⟩) 0 c, .int .i64 K], .int .i64 0, .int .i64 k] w fun e w' => RetC w e w' (roomL [] 0 k) K 0 := by
  have hI : IntsAt w (some ⟨b, off, sp⟩) 0 [] := ints_nil _ _
  have hsm := hI.small
  have hmk := make_ints k (by omega)
  have B1 := (LBox.new w (some ⟨b, off, sp⟩) 0 c K).alloc (.cells #[.slice none 0 0, .int .i64 0] 53)
  have B2 := LBox.new (w.alloc (.cells #[.slice (some ⟨b, off, sp⟩) 0 c, .int .i64 K] 53)) none 0 0 0
  have hB := below_step (below_alloc w (.cells #[.slice (some ⟨b, off, sp⟩) 0 c, .int .i64 K] 53)) (below_alloc _ (.cells #[.slice none 0 0, .int .i64 0] 53))
  have h1 := hI.step hB
  rw [World.size_alloc] at B2
  have hk1 : (k : Int) ≤ 12 := by omega
  clear hI
  go_enter Try.func46, Try.ntmps46
  go_wp2_with (go_at_call 68; refine (lin_valid _ _ _ _ [] _ h1).mono ?_; rintro e w1 ⟨rfl, hb⟩; replace h1 := h1.step hb; replace B1 := B1.step hb; replace B2 := B2.step hb; have c10 := B1.c0; have c11 := B1.c1; replace hB := below_step hB hb)
  have l2 := B2.lt
  have l0 : w.heap.size < w1.heap.size := by omega
  have n0 : w.heap.size + 1 ≠ w.heap.size := by omega
  have ct := ((concat_in (w1.heap.size + 1) 0 3 3 (roomPz ⟨b, off, sp⟩ c k w1.heap.size) _ (room_partsz (by omega)) (by simp) (by omega) (by rw [room_totz]; omega)).mono
    (R' := fun e w2 => ∃ A5 c5, e = .returned (.slice A5 k c5) ∧ IntsAt w2 A5 k (roomL [] 0 k) ∧ Below w1.heap.size w1 w2 ∧ (k = 0 ∨ ∃ g, A5 = some ⟨g, 0, none⟩ ∧ w1.heap.size ≤ g ∧ OwnRow w2 g k (roomL [] 0 k)) ∧ k ≤ c5 ∧ c5 ≤ 9223372036854775807) (by
      rintro e w2 ⟨v, rfl, hv2, hb2⟩
      rw [room_totz, room_catz] at hv2
      have hb3 : Below w1.heap.size w1 w2 := ((below_alloc w1 (.cells ((zeros k).map (Value.int .i64)).toArray 3)).alloc (by simp) _).drew.trans (hb2.mono (show w1.heap.size ≤ ((w1.alloc _).alloc _).heap.size by simp; omega))
      rcases hv2 with ⟨rfl, h0⟩ | ⟨g, cap, rfl, hg, hr, hcap⟩
      · subst h0
        exact ⟨none, 0, rfl, ints_nil _ _, hb3, .inl rfl, by omega, by omega⟩
      · refine ⟨some ⟨g, 0, none⟩, cap, rfl, hr.ints (by omega) (room_wf h1.wf), hb3, .inr ⟨g, rfl, ?_, hr⟩, hcap⟩
        have : ((w1.alloc _).alloc _).heap.size ≤ g := hg
        simp at this
        omega))
  have CT := Lib.hid ct
  clear ct
  go_region_held3 (fun W => W.cell? ⟨w.heap.size, 0, none⟩ = some (.slice (some ⟨b, off, sp⟩) 0 c) ∧ W.cell? ⟨w.heap.size, 1, none⟩ = some (.int .i64 K)) (go_keep)
    (first | (go_at_call 60; refine CT.out.mono ?_; rintro e w2 ⟨A5, c5, rfl, I5, hb2', hf5, hcap⟩; have k0 := (hb2'.cell (p := ⟨w.heap.size, 0, none⟩) l0).trans c10; have k1 := (hb2'.cell (p := ⟨w.heap.size, 1, none⟩) l0).trans c11; have B4 := B2.step hb2'; have c40 := B4.c0; have c41 := B4.c1; have f40 := B4.f 0; have f41 := B4.f 1))
  have c50 := B4.s0 (.slice A5 k c5)
  have c51 := (B4.store A5 k c5 K).c1
  have hf6 : k = 0 ∨ ∃ g, A5 = some ⟨g, 0, none⟩ ∧ w.heap.size + 1 < g ∧ OwnRow w2 g k (roomL [] 0 k) := hf5.imp id (fun ⟨g, h, h', ho⟩ => ⟨g, h, by omega, ho⟩)
  have hEnd := below_step hB hb2'
  clear k0 k1 c10 c11 n0
  go_wp2
  refine bodyPost_ret (v := .tuple #[.agg #[.slice A5 k c5, .int .i64 K], .int .i64 0]) (by simp [results, Try.results46, go_sem, c50, c51]) rfl ?_
  exact ret_c hcap rfl rfl (ints_far I5 (hf6.imp id (fun ⟨g, h, h', _⟩ => ⟨g, h, by omega⟩)) _ _) (below_store2 hEnd (by omega) _ _) (hf6.imp id (fun ⟨g, h, h', ho⟩ => ⟨g, h, by omega, ho.store2 (by omega) _ _⟩))
end Go.Proofs.Ytkgnlloioaobiaa
