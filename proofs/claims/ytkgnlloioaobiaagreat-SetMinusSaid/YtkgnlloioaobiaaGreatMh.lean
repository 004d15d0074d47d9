/-
  Part 8 of the texts that the laws stand on, merged: what each part says stands at its own head.
-/
import Derived.Deep.AppendLies
import Derived.Deep.RegionHeld3
import Derived.Deep.Cut
import Derived.Test.YtkgnlloioaobiaaGreatMg
set_option linter.unusedVariables false
set_option linter.unusedSimpArgs false
set_option maxRecDepth 100000
set_option linter.unusedSectionVars false
namespace Go.Proofs.YtkgnlloioaobiaaGreat
open Go.RowKit
structure PL (n N : Nat) (w : World) (u : Value) (ps : List PEl) : Prop where
  own : w.ownsRow N 34 1 u ps.length (ps.map PEl.v)
  few : ps.length ≤ 4000000000
  ok : ∀ p ∈ ps, PieceOk n w p
section
variable {n N : Nat} {w w' : World} {u : Value} {ps : List PEl}
theorem PL.nil (n N : Nat) (w : World) : PL n N w (.slice none 0 0) [] := ⟨World.ownsRow_nil _ _ _ _, by simp, (fun p h => nomatch h)⟩
theorem PL.step (h : PL n N w u ps) (hb : Below w.heap.size w w') : PL n N w' u ps := ⟨own_step h.own hb, h.few, fun p hp => (h.ok p hp).keep (.of_below hb)⟩
theorem PL.slice (h : PL n N w u ps) : ∃ A c, u = .slice A ps.length c := by
  rcases h.own.2 with ⟨rfl, h0⟩ | ⟨g, cap, cur, rfl, _⟩
  · rw [h0]; exact ⟨none, 0, rfl⟩
  · exact ⟨_, _, rfl⟩
theorem PL.pieces (h : PL n N w u ps) : ∃ A c, u = .slice A ps.length c ∧ PiecesAt w A ps.length ps ∧ (0 < ps.length → ∃ g o, A = some ⟨g, o, none⟩ ∧ N ≤ g) := by
  have hc : ∀ p ∈ ps, CondsAt w p.A p.n p.els := fun p hp => (h.ok p hp).1.conds
  have hf := h.few
  rcases h.own.2 with ⟨rfl, h0⟩ | ⟨g, cap, cur, rfl, hg, hcc, rest⟩
  · rw [h0]
    exact ⟨none, 0, rfl, ⟨by rw [h0], by omega, fun h' => absurd h' (by omega), hc⟩, fun h' => absurd h' (by omega)⟩
  · refine ⟨_, _, rfl, ⟨rfl, by omega, fun h' => ⟨g, 0, rfl, (Array.getElem?_eq_some_iff.1 hcc).1, fun j p hp => ?_⟩, hc⟩, fun _ => ⟨g, 0, rfl, hg⟩⟩
    have hj : j < ps.length := (List.getElem?_eq_some_iff.1 hp).1
    rw [Nat.zero_add, cell_of_row w g j _ _ (0, 0) hcc]
    have h5 := congrArg (·[j]?) rest.2.2.2
    simp only [List.getElem?_take, List.getElem?_map, hp, Option.map_some] at h5
    rw [if_pos (by omega)] at h5
    simpa [PEl.v] using h5
theorem PL.at (h : PL n N w u ps) {A : Option Addr} {m c : Nat} (hu : u = .slice A m c) : m = ps.length ∧ PiecesAt w A ps.length ps := by
  obtain ⟨A', c', e, hP, _⟩ := h.pieces
  rw [hu] at e
  cases e
  exact ⟨rfl, hP⟩
theorem PL.typed (h : PL n N w u ps) : ∀ r, u.ownBlock = some r → N ≤ r ∧ ∃ cur, w.heap[r]? = some (.cells cur 34 (0, 0)) := fun r e => by
  rcases h.own.2 with ⟨hv, _⟩ | ⟨g, cap, cur, hv, hgN, hc, _⟩
  · rw [hv] at e; cases e
  · rw [hv] at e; cases e; exact ⟨hgN, cur, hc⟩
theorem keepU_grown {row : Option Nat} (hg : w.grownBy w' row) (hr : ∀ r, row = some r → ∃ cur, w.heap[r]? = some (.cells cur 34 (0, 0))) : KeepU w w' :=
  ⟨hg.size, fun k cs t fz e ht => (hg.block k (Array.getElem?_eq_some_iff.1 e).1 fun e' => by
    obtain ⟨cur, hc⟩ := hr k e'.symm
    rw [e] at hc
    simp only [Option.some.injEq, Obj.cells.injEq] at hc
    rcases ht with rfl | rfl | rfl
    · exact absurd hc.2.1 (by decide)
    · exact absurd hc.2.1 (by decide)
    · exact absurd hc.2.1 (by decide)).trans e⟩
end
section
variable {ops : Array Oper} {o : Oper} {a : Act} {w : World} {Q : Exit → Act → World → Prop}
theorem wpList_append_piece {rest : List Oper} (hgd : o.guard = none) (s x : Operand) (t : TypeId) (ho : o.op = .call { callee := .builtin .append, args := #[s, x], argTypes := #[t, t] }) (ht : Tryz.prog.underlying t = some (.slice 34))
    {n N : Nat} {u : Value} {ps : List PEl} (hs : a.eval s = u) (hL : PL n N w u ps) (g : Nat) (p : PEl) (hx : a.eval x = .slice (some ⟨g, 0, none⟩) 1 1) (hg : w.heap[g]? = some (.cells #[p.v] 34 (0, 0))) (hp : PieceOk n w p) (hm : ps.length + 1 ≤ 4000000000) (hN : N ≤ w.heap.size)
    (h : ∀ A' cap w', PL n N w' (.slice A' (ps.length + 1) cap) (ps ++ [p]) → KeepU w w' → Below N w w' → wpList Tryz.prog ops Q rest (a.put o.dst (.slice A' (ps.length + 1) cap)) w') : wpList Tryz.prog ops Q (o :: rest) a w := by
  obtain ⟨i0, hi0, hz0, hz1, hz2⟩ := info_parts infoPc
  refine wpList_append_own _ hgd s x t ho N 34 i0 (.slice none 0 0) 1 24 ht hi0 hz0 hz1 hz2 rfl (by decide) u ps.length (ps.map PEl.v) hs hL.own ⟨g, 0, none⟩ 1 1 [p.v] hx rfl (one_cell hg) (fun v hv => by rw [List.mem_singleton.1 hv]; rfl) (by unfold maxLen; omega) (by omega) hN ?_
  intro v' w' hown hgr _
  obtain ⟨A', c', rfl⟩ := own_slice hown
  have hk := keepU_grown hgr fun r e => (hL.typed r e).2
  refine h A' c' w' ⟨by rw [List.length_append, List.map_append]; exact hown, by rw [List.length_append]; exact hm, fun q hq => ?_⟩ hk ((Below.refl N w).grown hgr hN fun k e => (hL.typed k e).1)
  rcases List.mem_append.1 hq with hq | hq
  · exact (hL.ok q hq).keep hk
  · rw [List.mem_singleton.1 hq]; exact hp.keep hk
theorem append_piece {n N : Nat} {u : Value} {ps : List PEl} (h : PL n N w u ps) (g : Nat) (p : PEl) (hg : w.heap[g]? = some (.cells #[p.v] 34 (0, 0))) (hp : PieceOk n w p) (hm : ps.length + 1 ≤ 4000000000) (hN : N ≤ w.heap.size) (ty : TypeId) (t : TypeId) (ht : Tryz.prog.underlying t = some (.slice 34)) :
    ∃ A' cap w', (Builtin.append_ #[t, t] ty #[u, .slice (some ⟨g, 0, none⟩) 1 1]).run Tryz.prog w = .ok (.slice A' (ps.length + 1) cap) w' ∧ PL n N w' (.slice A' (ps.length + 1) cap) (ps ++ [p]) ∧ KeepU w w' ∧ Below N w w' := by
  obtain ⟨i0, hi0, hz0, hz1, hz2⟩ := info_parts infoPc
  obtain ⟨g', cap, w', hr, hown, hgr, _, _⟩ := run_append_lies (P := Tryz.prog) w t ty N 34 i0 (.slice none 0 0) 1 24 ht hi0 hz0 hz1 hz2 rfl (by decide) u ps.length (ps.map PEl.v) h.own ⟨g, 0, none⟩ 1 1 [p.v] rfl (one_cell hg) (fun v hv => by rw [List.mem_singleton.1 hv]; rfl) (by omega) (by unfold maxLen; omega) (by omega) hN _ rfl
  have hk := keepU_grown hgr fun r e => (h.typed r e).2
  refine ⟨_, cap, w', hr, ⟨by rw [List.length_append, List.map_append]; exact hown, by rw [List.length_append]; exact hm, fun q hq => ?_⟩, hk, (Below.refl N w).grown hgr hN fun k e => (h.typed k e).1⟩
  rcases List.mem_append.1 hq with hq | hq
  · exact (h.ok q hq).keep hk
  · rw [List.mem_singleton.1 hq]; exact hp.keep hk
theorem step_append_piece {K : Act → World → Prop} {E : Prop} (hgd : o.guard = none) (s x : Operand) (t : TypeId) (ho : o.op = .call { callee := .builtin .append, args := #[s, x], argTypes := #[t, t] }) (ht : Tryz.prog.underlying t = some (.slice 34))
    {n N : Nat} {u : Value} {ps : List PEl} (hs : a.eval s = u) (hL : PL n N w u ps) (g : Nat) (p : PEl) (hx : a.eval x = .slice (some ⟨g, 0, none⟩) 1 1) (hg : w.heap[g]? = some (.cells #[p.v] 34 (0, 0))) (hp : PieceOk n w p) (hm : ps.length + 1 ≤ 4000000000) (hN : N ≤ w.heap.size)
    (h : ∀ A' cap w', PL n N w' (.slice A' (ps.length + 1) cap) (ps ++ [p]) → KeepU w w' → Below N w w' → K (a.put o.dst (.slice A' (ps.length + 1) cap)) w') : if Region.wanted o (yielded ops a.tmps) = true then Oper.wp Tryz.prog o a w K Q else E := by
  have hw : Region.wanted o (yielded ops a.tmps) = true := by simp [Region.wanted, hgd]
  rw [if_pos hw]
  obtain ⟨A', cap, w', h1, h2, h3, h4⟩ := append_piece hL g p hg hp hm hN o.type t ht
  unfold Oper.wp
  rw [exec_append ho hs hx h1, Oper.upon_value]
  exact h A' cap w' h2 h3 h4
end
end Go.Proofs.YtkgnlloioaobiaaGreat
namespace Go.Proofs.YtkgnlloioaobiaaGreat
open Go.RowKit
theorem byte_inj {a b : Int} (ha : 0 ≤ a ∧ a ≤ 255) (hb : 0 ≤ b ∧ b ≤ 255) (h : UInt8.ofNat a.toNat = UInt8.ofNat b.toNat) : a = b := by
  have := congrArg UInt8.toNat h
  simp only [UInt8.toNat_ofNat'] at this
  omega
theorem map_byte : ∀ l l' : List Int, (∀ x ∈ l, 0 ≤ x ∧ x ≤ 255) → (∀ x ∈ l', 0 ≤ x ∧ x ≤ 255) → l.map (fun x => UInt8.ofNat x.toNat) = l'.map (fun x => UInt8.ofNat x.toNat) → l = l'
  | [], [], _, _, _ => rfl
  | [], _ :: _, _, _, h => by simp at h
  | _ :: _, [], _, _, h => by simp at h
  | a :: l, b :: l', h1, h2, h => by
    simp only [List.map_cons, List.cons.injEq] at h
    rw [byte_inj (h1 a (List.mem_cons_self ..)) (h2 b (List.mem_cons_self ..)) h.1, map_byte l l' (fun x hx => h1 x (List.mem_cons_of_mem _ hx)) (fun x hx => h2 x (List.mem_cons_of_mem _ hx)) h.2]
theorem key_bytes {l : List CD} (hq : ∀ d ∈ l, d.q = 0 ∨ d.q = 1 ∨ d.q = 2) : ∀ x ∈ keyB l, 0 ≤ x ∧ x ≤ 255 := fun x hx => by
  unfold keyB at hx
  obtain ⟨d, hd, hx⟩ := List.mem_flatMap.1 hx
  unfold keyC at hx
  rcases List.mem_cons.1 hx with rfl | hx
  · rcases hq d hd with h | h | h <;> omega
  · rcases List.mem_append.1 hx with hx | hx
    · exact num_byte _ x hx
    · rcases List.mem_append.1 hx with hx | hx
      · unfold numsB at hx
        obtain ⟨y, _, hx⟩ := List.mem_flatMap.1 hx
        exact num_byte _ x hx
      · exact num_byte _ x hx
theorem valid_q {n : Nat} {d : CD} (h : ValidD n d) : d.q = 0 ∨ d.q = 1 ∨ d.q = 2 := by
  rcases (validC_kind h.1).2 with h | h | h
  · exact .inl h.1
  · exact .inr (.inl h.1)
  · exact .inr (.inr h.1)
theorem keyU_inj {n : Nat} {l l' : List CD} (h : ∀ d ∈ l, ValidD n d) (h' : ∀ d ∈ l', ValidD n d) (e : keyU l = keyU l') : l = l' :=
  key_inj2 l l' (fun d hd => (h d hd).2) (fun d hd => (h' d hd).2) (map_byte _ _ (key_bytes fun d hd => valid_q (h d hd)) (key_bytes fun d hd => valid_q (h' d hd)) e)
def SetH (n : Nat) (x : List Int) (us : List (List CD)) : Prop := ∃ u ∈ us, HoldsL n x u
theorem setH_app {n : Nat} {x : List Int} {us : List (List CD)} {d : List CD} : SetH n x (us ++ [d]) ↔ SetH n x us ∨ HoldsL n x d := by
  unfold SetH
  constructor
  · rintro ⟨u, hu, h⟩
    rcases List.mem_append.1 hu with hu | hu
    · exact .inl ⟨u, hu, h⟩
    · rw [List.mem_singleton.1 hu] at h; exact .inr h
  · rintro (⟨u, hu, h⟩ | h)
    · exact ⟨u, List.mem_append_left _ hu, h⟩
    · exact ⟨d, List.mem_append_right _ (List.mem_singleton_self _), h⟩
section
variable {n : Nat} {x : List Int}
theorem keep_points {us us' : List (List CD)} {d : List CD} (hu : GoodU n us) (hd : ∀ z ∈ d, ValidD n z) (h : keepD us d = (0, us')) : SetH n x us' ↔ SetH n x us ∨ HoldsL n x d := by
  unfold keepD at h
  split at h
  · rename_i hq
    obtain ⟨q, hq, e⟩ := hq
    cases h
    have := keyU_inj (hu.1 q hq).1 hd e
    subst this
    exact ⟨.inl, fun h => h.elim id fun h => ⟨q, hq, h⟩⟩
  · split at h
    · cases h
    · cases h
      exact setH_app
theorem add_points {us us' : List (List CD)} {ds : List CD} (hu : GoodU n us) (hd : ∀ z ∈ ds, ValidD n z) (h : addD n us ds = (0, us')) : SetH n x us' ↔ SetH n x us ∨ HoldsL n x ds := by
  unfold addD at h
  split at h
  · rename_i hb
    simp only [Prod.mk.injEq] at h
    obtain ⟨h0, rfl⟩ := h
    have hv : (pieceD n ds).2.1 = true := hb.resolve_left fun h => h h0
    exact ⟨.inl, fun h => h.elim id fun h => absurd h (piece_void hd hv)⟩
  · rename_i hb
    have h0 : (pieceD n ds).2.2 = 0 := by
      by_cases h9 : (pieceD n ds).2.2 = 0
      · exact h9
      · exact absurd (.inl h9) hb
    have hv : (pieceD n ds).2.1 = false := by
      cases h9 : (pieceD n ds).2.1
      · rfl
      · exact absurd (.inr h9) hb
    rw [keep_points hu (piece_valid (valid_kind hd)).1 h, ← piece_points hd h0 hv]
theorem stick_zero {α : Type} (f : List (List CD) → α → Int × List (List CD)) (us : List (List CD)) (a : α) : stick f (0, us) a = f us a := if_neg (show ¬ ((0 : Int) ≠ 0) by decide)
theorem fold_cons {α : Type} {f : List (List CD) → α → Int × List (List CD)} {a : α} {l : List α} {us us' : List (List CD)} (h : foldE f (a :: l) us = (0, us')) : ∃ u1, f us a = (0, u1) ∧ foldE f l u1 = (0, us') := by
  unfold foldE at h
  rw [List.foldl_cons, stick_zero] at h
  obtain ⟨g, hf⟩ : ∃ g, f us a = g := ⟨_, rfl⟩
  obtain ⟨e, u1⟩ := g
  rw [hf] at h
  by_cases h0 : e = 0
  · subst h0
    exact ⟨u1, hf, h⟩
  · rw [stick_stuck (f := f) (show ((e, u1) : Int × List (List CD)).1 ≠ 0 from h0)] at h
    simp only [Prod.mk.injEq] at h
    exact absurd h.1 h0
theorem fold_points {α : Type} {f : List (List CD) → α → Int × List (List CD)} {Q : α → Prop} : ∀ (l : List α), (∀ a ∈ l, ∀ us us', GoodU n us → f us a = (0, us') → GoodU n us' ∧ (SetH n x us' ↔ SetH n x us ∨ Q a)) → ∀ us us', GoodU n us → foldE f l us = (0, us') → GoodU n us' ∧ (SetH n x us' ↔ SetH n x us ∨ ∃ a ∈ l, Q a)
  | [], _, us, us', hu, h => by
    cases h
    exact ⟨hu, by simp⟩
  | a :: l, hf, us, us', hu, h => by
    obtain ⟨u1, h1, h2⟩ := fold_cons h
    obtain ⟨g1, p1⟩ := hf a (List.mem_cons_self ..) us u1 hu h1
    obtain ⟨g2, p2⟩ := fold_points l (fun b hb => hf b (List.mem_cons_of_mem _ hb)) u1 us' g1 h2
    refine ⟨g2, ?_⟩
    rw [p2, p1, or_assoc]
    simp
theorem neg_points {d : CD} (hv : ValidD n d) (h0 : negE d.q d.M n d.xs d.K = 0) : (∃ z ∈ negL d.q d.M n d.xs d.K, holdD n x z = true) ↔ ¬ holdD n x d = true := by
  unfold negE at h0
  rw [if_pos hv.1] at h0
  have hf : ¬ negFull n (oppL d.q d.M n d.xs d.K) = true := fun hf => by
    rw [if_pos hf] at h0
    cases h0
  unfold negL
  rw [if_pos hv.1, if_neg hf]
  have hok := (opp_ok (q := d.q) (M := d.M) (n := n) (xs := d.xs) (K := d.K) hv.1).1
  have h1 := out_count (ps := x) (oppL d.q d.M n d.xs d.K) hok
  have h2 := opp_count (n := n) (xs := d.xs) (K := d.K) (validC_kind hv.1).2 x
  rw [← List.countP_pos_iff, h1]
  show _ ↔ ¬ holdB d.q d.M (d.K + dotSum d.xs x n) = true
  by_cases hh : holdB d.q d.M (d.K + dotSum d.xs x n) = true
  · rw [if_pos hh] at h2
    exact ⟨fun h => by omega, fun h => absurd hh h⟩
  · rw [if_neg hh] at h2
    exact ⟨fun _ => hh, fun _ => by omega⟩
theorem valid_app {l l' : List CD} (h : ∀ d ∈ l, ValidD n d) (h' : ∀ d ∈ l', ValidD n d) : ∀ d ∈ l ++ l', ValidD n d := fun d hd => by
  rcases List.mem_append.1 hd with hd | hd
  · exact h d hd
  · exact h' d hd
theorem cut_points (hn : n ≤ 12) {p c : List CD} (hp : ∀ d ∈ p, ValidD n d) (hc : ∀ d ∈ c, ValidD n d) {i : Nat} {d : CD} (hi : c[i]? = some d) {us us' : List (List CD)} (hu : GoodU n us) (h : cutOne n p c us i = (0, us')) :
    GoodU n us' ∧ (SetH n x us' ↔ SetH n x us ∨ (HoldsL n x p ∧ HoldsL n x (c.take i) ∧ ¬ holdD n x d = true)) := by
  unfold cutOne at h
  rw [hi] at h
  simp only at h
  have hv := hc d (List.mem_of_getElem? hi)
  split at h
  · rename_i h0
    simp only [Prod.mk.injEq] at h
    exact absurd h.1 h0
  · rename_i h0
    have h0 : negE d.q d.M n d.xs d.K = 0 := by
      by_cases h9 : negE d.q d.M n d.xs d.K = 0
      · exact h9
      · exact absurd h9 h0
    have hz : ∀ z ∈ negL d.q d.M n d.xs d.K, ∀ y ∈ p ++ (c.take i ++ [z]), ValidD n y := fun z hz => valid_app hp (valid_app (fun y hy => hc y (List.mem_of_mem_take hy)) fun y hy => by
      rw [List.mem_singleton.1 hy]; exact neg_valid hn hv.1 hv.2 z hz)
    obtain ⟨g, e⟩ := fold_points (n := n) (x := x) (f := fun us z => addD n us (p ++ (c.take i ++ [z]))) (Q := fun z => HoldsL n x (p ++ (c.take i ++ [z]))) (negL d.q d.M n d.xs d.K) (fun z hzm us us' hu h => ⟨by
      have := add_good (ds := p ++ (c.take i ++ [z])) hu (valid_kind (hz z hzm))
      rw [show addD n us (p ++ (c.take i ++ [z])) = (0, us') from h] at this
      exact this, add_points hu (hz z hzm) h⟩) us us' hu h
    refine ⟨g, ?_⟩
    rw [e, ← neg_points (x := x) hv h0]
    refine or_congr_right ⟨?_, ?_⟩
    · rintro ⟨z, hzm, hh⟩
      rw [holds_app, holds_app] at hh
      exact ⟨hh.1, hh.2.1, z, hzm, hh.2.2 z (List.mem_singleton_self _)⟩
    · rintro ⟨h1, h2, z, hzm, hh⟩
      refine ⟨z, hzm, ?_⟩
      rw [holds_app, holds_app]
      exact ⟨h1, h2, fun y hy => by rw [List.mem_singleton.1 hy]; exact hh⟩
theorem first_fail : ∀ c : List CD, ¬ HoldsL n x c → ∃ (i : Nat) (d : CD), c[i]? = some d ∧ HoldsL n x (c.take i) ∧ ¬ holdD n x d = true
  | [], h => absurd (fun d hd => nomatch hd) h
  | a :: c, h => by
    by_cases ha : holdD n x a = true
    · obtain ⟨i, d, h1, h2, h3⟩ := first_fail c fun hc => h fun d hd => by
        rcases List.mem_cons.1 hd with rfl | hd
        · exact ha
        · exact hc d hd
      refine ⟨i + 1, d, by simpa using h1, ?_, h3⟩
      rw [List.take_succ_cons]
      intro d hd
      rcases List.mem_cons.1 hd with rfl | hd
      · exact ha
      · exact h2 d hd
    · exact ⟨0, a, rfl, (fun d hd => by simp at hd), ha⟩
theorem with_points (hn : n ≤ 12) {p c : List CD} (hp : (∀ d ∈ p, ValidD n d) ∧ p.length ≤ 96) (hc : ∀ d ∈ c, ValidD n d) {us us' : List (List CD)} (hu : GoodU n us) (h : withOne n c us p = (0, us')) :
    GoodU n us' ∧ (SetH n x us' ↔ SetH n x us ∨ (HoldsL n x p ∧ ¬ HoldsL n x c)) := by
  unfold withOne at h
  split at h
  · rename_i h0
    simp only [Prod.mk.injEq] at h
    exact absurd h.1 h0
  · split at h
    · rename_i hv
      have h1 := piece_void (x := x) (valid_app hp.1 hc) hv
      rw [holds_app] at h1
      refine ⟨by have := keep_good hu hp; rw [h] at this; exact this, ?_⟩
      rw [keep_points hu hp.1 h]
      exact or_congr_right ⟨fun a => ⟨a, fun b => h1 ⟨a, b⟩⟩, fun a => a.1⟩
    · obtain ⟨g, e⟩ := fold_points (n := n) (x := x) (f := cutOne n p c) (Q := fun i => ∃ d, c[i]? = some d ∧ HoldsL n x p ∧ HoldsL n x (c.take i) ∧ ¬ holdD n x d = true) (List.range c.length) (fun i hi us us' hu h => by
        obtain ⟨d, hd⟩ : ∃ d, c[i]? = some d := ⟨_, List.getElem?_eq_getElem (List.mem_range.1 hi)⟩
        obtain ⟨g, e⟩ := cut_points (x := x) hn hp.1 hc hd hu h
        refine ⟨g, e.trans (or_congr_right ⟨fun a => ⟨d, hd, a⟩, ?_⟩)⟩
        rintro ⟨d', hd', a⟩
        rw [hd] at hd'
        cases hd'
        exact a) us us' hu h
      refine ⟨g, e.trans (or_congr_right ⟨?_, ?_⟩)⟩
      · rintro ⟨i, _, d, hd, h1, _, h3⟩
        exact ⟨h1, fun hh => h3 (hh d (List.mem_of_getElem? hd))⟩
      · rintro ⟨h1, h2⟩
        obtain ⟨i, d, hd, h3, h4⟩ := first_fail c h2
        exact ⟨i, List.mem_range.2 (List.getElem?_eq_some_iff.1 hd).1, d, hd, h1, h3, h4⟩
theorem good_nil : GoodU n [] := ⟨(fun u h => nomatch h), by simp⟩
theorem without_points (hn : n ≤ 12) {ps : List (List CD)} {c : List CD} (hp : GoodU n ps) (hc : ∀ d ∈ c, ValidD n d) {us' : List (List CD)} (h : withoutD n ps c = (0, us')) : GoodU n us' ∧ (SetH n x us' ↔ SetH n x ps ∧ ¬ HoldsL n x c) := by
  obtain ⟨g, e⟩ := fold_points (n := n) (x := x) (f := withOne n c) (Q := fun p => HoldsL n x p ∧ ¬ HoldsL n x c) ps (fun p hpm us us' hu h => with_points hn (hp.1 p hpm) hc hu h) [] us' good_nil h
  refine ⟨g, e.trans ⟨?_, ?_⟩⟩
  · rintro (⟨u, hu, _⟩ | ⟨p, hpm, h1, h2⟩)
    · cases hu
    · exact ⟨⟨p, hpm, h1⟩, h2⟩
  · rintro ⟨⟨p, hpm, h1⟩, h2⟩
    exact .inr ⟨p, hpm, h1, h2⟩
theorem minus_fold (hn : n ≤ 12) : ∀ (qs : List (List CD)), (∀ q ∈ qs, ∀ d ∈ q, ValidD n d) → ∀ ps us', GoodU n ps → foldE (withoutD n) qs ps = (0, us') → GoodU n us' ∧ (SetH n x us' ↔ SetH n x ps ∧ ¬ SetH n x qs)
  | [], _, ps, us', hp, h => by
    cases h
    exact ⟨hp, by simp [SetH]⟩
  | q :: qs, hq, ps, us', hp, h => by
    obtain ⟨u1, h1, h2⟩ := fold_cons h
    obtain ⟨g1, e1⟩ := without_points (x := x) hn hp (hq q (List.mem_cons_self ..)) h1
    obtain ⟨g2, e2⟩ := minus_fold hn qs (fun q hqm => hq q (List.mem_cons_of_mem _ hqm)) u1 us' g1 h2
    refine ⟨g2, ?_⟩
    rw [e2, e1, and_assoc]
    refine and_congr_right fun _ => ⟨?_, ?_⟩
    · rintro ⟨a, b⟩ ⟨u, hu, hh⟩
      rcases List.mem_cons.1 hu with rfl | hu
      · exact a hh
      · exact b ⟨u, hu, hh⟩
    · intro a
      exact ⟨fun hh => a ⟨q, List.mem_cons_self .., hh⟩, fun ⟨u, hu, hh⟩ => a ⟨u, List.mem_cons_of_mem _ hu, hh⟩⟩
theorem gather_points {l us' : List (List CD)} (hl : ∀ ds ∈ l, ∀ d ∈ ds, ValidD n d) (h : gatherD n l = (0, us')) : GoodU n us' ∧ (SetH n x us' ↔ SetH n x l) := by
  rw [gather_fold] at h
  obtain ⟨g, e⟩ := fold_points (n := n) (x := x) (f := addD n) (Q := fun ds => HoldsL n x ds) l (fun ds hds us us' hu h => ⟨by
    have := add_good hu (valid_kind (hl ds hds))
    rw [h] at this
    exact this, add_points hu (hl ds hds) h⟩) [] us' good_nil h
  refine ⟨g, e.trans ⟨?_, fun h => .inr h⟩⟩
  rintro (⟨u, hu, _⟩ | h)
  · cases hu
  · exact h
theorem minus_points (hn : n ≤ 12) {ps qs r : List (List CD)} (hp : ∀ ds ∈ ps, ∀ d ∈ ds, ValidD n d) (hq : ∀ ds ∈ qs, ∀ d ∈ ds, ValidD n d) (h : minusD n ps qs = (0, r)) : GoodU n r ∧ (SetH n x r ↔ SetH n x ps ∧ ¬ SetH n x qs) := by
  obtain ⟨g1, h1⟩ : ∃ g, gatherD n ps = g := ⟨_, rfl⟩
  obtain ⟨g2, h2⟩ : ∃ g, gatherD n qs = g := ⟨_, rfl⟩
  obtain ⟨e1, l1⟩ := g1
  obtain ⟨e2, l2⟩ := g2
  unfold minusD at h
  rw [h1, h2] at h
  split at h
  · rename_i h0
    simp only [Prod.mk.injEq] at h
    exact absurd h.1 h0
  · rename_i h0
    split at h
    · rename_i h9
      simp only [Prod.mk.injEq] at h
      exact absurd h.1 h9
    · rename_i h9
      obtain rfl : e1 = 0 := by
        by_cases h8 : e1 = 0
        · exact h8
        · exact absurd h8 h0
      obtain rfl : e2 = 0 := by
        by_cases h8 : e2 = 0
        · exact h8
        · exact absurd h8 h9
      obtain ⟨ga, ea⟩ := gather_points (x := x) hp h1
      obtain ⟨gb, eb⟩ := gather_points (x := x) hq h2
      obtain ⟨g, e⟩ := minus_fold (x := x) hn l2 (fun q hqm => (gb.1 q hqm).1) l1 r ga h
      exact ⟨g, by rw [e, ea, eb]⟩
end
end Go.Proofs.YtkgnlloioaobiaaGreat
namespace Go.Proofs.YtkgnlloioaobiaaGreat
open Go.RowKit
open Classical in
noncomputable def pcsS (n : Nat) (r : Int × List (List CD)) (ds : List CD) : Int × List (List CD) :=
  if r.1 ≠ 0 then r else if (pieceD n ds).2.2 ≠ 0 then ((pieceD n ds).2.2, []) else if (pieceD n ds).2.1 = true ∨ (pieceD n ds).1 ∈ r.2 then r else (0, r.2 ++ [(pieceD n ds).1])
noncomputable def pcsD (n : Nat) (l : List (List CD)) : Int × List (List CD) := l.foldl (pcsS n) (0, [])
theorem pcs_stuck {n : Nat} {r : Int × List (List CD)} (h : r.1 ≠ 0) : ∀ l : List (List CD), l.foldl (pcsS n) r = r
  | [] => rfl
  | d :: l => by
    rw [List.foldl_cons, show pcsS n r d = r from if_pos h]
    exact pcs_stuck h l
section
variable {n : Nat} {l : List (List CD)} {ds : List CD} {us : List (List CD)} {i : Nat}
theorem pcs_snoc (h : l[i]? = some ds) : pcsD n (l.take (i + 1)) = pcsS n (pcsD n (l.take i)) ds := by
  obtain ⟨hi, rfl⟩ := List.getElem?_eq_some_iff.1 h
  unfold pcsD
  rw [List.take_succ_eq_append_getElem hi, List.foldl_append]
  rfl
theorem pcs_one (he : (pieceD n ds).2.2 = 0) (hv : (pieceD n ds).2.1 = true ∨ (pieceD n ds).1 ∈ us) : pcsS n (0, us) ds = (0, us) := by
  unfold pcsS
  rw [if_neg (by simp), if_neg (by simpa using he), if_pos hv]
theorem pcs_two (he : (pieceD n ds).2.2 = 0) (hv : (pieceD n ds).2.1 = false) (hk : (pieceD n ds).1 ∉ us) : pcsS n (0, us) ds = (0, us ++ [(pieceD n ds).1]) := by
  unfold pcsS
  rw [if_neg (by simp), if_neg (by simpa using he), if_neg (by rw [hv]; simp [hk])]
theorem pcs_bad (h : l[i]? = some ds) (hp : pcsD n (l.take i) = (0, us)) (he : (pieceD n ds).2.2 ≠ 0) : pcsD n l = ((pieceD n ds).2.2, []) := by
  have h1 := pcs_snoc (n := n) h
  rw [hp] at h1
  unfold pcsS at h1
  rw [if_neg (by simp), if_pos he] at h1
  unfold pcsD at h1 ⊢
  rw [← List.take_append_drop (i + 1) l, List.foldl_append, h1]
  exact pcs_stuck he _
theorem pcs_same (h : l[i]? = some ds) (hp : pcsD n (l.take i) = (0, us)) (he : (pieceD n ds).2.2 = 0) (hv : (pieceD n ds).2.1 = true ∨ (pieceD n ds).1 ∈ us) : pcsD n (l.take (i + 1)) = (0, us) := by
  rw [pcs_snoc h, hp]
  exact pcs_one he hv
theorem pcs_new (h : l[i]? = some ds) (hp : pcsD n (l.take i) = (0, us)) (he : (pieceD n ds).2.2 = 0) (hv : (pieceD n ds).2.1 = false) (hk : (pieceD n ds).1 ∉ us) : pcsD n (l.take (i + 1)) = (0, us ++ [(pieceD n ds).1]) := by
  rw [pcs_snoc h, hp]
  exact pcs_two he hv hk
end
theorem piece_errs (n : Nat) (ds : List CD) : (pieceD n ds).2.2 = 0 ∨ (pieceD n ds).2.2 = 3 := by
  unfold pieceD
  split
  · exact .inl rfl
  · split
    · exact .inl rfl
    · split
      · exact .inr rfl
      · exact .inl rfl
theorem snoc_ind {α : Type} {P : List α → Prop} (h0 : P []) (h1 : ∀ l a, P l → P (l ++ [a])) : ∀ l, P l := by
  have key : ∀ l : List α, P l.reverse := by
    intro l
    induction l with
    | nil => exact h0
    | cons a l ih => rw [List.reverse_cons]; exact h1 _ _ ih
  intro l
  have := key l.reverse
  rwa [List.reverse_reverse] at this
theorem pcs_gather {n : Nat} : ∀ l : List (List CD), (∀ ds ∈ l, KindsOk n ds) → (∃ us, gatherD n l = (0, us) ∧ pcsD n l = (0, us) ∧ GoodU n us) ∨ ((gatherD n l).1 = 3 ∧ ((pcsD n l).1 ≠ 0 ∨ 400 < (pcsD n l).2.length)) := by
  refine snoc_ind ?_ ?_
  · intro _; exact .inl ⟨[], rfl, rfl, ⟨(fun u h => nomatch h), by simp⟩⟩
  · intro l ds ih hl
    have hds : KindsOk n ds := hl ds (by simp)
    have hsn : pcsD n (l ++ [ds]) = pcsS n (pcsD n l) ds := by unfold pcsD; rw [List.foldl_append]; rfl
    rcases ih (fun d hd => hl d (by simp [hd])) with ⟨us, h1, h2, hg⟩ | ⟨h1, h2⟩
    · have hgn := gather_next h1 ds
      rw [hsn, hgn, h2]
      have hpv := piece_valid hds
      by_cases he : (pieceD n ds).2.2 = 0
      · by_cases hv : (pieceD n ds).2.1 = true
        · rw [show addD n us ds = (0, us) from by unfold addD; rw [if_pos (.inr hv), he], pcs_one he (.inl hv)]
          exact .inl ⟨us, rfl, rfl, hg⟩
        · have ha : addD n us ds = keepD us (pieceD n ds).1 := by unfold addD; rw [if_neg (by simp [he, hv])]
          by_cases hk : (pieceD n ds).1 ∈ us
          · rw [ha, show keepD us (pieceD n ds).1 = (0, us) from by unfold keepD; rw [if_pos ⟨_, hk, rfl⟩], pcs_one he (.inr hk)]
            exact .inl ⟨us, rfl, rfl, hg⟩
          · have hkn : ¬ ∃ q ∈ us, keyU q = keyU (pieceD n ds).1 := by
              rintro ⟨q, hq, e⟩
              rw [keyU_inj (hg.1 q hq).1 hpv.1 e] at hq
              exact hk hq
            rw [ha, pcs_two he (by simpa using hv) hk]
            by_cases h4 : us.length = 400
            · rw [show keepD us (pieceD n ds).1 = (3, us) from by unfold keepD; rw [if_neg hkn, if_pos h4]]
              exact .inr ⟨rfl, .inr (by rw [List.length_append, h4]; simp)⟩
            · rw [show keepD us (pieceD n ds).1 = (0, us ++ [(pieceD n ds).1]) from by unfold keepD; rw [if_neg hkn, if_neg h4]]
              refine .inl ⟨_, rfl, rfl, fun u hu => ?_, by rw [List.length_append]; have := hg.2; simp; omega⟩
              rcases List.mem_append.1 hu with hu | hu
              · exact hg.1 u hu
              · rw [List.mem_singleton.1 hu]; exact hpv
      · have h3 := (piece_errs n ds).resolve_left he
        rw [show addD n us ds = (3, us) from by unfold addD; rw [if_pos (.inl he), h3], show pcsS n (0, us) ds = (3, []) from by unfold pcsS; rw [if_neg (by simp), if_pos he, h3]]
        exact .inr ⟨rfl, .inl (by decide)⟩
    · have hgs : gatherD n (l ++ [ds]) = gatherD n l := gather_stuck (by rw [h1]; decide)
      rw [hsn, hgs]
      refine .inr ⟨h1, ?_⟩
      unfold pcsS
      by_cases h0 : (pcsD n l).1 ≠ 0
      · rw [if_pos h0]; exact .inl h0
      · rw [if_neg h0]
        have h4 := h2.resolve_left h0
        split
        · rename_i he; exact .inl he
        · split
          · exact .inr h4
          · exact .inr (by rw [List.length_append]; omega)
theorem same_iff : ∀ {l l' : List CEl}, sameP l l' = true ↔ l.map CEl.d = l'.map CEl.d
  | [], [] => by simp [sameP, sameL]
  | [], _ :: _ => by simp [sameP, sameL]
  | _ :: _, [] => by simp [sameP, sameL]
  | a :: l, b :: l' => by
    have ih := same_iff (l := l) (l' := l')
    have h1 : a.same b = true ↔ a.d = b.d := by
      obtain ⟨q, M, A, n, c, K, xs⟩ := a
      obtain ⟨q', M', A', n', c', K', xs'⟩ := b
      show sameC q M xs K q' M' xs' K' = true ↔ (⟨q, M, xs, K⟩ : CD) = ⟨q', M', xs', K'⟩
      unfold sameC
      rw [Bool.and_eq_true, Bool.and_eq_true, beq_iff_eq, beq_iff_eq, sameB_true]
      simp
    show (a.same b && sameP l l') = true ↔ _
    rw [Bool.and_eq_true, h1, ih]
    simp
def knownB (ps : List PEl) (els : List CEl) : Bool := ps.any fun p => sameP p.els els
theorem known_iff {ps : List PEl} {els : List CEl} : knownB ps els = true ↔ els.map CEl.d ∈ ps.map PEl.dat := by
  unfold knownB
  rw [List.any_eq_true, List.mem_map]
  exact ⟨fun ⟨p, hp, h⟩ => ⟨p, hp, same_iff.1 h⟩, fun ⟨p, hp, h⟩ => ⟨p, hp, same_iff.2 h⟩⟩
end Go.Proofs.YtkgnlloioaobiaaGreat
namespace Go.Proofs.YtkgnlloioaobiaaGreat
open Go.RowKit Go.Shelf
theorem ref_known (A : Option Addr) (m c : Nat) (ps : List PEl) (A' : Option Addr) (m' c' : Nat) (els' : List CEl) (w : World) (P0 : PiecesAt w A m ps) (C1 : CondsAt w A' m' els') :
    Calls Tryz.prog 97 #[.slice A m c, .slice A' m' c'] w fun e w' => e = .returned (.bool (knownB ps els')) ∧ Below w.heap.size w w' := by
  have hsm := P0.small
  have HL := Lib.hid P0.len
  obtain ⟨kb, hkb⟩ : ∃ kb, knownB ps els' = kb := ⟨_, rfl⟩
  rw [hkb]
  have HK := Lib.hid hkb
  clear hkb
  go_enter Tryz.func97, Tryz.ntmps97
  go_wp2
  go_loopw [9] (fun v wr => ∃ i : Nat, i ≤ m ∧ v = .int .i64 i ∧ Hid (∀ j p, j < i → ps[j]? = some p → sameP p.els els' = false) ∧ Below w.heap.size w wr) (fun v _ => m - (intOf v).toNat)
  case atStart => exact ⟨0, Nat.zero_le _, rfl, Lib.hid (fun j x h => absurd h (by omega)), Below.refl _ _⟩
  case round =>
    obtain ⟨i, hi, rfl, HG, hbr⟩ := hrel
    by_cases hlt : i < m
    · obtain ⟨b, off, p, rfl, hblt, hpj, hmem, hcell, hCp⟩ := (P0.step hbr).at hlt
      have HPJ := Lib.hid hpj
      have HPM := Lib.hid hmem
      obtain ⟨pA, pn, pc, pels⟩ := p
      simp only at hcell hCp
      have hq1 : (i : Int) < m := by omega
      have C2 := C1.step hbr
      clear hpj hmem
      cases hs : sameP pels els'
      · have HS := Lib.hid hs
        have HG2 := Lib.hid (show ∀ j p, j < i + 1 → ps[j]? = some p → sameP p.els els' = false from fun j p hj hp => by
          rcases Nat.lt_or_eq_of_le (Nat.le_of_lt_succ hj) with h | rfl
          · exact HG.out j p h hp
          · rw [HPJ.out] at hp; cases hp; exact HS.out)
        clear hs
        go_wp2_with (go_at_call 72; refine (same_piece pA pn pc pels A' m' c' els' _ hCp C2).mono ?_; rintro e w1 ⟨rfl, hb⟩; rw [HS.out]; replace hbr := hbr.trans (hb.mono hbr.size))
        go_roundw
        case rel => exact ⟨i + 1, by omega, by go_num, HG2, hbr⟩
        case measure => simp [intOf]; omega
      · have HS := Lib.hid hs
        have HR := Lib.hid (show kb = true by rw [← HK.out]; unfold knownB; exact List.any_eq_true.2 ⟨_, HPM.out, HS.out⟩)
        clear hs
        go_wp2_with (go_at_call 72; refine (same_piece pA pn pc pels A' m' c' els' _ hCp C2).mono ?_; rintro e w1 ⟨rfl, hb⟩; rw [HS.out]; replace hbr := hbr.trans (hb.mono hbr.size))
        go_ret
        rw [HR.out]
        exact ⟨rfl, hbr⟩
    · obtain rfl : i = m := by omega
      have HR := Lib.hid (show kb = false by
        rw [← HK.out, Bool.eq_false_iff]
        intro h
        unfold knownB at h
        obtain ⟨p, hp, h1⟩ := List.any_eq_true.1 h
        obtain ⟨j, hj, e⟩ := List.getElem_of_mem hp
        rw [HG.out j p (by have := HL.out; omega) (by rw [List.getElem?_eq_getElem hj, e])] at h1
        cases h1)
      go_wp2
      go_ret
      rw [HR.out]
      exact ⟨rfl, hbr⟩
def PcsRet (n : Nat) (w : World) (e : Ending) (w' : World) (r : Int × List (List CD)) : Prop :=
  ∃ A k c us, e = .returned (.tuple #[.slice A k c, .int .i64 r.1]) ∧ PiecesAt w' A k us ∧ (∀ p ∈ us, PieceOk n w' p) ∧ us.map PEl.dat = r.2 ∧ (0 < k → ∃ g o, A = some ⟨g, o, none⟩ ∧ w.heap.size ≤ g) ∧ Below w.heap.size w w'
set_option maxHeartbeats 4000000 in
theorem ref_pieces {n : Nat} (hn12 : n ≤ 12) (A : Option Addr) (m c : Nat) (ps : List PEl) (w : World) (P0 : PiecesAt w A m ps) (hm : m ≤ 2000000000) (hpre : ∀ p ∈ ps, (∀ e ∈ p.els, PreB n e) ∧ p.n ≤ 1000) :
    Calls Tryz.prog 77 #[.slice A m c] w fun e w' => PcsRet n w e w' (pcsD n (ps.map PEl.dat)) := by
  have HPRE := Lib.hid hpre
  have HL := Lib.hid P0.len
  obtain ⟨pd, hpd⟩ : ∃ pd, pcsD n (ps.map PEl.dat) = pd := ⟨_, rfl⟩
  rw [hpd]
  have HPD := Lib.hid hpd
  clear hpd hpre
  go_enter Tryz.func77, Tryz.ntmps77
  go_wp2
  go_loopw [4, 12] (fun u k wr => ∃ (i : Nat) (us : List PEl), i ≤ m ∧ k = .int .i64 i ∧ PL n w.heap.size wr u us ∧ Hid (pcsD n ((ps.map PEl.dat).take i) = (0, us.map PEl.dat)) ∧ Hid (us.length ≤ i) ∧ Below w.heap.size w wr) (fun _ k _ => m - (intOf k).toNat)
  case atStart => exact ⟨0, [], Nat.zero_le _, rfl, PL.nil _ _ _, Lib.hid rfl, Lib.hid (Nat.le_refl _), Below.refl _ _⟩
  case round =>
    obtain ⟨i, us, hi, rfl, hU, HD, HUL, hbr⟩ := hrel
    obtain ⟨A4, c4, rfl⟩ := hU.slice
    by_cases hlt : i < m
    · obtain ⟨b, off, p, rfl, hblt, hpj, hmem, hcell, hCp⟩ := (P0.step hbr).at hlt
      have HPJ := Lib.hid (show (ps.map PEl.dat)[i]? = some (p.els.map CEl.d) by rw [List.getElem?_map, hpj]; rfl)
      have hpp := HPRE.out p hmem
      obtain ⟨pA, pn, pc, pels⟩ := p
      simp only at hcell hCp hpp
      have hq1 : (i : Int) < m := by omega
      have HPP := Lib.hid (fun W (I : CondsAt W pA pn pels) => ref_piece (n := n) hn12 (c := pc) W I hpp.1 hpp.2)
      have HPN := Lib.hid (piece_norm (norm_all hCp.ints hpp.1))
      obtain ⟨q, hq⟩ : ∃ q, pieceD n (pels.map CEl.d) = q := ⟨_, rfl⟩
      rw [hq] at HPP HPN
      have HQ := Lib.hid hq
      obtain ⟨ql, qv, qe⟩ := q
      simp only at HPP HPN
      clear hpj hmem hpp hq
      by_cases hqe : qe = 0
      · subst hqe
        have HQ2 := Lib.hid (show (pieceD n (pels.map CEl.d)).2.2 = 0 by rw [HQ.out])
        cases qv
        · have HQ1 := Lib.hid (show (pieceD n (pels.map CEl.d)).2.1 = false by rw [HQ.out])
          have hul : us.length + 1 ≤ 4000000000 := by have := HUL.out; omega
          have HUM := Lib.hid (show ∀ l1 : List CEl, l1.map CEl.d = ql → (knownB us l1 = true ↔ (pieceD n (pels.map CEl.d)).1 ∈ us.map PEl.dat) from fun l1 h => by rw [known_iff, h, HQ.out])
          by_cases hkn : (pieceD n (pels.map CEl.d)).1 ∈ us.map PEl.dat
          · have HNX := Lib.hid (pcs_same HPJ.out HD.out HQ2.out (.inr hkn))
            have HKN := Lib.hid (fun (l1 : List CEl) (h : l1.map CEl.d = ql) => (HUM.out l1 h).2 hkn)
            clear hkn
            go_wp2_with (first
              | (go_at_call 55; refine (HPP.out _ hCp).mono ?_; rintro e w1 ⟨A1, k1, c1, l1, rfl, hL1, hd1, hn1, hb1⟩; obtain rfl : k1 = l1.length := hL1.conds.1; have hU1 := hU.step hb1; have hbr1 := hbr.trans (hb1.mono hbr.size); clear hb1)
              | (go_at_call 97; refine (ref_known A4 us.length c4 us A1 l1.length c1 l1 _ (hU1.at rfl).2 hL1.conds.2).mono ?_; rintro e w2 ⟨rfl, hb2⟩; rw [HKN.out l1 hd1]; have hU2 := hU1.step hb2; have hbr2 := hbr1.trans (hb2.mono hbr1.size)))
            go_roundw
            case rel => exact ⟨i + 1, us, by omega, by go_num, hU2, HNX, Lib.hid (by have := HUL.out; omega), hbr2⟩
            case measure => simp [intOf]; omega
          · have HNX := Lib.hid (pcs_new HPJ.out HD.out HQ2.out HQ1.out hkn)
            have HKN := Lib.hid (fun (l1 : List CEl) (h : l1.map CEl.d = ql) => (show knownB us l1 = false from Bool.eq_false_iff.2 fun h9 => hkn ((HUM.out l1 h).1 h9)))
            clear hkn
            go_wp2_with (first
              | (go_at_call 55; refine (HPP.out _ hCp).mono ?_; rintro e w1 ⟨A1, k1, c1, l1, rfl, hL1, hd1, hn1, hb1⟩; obtain rfl : k1 = l1.length := hL1.conds.1; have hU1 := hU.step hb1; have hbr1 := hbr.trans (hb1.mono hbr.size); clear hb1)
              | (go_at_call 97; refine (ref_known A4 us.length c4 us A1 l1.length c1 l1 _ (hU1.at rfl).2 hL1.conds.2).mono ?_; rintro e w2 ⟨rfl, hb2⟩; rw [HKN.out l1 hd1]; have hU2 := hU1.step hb2; have hbr2 := hbr1.trans (hb2.mono hbr1.size); have b9 := below_alloc w2 (.cells #[.slice A1 l1.length c1] 34); have HOK := Lib.hid ((piece_ok hL1 hd1 hn1 HPN.out.1 HPN.out.2).keep (.of_below (below_step hb2 b9))); have hsz2 := (hbr2.trans (b9.mono hbr2.size)).size)
              | (at_builtin; refine wpList_append_piece rfl _ _ 22 rfl rfl rfl (hU2.step b9) w2.heap.size ⟨A1, l1.length, c1, l1⟩ rfl (heap_alloc_new w2 (.cells #[.slice A1 l1.length c1] 34)) HOK.out hul hsz2 ?_; intro A5 c5 w5 hU5 hk5 hb5; have hbr5 := (hbr2.trans (b9.mono hbr2.size)).trans hb5))
            go_roundw
            case rel => exact ⟨i + 1, us ++ [⟨A1, l1.length, c1, l1⟩], by omega, by go_num, hU5, Lib.hid (by
              rw [HNX.out, List.map_append, HQ.out]
              show (0, us.map PEl.dat ++ [ql]) = (0, us.map PEl.dat ++ [l1.map CEl.d])
              rw [hd1]), Lib.hid (by rw [List.length_append, List.length_singleton]; have := HUL.out; omega), hbr5⟩
            case measure => simp [intOf]; omega
        · have HNX := Lib.hid (pcs_same (n := n) HPJ.out HD.out HQ2.out (.inl (by rw [HQ.out])))
          go_wp2_with (first
            | (go_at_call 55; refine (HPP.out _ hCp).mono ?_; rintro e w1 ⟨A1, k1, c1, l1, rfl, hL1, hd1, hn1, hb1⟩; obtain rfl : k1 = l1.length := hL1.conds.1; have hU1 := hU.step hb1; have hbr1 := hbr.trans (hb1.mono hbr.size); clear hb1))
          go_roundw
          case rel => exact ⟨i + 1, us, by omega, by go_num, hU1, HNX, Lib.hid (by have := HUL.out; omega), hbr1⟩
          case measure => simp [intOf]; omega
      · have HR := Lib.hid (show pd = (qe, []) by
          rw [← HPD.out, pcs_bad HPJ.out HD.out (by rw [HQ.out]; exact hqe), HQ.out])
        have q1 : (qe != 0) = true := by simpa using hqe
        have q2 : (qe == 0) = false := by simpa using hqe
        clear hqe
        go_wp2_with (first
          | (go_at_call 55; refine (HPP.out _ hCp).mono ?_; rintro e w1 ⟨A1, k1, c1, l1, rfl, hL1, hd1, hn1, hb1⟩; obtain rfl : k1 = l1.length := hL1.conds.1; have hU1 := hU.step hb1; have hbr1 := hbr.trans (hb1.mono hbr.size); clear hb1))
        go_ret2
        rw [HR.out]
        exact ⟨none, 0, 0, [], rfl, ⟨rfl, by omega, fun h => absurd h (by omega), (fun p h => nomatch h)⟩, (fun p h => nomatch h), rfl, fun h => absurd h (by omega), hbr1⟩
    · obtain rfl : i = m := by omega
      have HR := Lib.hid (show pd = (0, us.map PEl.dat) by
        rw [← HPD.out, ← HD.out, List.take_of_length_le (by rw [List.length_map, HL.out]; exact Nat.le_refl _)])
      obtain ⟨A9, c9, he9, hP9, hg9⟩ := hU.pieces
      have HOK := Lib.hid hU.ok
      cases he9
      clear hU
      go_wp2
      go_ret2
      rw [HR.out]
      exact ⟨_, _, _, us, rfl, hP9, HOK.out, rfl, hg9, hbr⟩
set_option maxHeartbeats 4000000 in
theorem ref_mades {n : Nat} (hn12 : n ≤ 12) (D : Int) (A : Option Addr) (m c : Nat) (ps : List PEl) (w : World) (P0 : PiecesAt w A m ps) (hm : m ≤ 2000000000) (hpre : ∀ p ∈ ps, (∀ e ∈ p.els, PreB n e) ∧ p.n ≤ 1000) :
    Calls Tryz.prog 47 #[.int .i64 D, .slice A m c] w fun e w' => GatherRet n w e w' D (gatherD n (ps.map PEl.dat)) := by
  have hB := below_alloc w (.cells #[.int .i64 0, .slice none 0 0] 24)
  have X1 := SetBox.new w 0 none 0 0
  have P1 := P0.step hB
  have HK := pcs_gather (n := n) (ps.map PEl.dat) (fun ds hds d hd => by
    obtain ⟨p, hp, rfl⟩ := List.mem_map.1 hds
    obtain ⟨e, he, rfl⟩ := List.mem_map.1 hd
    obtain ⟨h1, h2, _⟩ := (hpre p hp).1 e he
    exact ⟨h2, by rw [← h1]; exact ((P0.conds p hp).ints e he).len⟩)
  have HPC := Lib.hid (fun W (I : PiecesAt W A m ps) => ref_pieces hn12 A m c ps W I hm hpre)
  obtain ⟨pd, hpd⟩ : ∃ pd, pcsD n (ps.map PEl.dat) = pd := ⟨_, rfl⟩
  obtain ⟨gd, hgd⟩ : ∃ gd, gatherD n (ps.map PEl.dat) = gd := ⟨_, rfl⟩
  rw [hpd, hgd] at HK
  rw [hpd] at HPC
  rw [hgd]
  clear hpd hgd P0 hpre
  obtain ⟨pe, pl⟩ := pd
  simp only at HK
  have hBad : ∀ w1 : World, SetBox w1 w.heap.size 0 none 0 0 → Below w.heap.size w w1 → gd.1 = 3 → GatherRet n w (.returned (.tuple #[setV 0 none 0 0, .int .i64 3])) ((w1.setCell ⟨w.heap.size, 0, none⟩ (.int .i64 0)).setCell ⟨w.heap.size, 1, none⟩ (.slice none 0 0)) D gd := fun w1 X hb h3 =>
    ⟨none, 0, 0, [], by rw [h3]; rfl, ⟨rfl, by omega, fun h => absurd h (by omega), (fun p h => nomatch h)⟩, (fun p h => nomatch h), by rw [if_pos (by rw [h3]; decide)]; rfl, fun h => absurd h (by omega), hb.trans (below_put (Nat.le_refl _) _ _)⟩
  have HBad := Lib.hid hBad
  clear hBad
  rcases HK with ⟨us, h1, h2, hg⟩ | ⟨h1, h2⟩
  · obtain ⟨rfl, rfl⟩ := Prod.mk.inj h2
    subst h1
    have HG := Lib.hid hg.2
    clear hg h2
    go_enter Tryz.func47, Tryz.ntmps47
    go_wp2_with (first
      | ((go_at_call 77; refine (HPC.out _ P1).mono ?_; rintro e w1 ⟨A1, k1, c1, qs, rfl, hP1, hok1, hd1, hA1, hb1⟩; have X2 := X1.step hb1; have d0 := X2.c0; have d1 := X2.c1; have e0 := X2.f 0; have e1 := X2.f 1; replace hB := below_step hB hb1; have HK1 := Lib.hid (show k1 = qs.length from hP1.len.symm); have HD1 := Lib.hid (congrArg List.length hd1)); have hk400 : ¬ (400 : Int) < k1 := (by have h1 := HK1.out; have h2 := HD1.out; have h3 := HG.out; rw [List.length_map] at h2; simp only at h2; omega)))
    have X4 := X2.put D A1 k1 c1
    have hku := X2.keepU (.int .i64 D) (.slice A1 k1 c1)
    have hok4 := fun p hp => (hok1 p hp).keep hku
    have hl1 := X1.lt
    rw [World.size_alloc] at hA1
    have hP4 := pieces_move hP1 hok4 hku.size (fun h0 g o hA => by
      obtain ⟨g', o', h1, h2⟩ := hA1 h0
      rw [hA] at h1
      cases h1
      exact put_other (by omega) _ _)
    have hb4 := hB.trans (below_put (w := w1) (N := w.heap.size) (b := w.heap.size) (Nat.le_refl _) (.int .i64 D) (.slice A1 k1 c1))
    generalize (w1.setCell ⟨w.heap.size, 0, none⟩ (.int .i64 D)).setCell ⟨w.heap.size, 1, none⟩ (.slice A1 k1 c1) = w4 at *
    have v0 := X4.c0
    have v1 := X4.c1
    refine bodyPost_ret (v := .tuple #[setV D A1 k1 c1, .int .i64 0]) (by simp [results, Tryz.results47, go_sem, v0, v1]) rfl ?_
    exact ⟨A1, k1, c1, qs, rfl, hP4, hok4, hd1, (fun h => let ⟨g, o, h1, h2⟩ := hA1 h; ⟨g, o, h1, by omega⟩), hb4⟩
  · by_cases hpe : pe = 0
    · subst hpe
      have h3 : 400 < pl.length := h2.resolve_left (by simp)
      have HG := Lib.hid h3
      have H1 := Lib.hid h1
      clear h2 h3 h1
      go_enter Tryz.func47, Tryz.ntmps47
      go_wp2_with (first
        | ((go_at_call 77; refine (HPC.out _ P1).mono ?_; rintro e w1 ⟨A1, k1, c1, qs, rfl, hP1, hok1, hd1, hA1, hb1⟩; have X2 := X1.step hb1; have d0 := X2.c0; have d1 := X2.c1; have e0 := X2.f 0; have e1 := X2.f 1; replace hB := below_step hB hb1; have HK1 := Lib.hid (show k1 = qs.length from hP1.len.symm); have HD1 := Lib.hid (congrArg List.length hd1)); have hk400 : (400 : Int) < k1 := (by have h1 := HK1.out; have h2 := HD1.out; have h3 := HG.out; rw [List.length_map] at h2; simp only at h2; omega)))
      have X4 := X2.put 0 none 0 0
      have HF := HBad.out w1 X2 hB H1.out
      generalize (w1.setCell ⟨w.heap.size, 0, none⟩ (.int .i64 0)).setCell ⟨w.heap.size, 1, none⟩ (.slice none 0 0) = w4 at *
      have v0 := X4.c0
      have v1 := X4.c1
      refine bodyPost_ret (v := .tuple #[setV 0 none 0 0, .int .i64 3]) (by simp [results, Tryz.results47, go_sem, v0, v1]) rfl ?_
      exact HF
    · have q1 : (pe != 0) = true := by simpa using hpe
      have q2 : (pe == 0) = false := by simpa using hpe
      have H1 := Lib.hid h1
      clear h2 hpe h1
      go_enter Tryz.func47, Tryz.ntmps47
      go_wp2_with (first
        | (go_at_call 77; refine (HPC.out _ P1).mono ?_; rintro e w1 ⟨A1, k1, c1, qs, rfl, hP1, hok1, hd1, hA1, hb1⟩; have X2 := X1.step hb1; have d0 := X2.c0; have d1 := X2.c1; have e0 := X2.f 0; have e1 := X2.f 1; replace hB := below_step hB hb1; have HK1 := Lib.hid (show k1 = qs.length from hP1.len.symm); have HD1 := Lib.hid (congrArg List.length hd1)))
      have X4 := X2.put 0 none 0 0
      have HF := HBad.out w1 X2 hB H1.out
      generalize (w1.setCell ⟨w.heap.size, 0, none⟩ (.int .i64 0)).setCell ⟨w.heap.size, 1, none⟩ (.slice none 0 0) = w4 at *
      have v0 := X4.c0
      have v1 := X4.c1
      refine bodyPost_ret (v := .tuple #[setV 0 none 0 0, .int .i64 3]) (by simp [results, Tryz.results47, go_sem, v0, v1]) rfl ?_
      exact HF
end Go.Proofs.YtkgnlloioaobiaaGreat
namespace Go.Proofs.YtkgnlloioaobiaaGreat
open Go.RowKit Go.Shelf
set_option maxHeartbeats 4000000 in
theorem ref_normals (D : Int) (A : Option Addr) (n c : Nat) (ps : List PEl) (w : World) (h : PiecesAt w A n ps) (hv : validS D ps = true) :
    Calls Tryz.prog 12 #[setV D A n c] w fun e w' => GatherRet D.toNat w e w' D (gatherD D.toNat (ps.map PEl.dat)) := by
  have HV := Lib.hid hv
  have hvp := valid_parts hv
  have B0 := (below_alloc w (.cells #[.int .i64 D, .slice A n c] 24))
  have B1 := SetBox.new w D A n c
  have B2 := B1.alloc (.cells #[.int .i64 0, .slice none 0 0] 24)
  have X2 := SetBox.new (w.alloc (.cells #[.int .i64 D, .slice A n c] 24)) 0 none 0 0
  rw [World.size_alloc] at X2
  have hb := below_step B0 (below_alloc _ (.cells #[.int .i64 0, .slice none 0 0] 24))
  have P2 := h.step hb
  have c0 := B2.c0
  have c1 := B2.c1
  have HNL := Lib.hid (show n ≤ 400 by have := hvp.1.2.2; have := h.len; omega)
  have HPR := Lib.hid (show ∀ p ∈ ps, (∀ e ∈ p.els, PreB D.toNat e) ∧ p.n ≤ 1000 from fun p hp => ⟨(hvp.2 p hp).1, by have h1 := (hvp.2 p hp).2; have := (h.conds p hp).len; omega⟩)
  have HD := Lib.hid (show D.toNat ≤ 12 by omega)
  obtain ⟨gd, hgd⟩ : ∃ gd, gatherD D.toNat (ps.map PEl.dat) = gd := ⟨_, rfl⟩
  have HGD := Lib.hid hgd
  rw [hgd]
  obtain ⟨D', hD'⟩ : ∃ D', (if gd.1 ≠ 0 then (0 : Int) else D) = D' := ⟨_, rfl⟩
  have HDD := Lib.hid hD'
  clear hgd hD'
  clear hv B0 B1 h hvp
  go_enter Tryz.func12, Tryz.ntmps12
  go_wp2_with (first
    | (go_at_call 46; refine (ref_svalid D A n c ps _ P2).mono ?_; rintro e w1 ⟨rfl, hb1⟩; rw [HV.out]; replace hb := below_step hb hb1; replace B2 := B2.step hb1; replace X2 := X2.step hb1; replace P2 := P2.step hb1; clear c0 c1; have c0 := B2.c0; have c1 := B2.c1)
    | (go_at_call 47; refine (ref_mades HD.out D A n c ps _ P2 (by have := HNL.out; omega) HPR.out).mono ?_; rw [HGD.out]; rintro e w3 ⟨A3, k3, c3, qs, rfl, hP3, hok3, hd3, hA3, hb3⟩; rw [HDD.out]; have hb9 := below_step hb hb3; have S3 := B2.step hb3; have Z3 := X2.step hb3; have d0 := Z3.c0; have d1 := Z3.c1; have e0 := Z3.f 0; have e1 := Z3.f 1; have HSZ := Lib.hid hb.size))
  have hl2 := X2.lt
  have X4 := Z3.put D' A3 k3 c3
  have hku := Z3.keepU (.int .i64 D') (.slice A3 k3 c3)
  have hok4 := fun p hp => (hok3 p hp).keep hku
  have hP4 := pieces_move hP3 hok4 hku.size (fun h0 g o hA => by
    obtain ⟨g', o', h1, h2⟩ := hA3 h0
    rw [hA] at h1
    cases h1
    exact put_other (by omega) _ _)
  have hb4 := hb9.trans (below_put (w := w3) (N := w.heap.size) (b := w.heap.size + 1) (Nat.le_succ _) (.int .i64 D') (.slice A3 k3 c3))
  generalize (w3.setCell ⟨w.heap.size + 1, 0, none⟩ (.int .i64 D')).setCell ⟨w.heap.size + 1, 1, none⟩ (.slice A3 k3 c3) = w4 at *
  have v0 := X4.c0
  have v1 := X4.c1
  refine bodyPost_ret (v := .tuple #[setV D' A3 k3 c3, .int .i64 gd.1]) (by simp [results, Tryz.results12, go_sem, v0, v1]) rfl ?_
  exact ⟨A3, k3, c3, qs, by rw [HDD.out], hP4, hok4, hd3, (fun h => let ⟨g, o, h1, h2⟩ := hA3 h; ⟨g, o, h1, by have := HSZ.out; omega⟩), hb4⟩
theorem gather_none {n : Nat} {w w' : World} {e : Ending} {D er : Int} (h0 : er ≠ 0) (h : e = .returned (.tuple #[setV 0 none 0 0, .int .i64 er]) ∧ Below w.heap.size w w') : GatherRet n w e w' D (er, []) :=
  ⟨none, 0, 0, [], by rw [if_pos (show ((er, ([] : List (List CD))).1 ≠ 0) from h0)]; exact h.1, ⟨rfl, by omega, fun h => absurd h (by omega), (fun p h => nomatch h)⟩, (fun p h => nomatch h), by rw [if_pos (show ((er, ([] : List (List CD))).1 ≠ 0) from h0)]; rfl, fun h => absurd h (by omega), h.2⟩
end Go.Proofs.YtkgnlloioaobiaaGreat
namespace Go.Proofs.YtkgnlloioaobiaaGreat
open Go.RowKit
def PieceW (n : Nat) (w : World) (p : PEl) : Prop := PieceOk n w p ∧ ∀ d ∈ p.dat, ValidD n d
theorem PieceW.keep {n : Nat} {w w' : World} {p : PEl} (h : PieceW n w p) (hk : KeepU w w') : PieceW n w' p := ⟨h.1.keep hk, h.2⟩
theorem PieceW.step {n : Nat} {w w' : World} {p : PEl} (h : PieceW n w p) (hb : Below w.heap.size w w') : PieceW n w' p := h.keep (.of_below hb)
theorem PieceV.w {n : Nat} {w : World} {p : PEl} (h : PieceV n w p) : PieceW n w p := ⟨h.1, h.2.1⟩
theorem PieceW.pre {n : Nat} {w : World} {p : PEl} (h : PieceW n w p) : ∀ e ∈ p.els, PreB n e := fun e he => by
  obtain ⟨hv, hl⟩ := h.2 e.d (List.mem_map.2 ⟨e, he, rfl⟩)
  obtain ⟨_, hK, hx⟩ := validB_true.1 (validC_kind hv).1
  have hK := fitsB_true.1 hK
  exact ⟨(h.1.2.1 e he).2.1, validC_ok hv, by have : e.d.K = e.K := rfl; omega, fun x hxm => by have := fitsB_true.1 (hx x hxm); omega⟩
theorem piece_of_cl {n N : Nat} {w : World} {A : Option Addr} {k c : Nat} {els : List CEl} (h : CL2 0 N w (.slice A k c) els) (hk : ∀ e ∈ els, KeyOk n e) (hl : els.length ≤ 1000) : PieceOk n w ⟨A, k, c, els⟩ := by
  have he := h.conds.1
  refine ⟨(CV.of_cl h).mono (Nat.le_refl _) (Nat.zero_le _), hk, by show k ≤ 1000; omega, ?_⟩
  rcases cl_shape h with ⟨rfl, rfl, rfl⟩ | ⟨g, rfl, _, hc⟩
  · exact ⟨⟨fun _ => rfl, (fun ad h => nomatch h)⟩, by rw [he]; exact Nat.zero_le _⟩
  · exact ⟨⟨(fun h => nomatch h), fun ad h => by cases h; rfl⟩, by rw [he]; exact hc⟩
def AndRet (n : Nat) (w : World) (e : Ending) (w' : World) (els : List CEl) : Prop := ∃ A c, e = .returned (.slice A els.length c) ∧ PieceW n w' ⟨A, els.length, c, els⟩ ∧ Below w.heap.size w w'
set_option maxHeartbeats 4000000 in
theorem ref_and {n : Nat} (pA : Option Addr) (pn pc : Nat) (pels : List CEl) (qA : Option Addr) (qn qc : Nat) (qels : List CEl) (w : World) (hp : PieceW n w ⟨pA, pn, pc, pels⟩) (hq : PieceW n w ⟨qA, qn, qc, qels⟩) (hl : pels.length + qels.length ≤ 1000) :
    Calls Tryz.prog 53 #[.slice pA pn pc, .slice qA qn qc] w fun e w' => AndRet n w e w' (pels ++ qels) := by
  have hB0 := below_alloc w (.cells #[] 56)
  have HL0 := cl_empty 0 (N := w.heap.size) (w := w.alloc (.cells #[] 56)) (g := w.heap.size) (Nat.le_refl _) (heap_alloc_new w (.cells #[] 56))
  have C0 := (hp.step hB0).1.1.conds
  have HQ := Lib.hid hq
  have R0 := (hp.step hB0).1.1.rows
  have S0 := hp.1.2.2.2.1
  have S1 := hq.1.2.2.2.1
  have e0 : pels.length = pn := C0.len
  have e1 : qels.length = qn := hq.1.1.conds.len
  have h1 : ([] : List CEl).length + pn ≤ 100000 := by simp; omega
  have HK := Lib.hid (show (∀ e ∈ pels ++ qels, KeyOk n e) ∧ ∀ d ∈ (pels ++ qels).map CEl.d, ValidD n d from ⟨fun e he => by
    rcases List.mem_append.1 he with he | he
    · exact hp.1.2.1 e he
    · exact hq.1.2.1 e he, fun d hd => by
    rw [List.map_append] at hd
    rcases List.mem_append.1 hd with hd | hd
    · exact hp.2 d hd
    · exact hq.2 d hd⟩)
  have h2 : ([] ++ pels : List CEl).length + qn ≤ 100000 := by simp; omega
  have HN := Lib.hid hB0.size
  have HB := Lib.hid hB0
  have HLL := Lib.hid (show (pels ++ qels).length ≤ 1000 by rw [List.length_append]; exact hl)
  obtain ⟨out, hout⟩ : ∃ out, pels ++ qels = out := ⟨_, rfl⟩
  rw [hout] at HK HLL ⊢
  have HO := Lib.hid (show ([] ++ pels) ++ qels = out by rw [List.nil_append]; exact hout)
  have T1 : True := trivial
  clear hp hq hout hB0 e0 e1 hl
  go_enter Tryz.func53, Tryz.ntmps53
  go_wp2_with (first
    | (at_builtin; have t1 := T1; clear T1 t1; refine wpList_append_view rfl _ _ 34 rfl rfl rfl HL0 rfl C0 S0.1 S0.2 R0 h1 HN.out ?_; intro u7 w7 L7 hb7; have hq7 := HQ.out.step (HB.out.trans hb7); clear h1)
    | (at_builtin; refine wpList_append_view rfl _ _ 34 rfl rfl rfl L7 rfl hq7.1.1.conds S1.1 S1.2 hq7.1.1.rows h2 (Nat.le_trans HN.out hb7.size) ?_; intro u9 w9 L9 hb9; rw [HO.out] at L9; obtain ⟨A9, c9, hu9⟩ := L9.slice; subst hu9; have hb := HB.out.trans (hb7.trans hb9)))
  go_ret
  exact ⟨A9, c9, rfl, ⟨piece_of_cl L9 HK.out.1 HLL.out, HK.out.2⟩, hb⟩
end Go.Proofs.YtkgnlloioaobiaaGreat
namespace Go.Proofs.YtkgnlloioaobiaaGreat
open Go.RowKit
theorem nf_valid0 {q M : Int} {n : Nat} {xs : List Int} {K : Int} (hl : xs.length = n) (hq : KindOk q M) (hs : (nf q M n xs K).2.2.2.2 = 0) :
    validC (nf q M n xs K).1 (nf q M n xs K).2.1 (nf q M n xs K).2.2.1 (nf q M n xs K).2.2.2.1 = validB (nf q M n xs K).2.2.1 (nf q M n xs K).2.2.2.1 := by
  rcases nf_case (K := K) hl hq with ⟨s, hs'', h, hh⟩ | ⟨g, _, hg, h, _, _⟩ | ⟨D, _, hD, h, _, _, _, _⟩ | ⟨h, hq2, h0, hM, hne, e, _, _, _⟩
  · rw [h] at hs; exfalso; rcases hs'' with rfl | rfl <;> cases hs
  · rw [h]; unfold validC; simp
  · rw [h]; unfold validC; simp
  · rw [e]
    rcases hq with h1 | h1 | ⟨_, h1, h2⟩
    · rw [hq2] at h1; cases h1
    · rw [hq2] at h1; cases h1
    · have hM' := Int.ediv_mul_cancel hM
      have m3 := Int.ediv_le_self (h : Int) (show 0 ≤ M by omega)
      have hm : 1 ≤ M / (h : Int) := by
        rcases Int.lt_or_le (M / (h : Int)) 1 with hlt | hge
        · have m4 := Int.ediv_nonneg (show 0 ≤ M by omega) (show (0 : Int) ≤ h by omega)
          have : M / (h : Int) = 0 := by omega
          rw [this] at hM'; omega
        · exact hge
      unfold validC
      simp; omega
set_option maxHeartbeats 16000000 in
set_option maxRecDepth 100000 in
theorem rneg_ge (M : Int) (A : Option Addr) (n c : Nat) (K : Int) (xs : List Int) (hv : validC 0 M xs K = true) (w : World) (hI : IntsAt w A n xs) :
    Calls Tryz.prog 56 #[condV 0 M A n c K] w fun e w' => NegRet w e w' n (if negFull n (oppL 0 M n xs K) = true then [] else negOut n (oppL 0 M n xs K)) (if negFull n (oppL 0 M n xs K) = true then 3 else 0) := by
  have hsm := hI.small
  have hmk := make_ints n hsm
  have hB := below_alloc w (.cells #[.int .i64 0, .int .i64 M, .slice A n c, .int .i64 K] 56)
  have h1 := hI.step hB
  have B1 := CBox.new w 0 M A n c K
  obtain ⟨hok, hlen⟩ := opp_ok (n := n) hv
  have hvb := (validC_kind hv).1
  have hx : Tame xs := fun j => valid_at hvb j
  have hK := fitsB_true.1 (validB_true.1 hvb).2.1
  have h12 : n ≤ 12 := by have := (validB_true.1 hvb).1; have := hI.len; omega
  have hzt : Tame (zeros n) := fun j => by rw [zeros_get]; omega
  have HM := Lib.hid (fun (s t : Int) (hs : -1048576 ≤ s ∧ s ≤ 1048576) (ht : -1048576 ≤ t ∧ t ≤ 1048576) W (B : Option Addr) (g1 : IntsAt W A n xs) (g2 : IntsAt W B n (zeros n)) => ref_mix_o s t A n c K xs B n n 1 (zeros n) W g1 g2 (Nat.le_refl _) hs ht hK (by omega) hx hzt)
  simp only [mulL_mix, Int.mul_one] at HM
  obtain ⟨ds, hds⟩ : ∃ ds, oppL 0 M n xs K = ds := ⟨_, rfl⟩
  have HDS := Lib.hid hds
  rw [hds] at hok hlen ⊢
  have HV := Lib.hid hv
  have HOK := Lib.hid hok
  have HLEN := Lib.hid hlen
  obtain ⟨out, hout⟩ : ∃ o, (if negFull n ds = true then [] else negOut n ds) = o := ⟨_, rfl⟩
  obtain ⟨er, her⟩ : ∃ o : Int, (if negFull n ds = true then 3 else 0) = o := ⟨_, rfl⟩
  rw [hout, her]
  have HP := Lib.hid (And.intro hout.symm her.symm)
  have T1 : True := trivial
  clear hv hI hds hok hlen hout her hx hK hzt hvb
  obtain ⟨kk, hkk⟩ : ∃ k, -1 * K + -1 = k := ⟨_, rfl⟩
  have HM1 := Lib.hid (HM.out (-1) (-1) (by omega) (by omega))
  rw [hkk] at HM1
  have HR := Lib.hid (show ds = [⟨0, 0, mulL n (-1) xs, kk⟩] by rw [← HDS.out]; unfold oppL; rw [if_pos rfl, hkk])
  clear hkk HM
  go_enter Tryz.func56, Tryz.ntmps56
  go_wp2_with (first
    | (go_at_call 58; have t1 := T1; clear T1 t1; refine (ref_cvalid _ _ _ _ _ _ xs _ h1).mono ?_; rintro e w1 ⟨rfl, hb⟩; rw [HV.out]; have hbz := (below_step hB hb).size; have c2 := (B1.step hb).c2; have b1 := below_alloc w1 (.cells ((zeros n).map (Value.int .i64)).toArray 3); have b2 := below_alloc (w1.alloc (.cells ((zeros n).map (Value.int .i64)).toArray 3)) (.cells #[.slice (some ⟨w1.heap.size, 0, none⟩) n n, .int .i64 0] 54); have b3 := below_alloc ((w1.alloc (.cells ((zeros n).map (Value.int .i64)).toArray 3)).alloc (.cells #[.slice (some ⟨w1.heap.size, 0, none⟩) n n, .int .i64 0] 54)) (.cells #[.slice (some ⟨w1.heap.size, 0, none⟩) n n, .int .i64 1] 54); replace hB := below_step (below_step (below_step (below_step hB hb) b1) b2) b3; replace h1 := (((h1.step hb).step b1).step b2).step b3; replace B1 := (((B1.step hb).step b1).step b2).step b3; have OZ := ((OwnRow.new w1 (zeros n) n (zeros_len n)).step b2).step b3; have Z4 := (LBox.new (w1.alloc (.cells ((zeros n).map (Value.int .i64)).toArray 3)) (some ⟨w1.heap.size, 0, none⟩) n n 0); have z40 := Z4.c0; replace Z4 := Z4.step b3; have Z5 := (LBox.new ((w1.alloc (.cells ((zeros n).map (Value.int .i64)).toArray 3)).alloc (.cells #[.slice (some ⟨w1.heap.size, 0, none⟩) n n, .int .i64 0] 54)) (some ⟨w1.heap.size, 0, none⟩) n n 1); simp only [World.size_alloc] at Z4 Z5 z40; have IZ := OZ.ints hsm (zeros_wf n); have c0 := B1.c0; have c1 := B1.c1; have c22 := B1.c2; have c3 := B1.c3; have z50 := Z5.c0; have z51 := Z5.c1; clear b1 b2 b3 hb)
    | (go_at_call 67; refine (HM1.out _ _ h1 IZ).mono ?_; rintro e w4 ⟨g1, k1, rfl, hg1, I1, O1, hb⟩; have b6 := below_alloc w4 (.cells #[.int .i64 0, .int .i64 0, .slice (some ⟨g1, 0, none⟩) n k1, .int .i64 kk] 56); have G6 := heap_alloc_new w4 (.cells #[.int .i64 0, .int .i64 0, .slice (some ⟨g1, 0, none⟩) n k1, .int .i64 kk] 56); replace hB := below_step (below_step hB hb) b6; replace B1 := (B1.step hb).step b6; replace Z4 := (Z4.step hb).step b6; replace OZ := (OZ.step hb).step b6; replace I1 := I1.step b6; clear b6 hb))
  generalize hw5 : w4.alloc (.cells #[.int .i64 0, .int .i64 0, .slice (some ⟨g1, 0, none⟩) n k1, .int .i64 kk] 56) = w5 at *
  have C0 : CondsAt w5 (some ⟨w4.heap.size, 0, none⟩) 1 [⟨0, 0, some ⟨g1, 0, none⟩, n, k1, kk, mulL n (-1) xs⟩] := conds_lit (els := [⟨0, 0, some ⟨g1, 0, none⟩, n, k1, kk, mulL n (-1) xs⟩]) G6 (by simp) (fun e he => by rw [List.mem_singleton.1 he]; exact I1)
  have HD0 := Lib.hid (show List.map CEl.d [⟨0, 0, some ⟨g1, 0, none⟩, n, k1, kk, mulL n (-1) xs⟩] = ds ∧ ∀ e ∈ ([⟨0, 0, some ⟨g1, 0, none⟩, n, k1, kk, mulL n (-1) xs⟩] : List CEl), e.n = n from ⟨by rw [HR.out]; rfl, fun e he => by rw [List.mem_singleton.1 he]⟩)
  clear hw5 G6 I1 O1 c2 c0 c1 c22 c3 z40 z50 z51 hmk h1 IZ Z5 hg1
  generalize ([⟨0, 0, some ⟨g1, 0, none⟩, n, k1, kk, mulL n (-1) xs⟩] : List CEl) = els0 at *
  have HME := Lib.hid (show els0.length = 1 from C0.len)
  generalize (some ⟨w4.heap.size, 0, none⟩ : Option Addr) = A0 at C0 ⊢
  have HM2 := Lib.hid (show ds.length = 1 by rw [← HD0.out.1, List.length_map]; exact HME.out)
  have hm1 : 1 ≤ 511 := by have := HM2.out; have := HLEN.out; omega
  have l1 := B1.lt
  have l4 := Z4.lt
  have lz := OZ.lt
  have hbw := hB.size
  go_loopw [8, 68] (fun u v wr => ∃ (i : Nat) (els : List CEl), i ≤ 1 ∧ v = .int .i64 i ∧ CL2 w.heap.size w5.heap.size wr u els ∧ els.map CEl.d = negOut n (ds.take i) ∧ (∀ e ∈ els, e.n = n) ∧ (∀ j d, j < i → ds[j]? = some d → negBad n d = false) ∧ Below w5.heap.size w5 wr) (fun _ v _ => 1 - (intOf v).toNat)
  case atStart => exact ⟨0, [], Nat.zero_le _, rfl, CL2.nil _ _ _, rfl, (fun e h => nomatch h), (fun j d h => absurd h (by omega)), Below.refl _ _⟩
  case round =>
    obtain ⟨i, els, hi, rfl, hL, hd, hn, hbad, hbr⟩ := hrel
    have hlen2 : els.length ≤ i := by
      have h3 := congrArg List.length hd
      rw [List.length_map] at h3
      have h4 := out_len n (ds.take i)
      have h5 := List.length_take_le i ds
      omega
    have HD := Lib.hid (And.intro hd (And.intro hn hbad))
    have Z6 := Z4.below hbr l4
    have OZ6 := OZ.below hbr lz
    have C1 := C0.step hbr
    have hNs := hbr.size
    clear hd hn hbad
    obtain ⟨A9, k9, rfl⟩ := hL.slice
    by_cases hlt : i < 1
    · obtain ⟨b, off, e, rfl, hblt, hej, hmem, hcs, hin⟩ := C1.at hlt
      obtain ⟨x0, x1, x2, x3⟩ := hcs
      obtain ⟨eq, eM, eA, en, ec, eK, exs⟩ := e
      simp only at x0 x1 x2 x3 hin
      have hdj : ds[i]? = some ⟨eq, eM, exs, eK⟩ := by rw [← HD0.out.1, List.getElem?_map, hej]; rfl
      have hdm : (⟨eq, eM, exs, eK⟩ : CD) ∈ ds := by obtain ⟨h8, h9⟩ := List.getElem?_eq_some_iff.1 hdj; exact h9 ▸ List.getElem_mem h8
      obtain ⟨ok1, ok2, ok3, ok4⟩ := HOK.out _ hdm
      obtain rfl : en = n := HD0.out.2 _ hmem
      have hq1 : (i : Int) < 1 := by omega
      have HN := Lib.hid (fun W (h : IntsAt W eA en exs) => ref_made eq eM eA en ec (by omega) eK exs ok1 ok2 ok3 W h)
      have hst := nf_state (K := eK) ok4 ok1
      have hkd := nf_valid0 (K := eK) ok4 ok1
      have hbd : negBad en ⟨eq, eM, exs, eK⟩ = (decide ((nf eq eM en exs eK).2.2.2.2 = 0) && !validB (nf eq eM en exs eK).2.2.1 (nf eq eM en exs eK).2.2.2.1) := rfl
      have hone : negOne en ⟨eq, eM, exs, eK⟩ = if (nf eq eM en exs eK).2.2.2.2 = 0 then [⟨(nf eq eM en exs eK).1, (nf eq eM en exs eK).2.1, (nf eq eM en exs eK).2.2.1, (nf eq eM en exs eK).2.2.2.1⟩] else if (nf eq eM en exs eK).2.2.2.2 = 1 then [⟨0, 0, zeros en, 0⟩] else [] := rfl
      obtain ⟨r, hr⟩ : ∃ r, nf eq eM en exs eK = r := ⟨_, rfl⟩
      rw [hr] at HN hst hbd hone hkd
      have HJ := Lib.hid hdj
      have b0 := below_alloc wr (.cells #[.int .i64 eq, .int .i64 eM, .slice eA en ec, .int .i64 eK] 56)
      have y1 := hin.step b0
      have L1 := hL.step b0
      have hbr1 := hbr.trans (b0.mono hNs)
      have Z7 := Z6.step b0
      have OZ7 := OZ6.step b0
      clear hdj hdm hr ok1 ok2 ok3 ok4 hej hmem hin b0
      rcases hst with ⟨hs, hX, hM5⟩ | hs | hs
      · rw [if_pos hs] at hone
        have hkd := hkd hs
        cases hvb : validB r.2.2.1 r.2.2.2.1
        · rw [hvb, hs] at hbd
          have HF := Lib.hid (show negFull en ds = true by unfold negFull; rw [any_take HJ.out hbd]; rfl)
          have HV5 := Lib.hid (hkd.trans hvb)
          clear hone hbd hvb hkd
          go_wp2_with (first
            | (go_at_call 81; refine (HN.out _ y1).mono ?_; rintro e w4 ⟨A4, n4, c4, rfl, I4, hb4, O4⟩; have b5 := below_alloc w4 (.cells #[.int .i64 r.1, .int .i64 r.2.1, .slice A4 n4 c4, .int .i64 r.2.2.2.1] 56); replace I4 := I4.step b5; have X7 := CBox.new w4 r.1 r.2.1 A4 n4 c4 r.2.2.2.1; have d0 := X7.c0; have d1 := X7.c1; have d2 := X7.c2; have d3 := X7.c3; have hbr5 := (hbr1.trans (hb4.mono hbr1.size)).trans (b5.mono (Nat.le_trans hbr1.size hb4.size)))
            | (go_at_call 58; refine (ref_cvalid _ _ _ _ _ _ _ _ I4).mono ?_; rintro e w5 ⟨rfl, hb6⟩; rw [HV5.out]; replace hbr5 := hbr5.trans (hb6.mono hbr5.size)))
          have hEnd := below_step hB hbr5
          go_ret2
          rw [HP.out.1, HP.out.2, HF.out]
          exact ⟨_, [], rfl, CL.nil _ _, rfl, (fun e h => nomatch h), hEnd⟩
        · rw [hvb, hs] at hbd
          have HB := Lib.hid (And.intro hone hbd)
          have HV5 := Lib.hid (hkd.trans hvb)
          clear hone hbd hvb hkd
          go_wp2_with (first
            | (go_at_call 81; refine (HN.out _ y1).mono ?_; rintro e w4 ⟨A4, n4, c4, rfl, I4, hb4, O4⟩; obtain rfl : n4 = en := I4.len.symm.trans hX; have b5 := below_alloc w4 (.cells #[.int .i64 r.1, .int .i64 r.2.1, .slice A4 n4 c4, .int .i64 r.2.2.2.1] 56); have R4 := ((FreshRow.ok O4 (Nat.le_trans hbw hbr1.size)).step b5); replace I4 := I4.step b5; have X7 := CBox.new w4 r.1 r.2.1 A4 n4 c4 r.2.2.2.1; have d0 := X7.c0; have d1 := X7.c1; have d2 := X7.c2; have d3 := X7.c3; have L5 := (L1.step hb4).step b5; have hbr5 := (hbr1.trans (hb4.mono hbr1.size)).trans (b5.mono (Nat.le_trans hbr1.size hb4.size)))
            | (go_at_call 58; refine (ref_cvalid _ _ _ _ _ _ _ _ I4).mono ?_; rintro e w5 ⟨rfl, hb6⟩; rw [HV5.out]; have b7 := below_alloc w5 (.cells #[.int .i64 r.1, .int .i64 r.2.1, .slice A4 n4 c4, .int .i64 r.2.2.2.1] 56); have G7 := heap_alloc_new w5 (.cells #[.int .i64 r.1, .int .i64 r.2.1, .slice A4 n4 c4, .int .i64 r.2.2.2.1] 56); replace hbr5 := hbr5.trans (hb6.mono hbr5.size); replace hbr5 := hbr5.trans (b7.mono hbr5.size); have L7 := (L5.step hb6).step b7; have I7 := (I4.step hb6).step b7; have R7 := (R4.step hb6).step b7; replace X7 := X7.step hb6; have d0 := X7.c0; have d1 := X7.c1; have d2 := X7.c2; have d3 := X7.c3)
            | (at_builtin; refine wpList_append_cond rfl _ _ 34 rfl rfl rfl L7 w5.heap.size ⟨r.1, r.2.1, A4, n4, c4, r.2.2.2.1, r.2.2.1⟩ rfl G7 I7 R7 (by omega) hbr5.size ?_; intro g8 cap8 w8 L8 gr8 hb8; replace hbr5 := hbr5.trans hb8))
          go_roundw
          case rel => exact ⟨i + 1, els ++ [⟨r.1, r.2.1, A4, n4, c4, r.2.2.2.1, r.2.2.1⟩], by omega, by go_num, L8, by rw [out_snoc HJ.out, HB.out.1, List.map_append, HD.out.1]; rfl, (fun e he => by
            rcases List.mem_append.1 he with h | h
            · exact HD.out.2.1 e h
            · rw [List.mem_singleton.1 h]), (fun j d hj hjd => by
            rcases Nat.lt_or_eq_of_le (Nat.le_of_lt_succ hj) with h | rfl
            · exact HD.out.2.2 j d h hjd
            · rw [HJ.out] at hjd; cases hjd; exact HB.out.2), hbr5⟩
          case measure => simp [intOf]; omega
      · rw [if_neg (by rw [hs]; decide), if_pos hs] at hone
        rw [hs] at hbd
        have HB := Lib.hid (And.intro hone hbd)
        clear hone hbd hkd
        go_wp2_with (first
          | (go_at_call 81; refine (HN.out _ y1).mono ?_; rintro e w4 ⟨A4, n4, c4, rfl, I4, hb4, O4⟩; have b5 := below_alloc w4 (.cells #[.int .i64 r.1, .int .i64 r.2.1, .slice A4 n4 c4, .int .i64 r.2.2.2.1] 56); have Z8 := (Z7.step hb4).step b5; have OZ8 := (OZ7.step hb4).step b5; have z0 := Z8.c0; have z1 := Z8.c1; have hbr5 := (hbr1.trans (hb4.mono hbr1.size)).trans (b5.mono (Nat.le_trans hbr1.size hb4.size)); have L5 := (L1.step hb4).step b5; have b7 := below_alloc (w4.alloc (.cells #[.int .i64 r.1, .int .i64 r.2.1, .slice A4 n4 c4, .int .i64 r.2.2.2.1] 56)) (.cells #[.int .i64 0, .int .i64 0, .slice (some ⟨w1.heap.size, 0, none⟩) en en, .int .i64 0] 56); have G7 := heap_alloc_new (w4.alloc (.cells #[.int .i64 r.1, .int .i64 r.2.1, .slice A4 n4 c4, .int .i64 r.2.2.2.1] 56)) (.cells #[.int .i64 0, .int .i64 0, .slice (some ⟨w1.heap.size, 0, none⟩) en en, .int .i64 0] 56); simp only [World.size_alloc] at G7; have L7 := L5.step b7; have OZ9 := OZ8.step b7; have I7 := OZ9.ints hsm (zeros_wf en); have R7 := FreshRow.ok (N := w.heap.size) (N' := w.heap.size) (.inr ⟨_, rfl, hbz, OZ9⟩) (Nat.le_refl _); replace hbr5 := hbr5.trans (b7.mono hbr5.size); have hN7 := hbr5.size)
          | (at_builtin; refine wpList_append_cond rfl _ _ 34 rfl rfl rfl L7 (w4.heap.size + 1) ⟨0, 0, some ⟨w1.heap.size, 0, none⟩, en, en, 0, zeros en⟩ rfl G7 I7 R7 (by omega) hN7 ?_; intro g8 cap8 w8 L8 gr8 hb8; replace hbr5 := hbr5.trans hb8))
        go_roundw
        case rel => exact ⟨i + 1, els ++ [⟨0, 0, some ⟨w1.heap.size, 0, none⟩, en, en, 0, zeros en⟩], by omega, by go_num, L8, by rw [out_snoc HJ.out, HB.out.1, List.map_append, HD.out.1]; rfl, (fun e he => by
          rcases List.mem_append.1 he with h | h
          · exact HD.out.2.1 e h
          · rw [List.mem_singleton.1 h]), (fun j d hj hjd => by
          rcases Nat.lt_or_eq_of_le (Nat.le_of_lt_succ hj) with h | rfl
          · exact HD.out.2.2 j d h hjd
          · rw [HJ.out] at hjd; cases hjd; exact HB.out.2), hbr5⟩
        case measure => simp [intOf]; omega
      · rw [if_neg (by rw [hs]; decide), if_neg (by rw [hs]; decide)] at hone
        rw [hs] at hbd
        have HB := Lib.hid (And.intro hone hbd)
        clear hone hbd hkd
        go_wp2_with (go_at_call 81; refine (HN.out _ y1).mono ?_; rintro e w4 ⟨A4, n4, c4, rfl, I4, hb4, O4⟩; have b5 := below_alloc w4 (.cells #[.int .i64 r.1, .int .i64 r.2.1, .slice A4 n4 c4, .int .i64 r.2.2.2.1] 56); have L5 := (L1.step hb4).step b5; have hbr5 := (hbr1.trans (hb4.mono hbr1.size)).trans (b5.mono (Nat.le_trans hbr1.size hb4.size)))
        go_roundw
        case rel => exact ⟨i + 1, els, by omega, by go_num, L5, by rw [out_snoc HJ.out, HB.out.1, List.append_nil]; exact HD.out.1, HD.out.2.1, (fun j d hj hjd => by
          rcases Nat.lt_or_eq_of_le (Nat.le_of_lt_succ hj) with h | rfl
          · exact HD.out.2.2 j d h hjd
          · rw [HJ.out] at hjd; cases hjd; exact HB.out.2), hbr5⟩
        case measure => simp [intOf]; omega
    · have hC := hL.conds.2
      have hall : negOut n (ds.take i) = negOut n ds := by rw [List.take_of_length_le (by rw [HM2.out]; omega)]
      have HA := Lib.hid (And.intro (show ds.any (negBad n) = false from any_none fun j d hj => HD.out.2.2 j d (by rw [HM2.out] at hj; omega)) (show els.length = (negOut n ds).length by rw [← hall, ← HD.out.1, List.length_map]))
      have hge : ¬ ((i : Int) < 1) := by omega
      have hEnd := below_step hB hbr
      have HALL := Lib.hid hall
      clear hall
      by_cases h4 : 400 < els.length
      · have HF := Lib.hid (show negFull n ds = true by unfold negFull; rw [HA.out.1, ← HA.out.2]; simpa using h4)
        have h4i : (400 : Int) < (els.length : Int) := by omega
        go_wp2
        go_ret2
        rw [HP.out.1, HP.out.2, HF.out]
        exact ⟨_, [], rfl, CL.nil _ _, rfl, (fun e h => nomatch h), hEnd⟩
      · have HF := Lib.hid (show negFull n ds = false by unfold negFull; rw [HA.out.1, ← HA.out.2]; simpa using h4)
        have h4i : ¬ (400 : Int) < (els.length : Int) := by omega
        have hL2 := hL.mono (Nat.le_refl _) hbw
        go_wp2
        go_ret2
        rw [HP.out.1, HP.out.2, HF.out]
        exact ⟨_, els, rfl, hL2, by rw [HD.out.1, HALL.out]; rfl, HD.out.2.1, hEnd⟩
end Go.Proofs.YtkgnlloioaobiaaGreat
namespace Go.Proofs.YtkgnlloioaobiaaGreat
open Go.RowKit
set_option maxHeartbeats 16000000 in
set_option maxRecDepth 100000 in
theorem rneg_eq (M : Int) (A : Option Addr) (n c : Nat) (K : Int) (xs : List Int) (hv : validC 1 M xs K = true) (w : World) (hI : IntsAt w A n xs) :
    Calls Tryz.prog 56 #[condV 1 M A n c K] w fun e w' => NegRet w e w' n (if negFull n (oppL 1 M n xs K) = true then [] else negOut n (oppL 1 M n xs K)) (if negFull n (oppL 1 M n xs K) = true then 3 else 0) := by
  have hsm := hI.small
  have hmk := make_ints n hsm
  have hB := below_alloc w (.cells #[.int .i64 1, .int .i64 M, .slice A n c, .int .i64 K] 56)
  have h1 := hI.step hB
  have B1 := CBox.new w 1 M A n c K
  obtain ⟨hok, hlen⟩ := opp_ok (n := n) hv
  have hvb := (validC_kind hv).1
  have hx : Tame xs := fun j => valid_at hvb j
  have hK := fitsB_true.1 (validB_true.1 hvb).2.1
  have h12 : n ≤ 12 := by have := (validB_true.1 hvb).1; have := hI.len; omega
  have hzt : Tame (zeros n) := fun j => by rw [zeros_get]; omega
  have HM := Lib.hid (fun (s t : Int) (hs : -1048576 ≤ s ∧ s ≤ 1048576) (ht : -1048576 ≤ t ∧ t ≤ 1048576) W (B : Option Addr) (g1 : IntsAt W A n xs) (g2 : IntsAt W B n (zeros n)) => ref_mix_o s t A n c K xs B n n 1 (zeros n) W g1 g2 (Nat.le_refl _) hs ht hK (by omega) hx hzt)
  simp only [mulL_mix, Int.mul_one] at HM
  obtain ⟨ds, hds⟩ : ∃ ds, oppL 1 M n xs K = ds := ⟨_, rfl⟩
  have HDS := Lib.hid hds
  rw [hds] at hok hlen ⊢
  have HV := Lib.hid hv
  have HOK := Lib.hid hok
  have HLEN := Lib.hid hlen
  obtain ⟨out, hout⟩ : ∃ o, (if negFull n ds = true then [] else negOut n ds) = o := ⟨_, rfl⟩
  obtain ⟨er, her⟩ : ∃ o : Int, (if negFull n ds = true then 3 else 0) = o := ⟨_, rfl⟩
  rw [hout, her]
  have HP := Lib.hid (And.intro hout.symm her.symm)
  have T1 : True := trivial
  clear hv hI hds hok hlen hout her hx hK hzt hvb
  obtain ⟨k1, hk1⟩ : ∃ k, -1 * K + -1 = k := ⟨_, rfl⟩
  have HMb := Lib.hid (HM.out (-1) (-1) (by omega) (by omega))
  rw [hk1] at HMb
  obtain ⟨k2, hk2⟩ : ∃ k, 1 * K + -1 = k := ⟨_, rfl⟩
  have HMa := Lib.hid (HM.out 1 (-1) (by omega) (by omega))
  rw [hk2] at HMa
  have HR := Lib.hid (show ds = [⟨0, 0, mulL n 1 xs, k2⟩, ⟨0, 0, mulL n (-1) xs, k1⟩] by rw [← HDS.out]; unfold oppL; rw [if_neg (by decide), if_pos rfl, hk1, hk2])
  clear hk1 hk2 HM
  go_enter Tryz.func56, Tryz.ntmps56
  go_wp2_with (first
    | (go_at_call 58; have t1 := T1; clear T1 t1; refine (ref_cvalid _ _ _ _ _ _ xs _ h1).mono ?_; rintro e w1 ⟨rfl, hb⟩; rw [HV.out]; have hbz := (below_step hB hb).size; have c2 := (B1.step hb).c2; have b1 := below_alloc w1 (.cells ((zeros n).map (Value.int .i64)).toArray 3); have b2 := below_alloc (w1.alloc (.cells ((zeros n).map (Value.int .i64)).toArray 3)) (.cells #[.slice (some ⟨w1.heap.size, 0, none⟩) n n, .int .i64 0] 54); have b3 := below_alloc ((w1.alloc (.cells ((zeros n).map (Value.int .i64)).toArray 3)).alloc (.cells #[.slice (some ⟨w1.heap.size, 0, none⟩) n n, .int .i64 0] 54)) (.cells #[.slice (some ⟨w1.heap.size, 0, none⟩) n n, .int .i64 1] 54); replace hB := below_step (below_step (below_step (below_step hB hb) b1) b2) b3; replace h1 := (((h1.step hb).step b1).step b2).step b3; replace B1 := (((B1.step hb).step b1).step b2).step b3; have OZ := ((OwnRow.new w1 (zeros n) n (zeros_len n)).step b2).step b3; have Z4 := (LBox.new (w1.alloc (.cells ((zeros n).map (Value.int .i64)).toArray 3)) (some ⟨w1.heap.size, 0, none⟩) n n 0); have z40 := Z4.c0; replace Z4 := Z4.step b3; have Z5 := (LBox.new ((w1.alloc (.cells ((zeros n).map (Value.int .i64)).toArray 3)).alloc (.cells #[.slice (some ⟨w1.heap.size, 0, none⟩) n n, .int .i64 0] 54)) (some ⟨w1.heap.size, 0, none⟩) n n 1); simp only [World.size_alloc] at Z4 Z5 z40; have IZ := OZ.ints hsm (zeros_wf n); have c0 := B1.c0; have c1 := B1.c1; have c22 := B1.c2; have c3 := B1.c3; have z50 := Z5.c0; have z51 := Z5.c1; clear b1 b2 b3 hb))
  generalize hw3 : (((w1.alloc (.cells ((zeros n).map (Value.int .i64)).toArray 3)).alloc (.cells #[.slice (some ⟨w1.heap.size, 0, none⟩) n n, .int .i64 0] 54)).alloc (.cells #[.slice (some ⟨w1.heap.size, 0, none⟩) n n, .int .i64 1] 54)) = w3 at *
  clear hw3
  replace hB := hB.drew
  replace h1 := h1.step (Below.refl _ w3).drew
  replace B1 := B1.step (Below.refl _ w3).drew
  replace OZ := OZ.step (Below.refl _ w3).drew
  replace Z4 := Z4.step (Below.refl _ w3).drew
  replace Z5 := Z5.step (Below.refl _ w3).drew
  replace IZ := IZ.step (Below.refl _ w3).drew
  clear c2 z40 c0 c1 hmk
  go_region_held3 (fun W => W.cell? ⟨w.heap.size, 2, none⟩ = some (.slice A n c) ∧ W.cell? ⟨w.heap.size, 3, none⟩ = some (.int .i64 K) ∧ W.cell? ⟨w1.heap.size + 1 + 1, 0, none⟩ = some (.slice (some ⟨w1.heap.size, 0, none⟩) n n) ∧ W.cell? ⟨w1.heap.size + 1 + 1, 1, none⟩ = some (.int .i64 1)) (first | exact ⟨c22, c3, z50, z51⟩ | exact ⟨B1.c2, B1.c3, Z5.c0, Z5.c1⟩ | exact ⟨(B1.alloc _).c2, (B1.alloc _).c3, (Z5.alloc _).c0, (Z5.alloc _).c1⟩ | go_keep)
    (first
      | (go_at_call 67; with_reducible (show Calls _ _ #[Value.int IntKind.i64 1, _, _, _] _ _); refine (HMa.out _ _ h1 IZ).mono ?_; rintro e w4 ⟨ga, ka, rfl, hga, Ia, Oa, hb⟩; replace hB := below_step hB hb; replace h1 := h1.step hb; replace B1 := B1.step hb; replace OZ := OZ.step hb; replace Z4 := Z4.step hb; replace Z5 := Z5.step hb; replace IZ := IZ.step hb; try replace Ib := Ib.step hb)
      | (go_at_call 67; with_reducible (show Calls _ _ #[Value.int IntKind.i64 (-1), _, _, _] _ _); refine (HMb.out _ _ h1 IZ).mono ?_; rintro e w4 ⟨gb, kb, rfl, hgb, Ib, Ob, hb⟩; replace hB := below_step hB hb; replace h1 := h1.step hb; replace B1 := B1.step hb; replace OZ := OZ.step hb; replace Z4 := Z4.step hb; replace Z5 := Z5.step hb; replace IZ := IZ.step hb; try replace Ia := Ia.step hb))
  all_goals
    have b6 := below_alloc w4 (.cells #[.int .i64 0, .int .i64 0, .slice (some ⟨ga, 0, none⟩) n ka, .int .i64 k2, .int .i64 0, .int .i64 0, .slice (some ⟨gb, 0, none⟩) n kb, .int .i64 k1] 56)
    have C0 : CondsAt (w4.alloc (.cells #[.int .i64 0, .int .i64 0, .slice (some ⟨ga, 0, none⟩) n ka, .int .i64 k2, .int .i64 0, .int .i64 0, .slice (some ⟨gb, 0, none⟩) n kb, .int .i64 k1] 56)) (some ⟨w4.heap.size, 0, none⟩) 2 [⟨0, 0, some ⟨ga, 0, none⟩, n, ka, k2, mulL n 1 xs⟩, ⟨0, 0, some ⟨gb, 0, none⟩, n, kb, k1, mulL n (-1) xs⟩] := conds_lit (els := [⟨0, 0, some ⟨ga, 0, none⟩, n, ka, k2, mulL n 1 xs⟩, ⟨0, 0, some ⟨gb, 0, none⟩, n, kb, k1, mulL n (-1) xs⟩]) (heap_alloc_new w4 _) (by simp) (fun e he => by
      rcases List.mem_cons.1 he with rfl | he
      · exact Ia.step b6
      · rw [List.mem_singleton.1 he]; exact Ib.step b6)
    have HD0 := Lib.hid (show List.map CEl.d [⟨0, 0, some ⟨ga, 0, none⟩, n, ka, k2, mulL n 1 xs⟩, ⟨0, 0, some ⟨gb, 0, none⟩, n, kb, k1, mulL n (-1) xs⟩] = ds ∧ ∀ e ∈ ([⟨0, 0, some ⟨ga, 0, none⟩, n, ka, k2, mulL n 1 xs⟩, ⟨0, 0, some ⟨gb, 0, none⟩, n, kb, k1, mulL n (-1) xs⟩] : List CEl), e.n = n from ⟨by rw [HR.out]; rfl, fun e he => by
      rcases List.mem_cons.1 he with rfl | he
      · rfl
      · rw [List.mem_singleton.1 he]⟩)
    replace hB := below_step hB b6
    replace B1 := B1.step b6
    replace Z4 := Z4.step b6
    replace OZ := OZ.step b6
    clear b6 Ia Ib Oa Ob h1 IZ Z5 c22 c3 z50 z51 hga hgb
    go_wp2
    generalize w4.alloc (.cells #[.int .i64 0, .int .i64 0, .slice (some ⟨ga, 0, none⟩) n ka, .int .i64 k2, .int .i64 0, .int .i64 0, .slice (some ⟨gb, 0, none⟩) n kb, .int .i64 k1] 56) = w5 at *
    generalize ([⟨0, 0, some ⟨ga, 0, none⟩, n, ka, k2, mulL n 1 xs⟩, ⟨0, 0, some ⟨gb, 0, none⟩, n, kb, k1, mulL n (-1) xs⟩] : List CEl) = els0 at *
    have HME := Lib.hid (show els0.length = 2 from C0.len)
    generalize (some ⟨w4.heap.size, 0, none⟩ : Option Addr) = A0 at C0 ⊢
    have HM2 := Lib.hid (show ds.length = 2 by rw [← HD0.out.1, List.length_map]; exact HME.out)
    have hm1 : 2 ≤ 511 := by have := HM2.out; have := HLEN.out; omega
    have l1 := B1.lt
    have l4 := Z4.lt
    have lz := OZ.lt
    have hbw := hB.size
    go_loopw [8, 68] (fun u v wr => ∃ (i : Nat) (els : List CEl), i ≤ 2 ∧ v = .int .i64 i ∧ CL2 w.heap.size w5.heap.size wr u els ∧ els.map CEl.d = negOut n (ds.take i) ∧ (∀ e ∈ els, e.n = n) ∧ (∀ j d, j < i → ds[j]? = some d → negBad n d = false) ∧ Below w5.heap.size w5 wr) (fun _ v _ => 2 - (intOf v).toNat)
    case atStart => exact ⟨0, [], Nat.zero_le _, rfl, CL2.nil _ _ _, rfl, (fun e h => nomatch h), (fun j d h => absurd h (by omega)), Below.refl _ _⟩
    case round =>
      obtain ⟨i, els, hi, rfl, hL, hd, hn, hbad, hbr⟩ := hrel
      have hlen2 : els.length ≤ i := by
        have h3 := congrArg List.length hd
        rw [List.length_map] at h3
        have h4 := out_len n (ds.take i)
        have h5 := List.length_take_le i ds
        omega
      have HD := Lib.hid (And.intro hd (And.intro hn hbad))
      have Z6 := Z4.below hbr l4
      have OZ6 := OZ.below hbr lz
      have C1 := C0.step hbr
      have hNs := hbr.size
      clear hd hn hbad
      obtain ⟨A9, k9, rfl⟩ := hL.slice
      by_cases hlt : i < 2
      · obtain ⟨b, off, e, rfl, hblt, hej, hmem, hcs, hin⟩ := C1.at hlt
        obtain ⟨x0, x1, x2, x3⟩ := hcs
        obtain ⟨eq, eM, eA, en, ec, eK, exs⟩ := e
        simp only at x0 x1 x2 x3 hin
        have hdj : ds[i]? = some ⟨eq, eM, exs, eK⟩ := by rw [← HD0.out.1, List.getElem?_map, hej]; rfl
        have hdm : (⟨eq, eM, exs, eK⟩ : CD) ∈ ds := by obtain ⟨h8, h9⟩ := List.getElem?_eq_some_iff.1 hdj; exact h9 ▸ List.getElem_mem h8
        obtain ⟨ok1, ok2, ok3, ok4⟩ := HOK.out _ hdm
        obtain rfl : en = n := HD0.out.2 _ hmem
        have hq1 : (i : Int) < 2 := by omega
        have HN := Lib.hid (fun W (h : IntsAt W eA en exs) => ref_made eq eM eA en ec (by omega) eK exs ok1 ok2 ok3 W h)
        have hst := nf_state (K := eK) ok4 ok1
        have hkd := nf_valid0 (K := eK) ok4 ok1
        have hbd : negBad en ⟨eq, eM, exs, eK⟩ = (decide ((nf eq eM en exs eK).2.2.2.2 = 0) && !validB (nf eq eM en exs eK).2.2.1 (nf eq eM en exs eK).2.2.2.1) := rfl
        have hone : negOne en ⟨eq, eM, exs, eK⟩ = if (nf eq eM en exs eK).2.2.2.2 = 0 then [⟨(nf eq eM en exs eK).1, (nf eq eM en exs eK).2.1, (nf eq eM en exs eK).2.2.1, (nf eq eM en exs eK).2.2.2.1⟩] else if (nf eq eM en exs eK).2.2.2.2 = 1 then [⟨0, 0, zeros en, 0⟩] else [] := rfl
        obtain ⟨r, hr⟩ : ∃ r, nf eq eM en exs eK = r := ⟨_, rfl⟩
        rw [hr] at HN hst hbd hone hkd
        have HJ := Lib.hid hdj
        have b0 := below_alloc wr (.cells #[.int .i64 eq, .int .i64 eM, .slice eA en ec, .int .i64 eK] 56)
        have y1 := hin.step b0
        have L1 := hL.step b0
        have hbr1 := hbr.trans (b0.mono hNs)
        have Z7 := Z6.step b0
        have OZ7 := OZ6.step b0
        clear hdj hdm hr ok1 ok2 ok3 ok4 hej hmem hin b0
        rcases hst with ⟨hs, hX, hM5⟩ | hs | hs
        · rw [if_pos hs] at hone
          have hkd := hkd hs
          cases hvb : validB r.2.2.1 r.2.2.2.1
          · rw [hvb, hs] at hbd
            have HF := Lib.hid (show negFull en ds = true by unfold negFull; rw [any_take HJ.out hbd]; rfl)
            have HV5 := Lib.hid (hkd.trans hvb)
            clear hone hbd hvb hkd
            go_wp2_with (first
              | (go_at_call 81; refine (HN.out _ y1).mono ?_; rintro e w4 ⟨A4, n4, c4, rfl, I4, hb4, O4⟩; have b5 := below_alloc w4 (.cells #[.int .i64 r.1, .int .i64 r.2.1, .slice A4 n4 c4, .int .i64 r.2.2.2.1] 56); replace I4 := I4.step b5; have X7 := CBox.new w4 r.1 r.2.1 A4 n4 c4 r.2.2.2.1; have d0 := X7.c0; have d1 := X7.c1; have d2 := X7.c2; have d3 := X7.c3; have hbr5 := (hbr1.trans (hb4.mono hbr1.size)).trans (b5.mono (Nat.le_trans hbr1.size hb4.size)))
              | (go_at_call 58; refine (ref_cvalid _ _ _ _ _ _ _ _ I4).mono ?_; rintro e w5 ⟨rfl, hb6⟩; rw [HV5.out]; replace hbr5 := hbr5.trans (hb6.mono hbr5.size)))
            have hEnd := below_step hB hbr5
            go_ret2
            rw [HP.out.1, HP.out.2, HF.out]
            exact ⟨_, [], rfl, CL.nil _ _, rfl, (fun e h => nomatch h), hEnd⟩
          · rw [hvb, hs] at hbd
            have HB := Lib.hid (And.intro hone hbd)
            have HV5 := Lib.hid (hkd.trans hvb)
            clear hone hbd hvb hkd
            go_wp2_with (first
              | (go_at_call 81; refine (HN.out _ y1).mono ?_; rintro e w4 ⟨A4, n4, c4, rfl, I4, hb4, O4⟩; obtain rfl : n4 = en := I4.len.symm.trans hX; have b5 := below_alloc w4 (.cells #[.int .i64 r.1, .int .i64 r.2.1, .slice A4 n4 c4, .int .i64 r.2.2.2.1] 56); have R4 := ((FreshRow.ok O4 (Nat.le_trans hbw hbr1.size)).step b5); replace I4 := I4.step b5; have X7 := CBox.new w4 r.1 r.2.1 A4 n4 c4 r.2.2.2.1; have d0 := X7.c0; have d1 := X7.c1; have d2 := X7.c2; have d3 := X7.c3; have L5 := (L1.step hb4).step b5; have hbr5 := (hbr1.trans (hb4.mono hbr1.size)).trans (b5.mono (Nat.le_trans hbr1.size hb4.size)))
              | (go_at_call 58; refine (ref_cvalid _ _ _ _ _ _ _ _ I4).mono ?_; rintro e w5 ⟨rfl, hb6⟩; rw [HV5.out]; have b7 := below_alloc w5 (.cells #[.int .i64 r.1, .int .i64 r.2.1, .slice A4 n4 c4, .int .i64 r.2.2.2.1] 56); have G7 := heap_alloc_new w5 (.cells #[.int .i64 r.1, .int .i64 r.2.1, .slice A4 n4 c4, .int .i64 r.2.2.2.1] 56); replace hbr5 := hbr5.trans (hb6.mono hbr5.size); replace hbr5 := hbr5.trans (b7.mono hbr5.size); have L7 := (L5.step hb6).step b7; have I7 := (I4.step hb6).step b7; have R7 := (R4.step hb6).step b7; replace X7 := X7.step hb6; have d0 := X7.c0; have d1 := X7.c1; have d2 := X7.c2; have d3 := X7.c3)
              | (at_builtin; refine wpList_append_cond rfl _ _ 34 rfl rfl rfl L7 w5.heap.size ⟨r.1, r.2.1, A4, n4, c4, r.2.2.2.1, r.2.2.1⟩ rfl G7 I7 R7 (by omega) hbr5.size ?_; intro g8 cap8 w8 L8 gr8 hb8; replace hbr5 := hbr5.trans hb8))
            go_roundw
            case rel => exact ⟨i + 1, els ++ [⟨r.1, r.2.1, A4, n4, c4, r.2.2.2.1, r.2.2.1⟩], by omega, by go_num, L8, by rw [out_snoc HJ.out, HB.out.1, List.map_append, HD.out.1]; rfl, (fun e he => by
              rcases List.mem_append.1 he with h | h
              · exact HD.out.2.1 e h
              · rw [List.mem_singleton.1 h]), (fun j d hj hjd => by
              rcases Nat.lt_or_eq_of_le (Nat.le_of_lt_succ hj) with h | rfl
              · exact HD.out.2.2 j d h hjd
              · rw [HJ.out] at hjd; cases hjd; exact HB.out.2), hbr5⟩
            case measure => simp [intOf]; omega
        · rw [if_neg (by rw [hs]; decide), if_pos hs] at hone
          rw [hs] at hbd
          have HB := Lib.hid (And.intro hone hbd)
          clear hone hbd hkd
          go_wp2_with (first
            | (go_at_call 81; refine (HN.out _ y1).mono ?_; rintro e w4 ⟨A4, n4, c4, rfl, I4, hb4, O4⟩; have b5 := below_alloc w4 (.cells #[.int .i64 r.1, .int .i64 r.2.1, .slice A4 n4 c4, .int .i64 r.2.2.2.1] 56); have Z8 := (Z7.step hb4).step b5; have OZ8 := (OZ7.step hb4).step b5; have z0 := Z8.c0; have z1 := Z8.c1; have hbr5 := (hbr1.trans (hb4.mono hbr1.size)).trans (b5.mono (Nat.le_trans hbr1.size hb4.size)); have L5 := (L1.step hb4).step b5; have b7 := below_alloc (w4.alloc (.cells #[.int .i64 r.1, .int .i64 r.2.1, .slice A4 n4 c4, .int .i64 r.2.2.2.1] 56)) (.cells #[.int .i64 0, .int .i64 0, .slice (some ⟨w1.heap.size, 0, none⟩) en en, .int .i64 0] 56); have G7 := heap_alloc_new (w4.alloc (.cells #[.int .i64 r.1, .int .i64 r.2.1, .slice A4 n4 c4, .int .i64 r.2.2.2.1] 56)) (.cells #[.int .i64 0, .int .i64 0, .slice (some ⟨w1.heap.size, 0, none⟩) en en, .int .i64 0] 56); simp only [World.size_alloc] at G7; have L7 := L5.step b7; have OZ9 := OZ8.step b7; have I7 := OZ9.ints hsm (zeros_wf en); have R7 := FreshRow.ok (N := w.heap.size) (N' := w.heap.size) (.inr ⟨_, rfl, hbz, OZ9⟩) (Nat.le_refl _); replace hbr5 := hbr5.trans (b7.mono hbr5.size); have hN7 := hbr5.size)
            | (at_builtin; refine wpList_append_cond rfl _ _ 34 rfl rfl rfl L7 (w4.heap.size + 1) ⟨0, 0, some ⟨w1.heap.size, 0, none⟩, en, en, 0, zeros en⟩ rfl G7 I7 R7 (by omega) hN7 ?_; intro g8 cap8 w8 L8 gr8 hb8; replace hbr5 := hbr5.trans hb8))
          go_roundw
          case rel => exact ⟨i + 1, els ++ [⟨0, 0, some ⟨w1.heap.size, 0, none⟩, en, en, 0, zeros en⟩], by omega, by go_num, L8, by rw [out_snoc HJ.out, HB.out.1, List.map_append, HD.out.1]; rfl, (fun e he => by
            rcases List.mem_append.1 he with h | h
            · exact HD.out.2.1 e h
            · rw [List.mem_singleton.1 h]), (fun j d hj hjd => by
            rcases Nat.lt_or_eq_of_le (Nat.le_of_lt_succ hj) with h | rfl
            · exact HD.out.2.2 j d h hjd
            · rw [HJ.out] at hjd; cases hjd; exact HB.out.2), hbr5⟩
          case measure => simp [intOf]; omega
        · rw [if_neg (by rw [hs]; decide), if_neg (by rw [hs]; decide)] at hone
          rw [hs] at hbd
          have HB := Lib.hid (And.intro hone hbd)
          clear hone hbd hkd
          go_wp2_with (go_at_call 81; refine (HN.out _ y1).mono ?_; rintro e w4 ⟨A4, n4, c4, rfl, I4, hb4, O4⟩; have b5 := below_alloc w4 (.cells #[.int .i64 r.1, .int .i64 r.2.1, .slice A4 n4 c4, .int .i64 r.2.2.2.1] 56); have L5 := (L1.step hb4).step b5; have hbr5 := (hbr1.trans (hb4.mono hbr1.size)).trans (b5.mono (Nat.le_trans hbr1.size hb4.size)))
          go_roundw
          case rel => exact ⟨i + 1, els, by omega, by go_num, L5, by rw [out_snoc HJ.out, HB.out.1, List.append_nil]; exact HD.out.1, HD.out.2.1, (fun j d hj hjd => by
            rcases Nat.lt_or_eq_of_le (Nat.le_of_lt_succ hj) with h | rfl
            · exact HD.out.2.2 j d h hjd
            · rw [HJ.out] at hjd; cases hjd; exact HB.out.2), hbr5⟩
          case measure => simp [intOf]; omega
      · have hC := hL.conds.2
        have hall : negOut n (ds.take i) = negOut n ds := by rw [List.take_of_length_le (by rw [HM2.out]; omega)]
        have HA := Lib.hid (And.intro (show ds.any (negBad n) = false from any_none fun j d hj => HD.out.2.2 j d (by rw [HM2.out] at hj; omega)) (show els.length = (negOut n ds).length by rw [← hall, ← HD.out.1, List.length_map]))
        have hge : ¬ ((i : Int) < 2) := by omega
        have hEnd := below_step hB hbr
        have HALL := Lib.hid hall
        clear hall
        by_cases h4 : 400 < els.length
        · have HF := Lib.hid (show negFull n ds = true by unfold negFull; rw [HA.out.1, ← HA.out.2]; simpa using h4)
          have h4i : (400 : Int) < (els.length : Int) := by omega
          go_wp2
          go_ret2
          rw [HP.out.1, HP.out.2, HF.out]
          exact ⟨_, [], rfl, CL.nil _ _, rfl, (fun e h => nomatch h), hEnd⟩
        · have HF := Lib.hid (show negFull n ds = false by unfold negFull; rw [HA.out.1, ← HA.out.2]; simpa using h4)
          have h4i : ¬ (400 : Int) < (els.length : Int) := by omega
          have hL2 := hL.mono (Nat.le_refl _) hbw
          go_wp2
          go_ret2
          rw [HP.out.1, HP.out.2, HF.out]
          exact ⟨_, els, rfl, hL2, by rw [HD.out.1, HALL.out]; rfl, HD.out.2.1, hEnd⟩
end Go.Proofs.YtkgnlloioaobiaaGreat
namespace Go.Proofs.YtkgnlloioaobiaaGreat
open Go.RowKit
set_option maxHeartbeats 16000000 in
set_option maxRecDepth 100000 in
theorem rneg_dv (M : Int) (A : Option Addr) (n c : Nat) (K : Int) (xs : List Int) (hv : validC 2 M xs K = true) (w : World) (hI : IntsAt w A n xs) :
    Calls Tryz.prog 56 #[condV 2 M A n c K] w fun e w' => NegRet w e w' n (if negFull n (oppL 2 M n xs K) = true then [] else negOut n (oppL 2 M n xs K)) (if negFull n (oppL 2 M n xs K) = true then 3 else 0) := by
  have hsm := hI.small
  have hmk := make_ints n hsm
  have hB := below_alloc w (.cells #[.int .i64 2, .int .i64 M, .slice A n c, .int .i64 K] 56)
  have h1 := hI.step hB
  have B1 := CBox.new w 2 M A n c K
  obtain ⟨hok, hlen⟩ := opp_ok (n := n) hv
  have hvb := (validC_kind hv).1
  have hx : Tame xs := fun j => valid_at hvb j
  have hK := fitsB_true.1 (validB_true.1 hvb).2.1
  have h12 : n ≤ 12 := by have := (validB_true.1 hvb).1; have := hI.len; omega
  have hzt : Tame (zeros n) := fun j => by rw [zeros_get]; omega
  have HM := Lib.hid (fun (s t : Int) (hs : -1048576 ≤ s ∧ s ≤ 1048576) (ht : -1048576 ≤ t ∧ t ≤ 1048576) W (B : Option Addr) (g1 : IntsAt W A n xs) (g2 : IntsAt W B n (zeros n)) => ref_mix_o s t A n c K xs B n n 1 (zeros n) W g1 g2 (Nat.le_refl _) hs ht hK (by omega) hx hzt)
  simp only [mulL_mix, Int.mul_one] at HM
  obtain ⟨ds, hds⟩ : ∃ ds, oppL 2 M n xs K = ds := ⟨_, rfl⟩
  have HDS := Lib.hid hds
  rw [hds] at hok hlen ⊢
  have HV := Lib.hid hv
  have HOK := Lib.hid hok
  have HLEN := Lib.hid hlen
  obtain ⟨out, hout⟩ : ∃ o, (if negFull n ds = true then [] else negOut n ds) = o := ⟨_, rfl⟩
  obtain ⟨er, her⟩ : ∃ o : Int, (if negFull n ds = true then 3 else 0) = o := ⟨_, rfl⟩
  rw [hout, her]
  have HP := Lib.hid (And.intro hout.symm her.symm)
  have T1 : True := trivial
  clear hv hI hds hok hlen hout her hx hK hzt hvb
  have HR := Lib.hid (show ds = (List.range (M.toNat - 1)).map fun (r : Nat) => ⟨2, M, mulL n 1 xs, 1 * K + -((r : Int) + 1)⟩ by rw [← HDS.out]; unfold oppL; rw [if_neg (by decide), if_neg (by decide)])
  have hM : 1 ≤ M ∧ M ≤ 512 := by
    rcases (validC_kind HV.out).2 with h | h | h
    · cases h.1
    · cases h.1
    · exact h.2
  go_enter Tryz.func56, Tryz.ntmps56
  go_wp2_with (first
    | (go_at_call 58; have t1 := T1; clear T1 t1; refine (ref_cvalid _ _ _ _ _ _ xs _ h1).mono ?_; rintro e w1 ⟨rfl, hb⟩; rw [HV.out]; have hbz := (below_step hB hb).size; have c2 := (B1.step hb).c2; have b1 := below_alloc w1 (.cells ((zeros n).map (Value.int .i64)).toArray 3); have b2 := below_alloc (w1.alloc (.cells ((zeros n).map (Value.int .i64)).toArray 3)) (.cells #[.slice (some ⟨w1.heap.size, 0, none⟩) n n, .int .i64 0] 54); have b3 := below_alloc ((w1.alloc (.cells ((zeros n).map (Value.int .i64)).toArray 3)).alloc (.cells #[.slice (some ⟨w1.heap.size, 0, none⟩) n n, .int .i64 0] 54)) (.cells #[.slice (some ⟨w1.heap.size, 0, none⟩) n n, .int .i64 1] 54); replace hB := below_step (below_step (below_step (below_step hB hb) b1) b2) b3; replace h1 := (((h1.step hb).step b1).step b2).step b3; replace B1 := (((B1.step hb).step b1).step b2).step b3; have OZ := ((OwnRow.new w1 (zeros n) n (zeros_len n)).step b2).step b3; have Z4 := (LBox.new (w1.alloc (.cells ((zeros n).map (Value.int .i64)).toArray 3)) (some ⟨w1.heap.size, 0, none⟩) n n 0); have z40 := Z4.c0; replace Z4 := Z4.step b3; have Z5 := (LBox.new ((w1.alloc (.cells ((zeros n).map (Value.int .i64)).toArray 3)).alloc (.cells #[.slice (some ⟨w1.heap.size, 0, none⟩) n n, .int .i64 0] 54)) (some ⟨w1.heap.size, 0, none⟩) n n 1); simp only [World.size_alloc] at Z4 Z5 z40; have IZ := OZ.ints hsm (zeros_wf n); have c0 := B1.c0; have c1 := B1.c1; have c22 := B1.c2; have c3 := B1.c3; have z50 := Z5.c0; have z51 := Z5.c1; clear b1 b2 b3 hb))
  generalize hw3 : (((w1.alloc (.cells ((zeros n).map (Value.int .i64)).toArray 3)).alloc (.cells #[.slice (some ⟨w1.heap.size, 0, none⟩) n n, .int .i64 0] 54)).alloc (.cells #[.slice (some ⟨w1.heap.size, 0, none⟩) n n, .int .i64 1] 54)) = w3 at *
  clear hw3
  clear c2 z40 hmk c0 c1 c22 c3 z50 z51
  have l1 := B1.lt
  have l5 := Z5.lt
  go_loopw [6, 7] (fun u v wr => ∃ (i : Nat) (els : List CEl), (i : Int) + 1 ≤ M ∧ v = .int .i64 ((i : Int) + 1) ∧ CL2 w.heap.size w3.heap.size wr u els ∧ els.map CEl.d = (List.range i).map (fun (r : Nat) => (⟨2, M, mulL n 1 xs, 1 * K + -((r : Int) + 1)⟩ : CD)) ∧ (∀ e ∈ els, e.n = n) ∧ Below w3.heap.size w3 wr) (fun _ v _ => (M - intOf v).toNat)
  case atStart => exact ⟨0, [], by omega, by simp, CL2.nil _ _ _, rfl, (fun e h => nomatch h), Below.refl _ _⟩
  case round =>
    obtain ⟨i, els, hi, rfl, hL, hd, hn, hbr⟩ := hrel
    have HLEN2 := Lib.hid (show els.length = i by have := congrArg List.length hd; simpa using this)
    have HD := Lib.hid (And.intro hd hn)
    have S1 := B1.below hbr l1
    have S5 := Z5.below hbr l5
    have c1 := S1.c1
    have c2 := S1.c2
    have c3 := S1.c3
    have z0 := S5.c0
    have z1 := S5.c1
    have hNs := hbr.size
    clear hd hn
    by_cases hlt : (i : Int) + 1 < M
    · obtain ⟨kk, hkk⟩ : ∃ k, 1 * K + -(((i : Nat) : Int) + 1) = k := ⟨_, rfl⟩
      have HKK := Lib.hid hkk
      have HMa := Lib.hid (HM.out 1 (-((i : Int) + 1)) (by omega) (by omega))
      rw [hkk] at HMa
      have hwn : IntKind.i64.wrap (-((i : Int) + 1)) = -((i : Int) + 1) := IntWalk.i64_in _ (by omega)
      have hwp : IntKind.i64.wrap ((i : Int) + 1 + 1) = (i : Int) + 1 + 1 := IntWalk.i64_in _ (by omega)
      clear hkk
      obtain ⟨A0, c00, rfl⟩ := hL.slice
      go_wp2
      have h1r := h1.step (below_step (Below.refl _ w3) hbr).drew
      have izr := IZ.step (below_step (Below.refl _ w3) hbr).drew
      replace hbr := hbr.drew
      replace hL := hL.step (Below.refl _ wr).drew
      have hNs2 : w3.heap.size ≤ wr.drew.heap.size := hNs
      have hNs3 := Nat.le_trans hB.size hNs2
      go_region_held3 (fun W => W.cell? ⟨w.heap.size, 1, none⟩ = some (.int .i64 M) ∧ W.cell? ⟨w.heap.size, 2, none⟩ = some (.slice A n c) ∧ W.cell? ⟨w.heap.size, 3, none⟩ = some (.int .i64 K) ∧ W.cell? ⟨w1.heap.size + 1 + 1, 0, none⟩ = some (.slice (some ⟨w1.heap.size, 0, none⟩) n n) ∧ W.cell? ⟨w1.heap.size + 1 + 1, 1, none⟩ = some (.int .i64 1)) (first | exact ⟨e1, e2, e3, e4, e5⟩ | exact ⟨c1, c2, c3, z0, z1⟩ | exact ⟨g1, g2, g3, g4, g5⟩ | exact ⟨f1, f2, f3, f4, f5⟩ | go_keep)
        (first
          | (go_at_call 67; refine (HMa.out _ _ h1r izr).mono ?_; rintro e w4 ⟨ga, ka, rfl, hga, Ia, Oa, hb⟩; have b5 := below_alloc w4 (.cells #[.int .i64 2, .int .i64 M, .slice (some ⟨ga, 0, none⟩) n ka, .int .i64 kk] 56); have hN4 := Nat.le_trans hNs2 hb.size; replace hbr := hbr.trans (hb.mono hNs2); have Y1 := B1.below hbr l1; have Y5 := Z5.below hbr l5; have e1 := Y1.c1; have e2 := Y1.c2; have e3 := Y1.c3; have e4 := Y5.c0; have e5 := Y5.c1; have hbr5 := hbr.trans (b5.mono hN4); have X1 := B1.below hbr5 l1; have X5 := Z5.below hbr5 l5; have g1 := X1.c1; have g2 := X1.c2; have g3 := X1.c3; have g4 := X5.c0; have g5 := X5.c1; have L5 := (hL.step hb).step b5; have I5 := Ia.step b5; have R5 := (FreshRow.ok (.inr ⟨ga, rfl, hga, Oa⟩) hNs3).step b5; have G5 := heap_alloc_new w4 (.cells #[.int .i64 2, .int .i64 M, .slice (some ⟨ga, 0, none⟩) n ka, .int .i64 kk] 56); have hN5 := Nat.le_trans hN4 b5.size)
          | (refine step_append_cond rfl _ _ 34 rfl rfl rfl L5 w4.heap.size ⟨2, M, some ⟨ga, 0, none⟩, n, ka, kk, mulL n 1 xs⟩ rfl G5 I5 R5 (by have := HLEN2.out; omega) hN5 ?_; intro g6 cap6 w6 L6 gr6 hb6; replace hbr := hbr5.trans hb6; have V1 := B1.below hbr l1; have V5 := Z5.below hbr l5; have f1 := V1.c1; have f2 := V1.c2; have f3 := V1.c3; have f4 := V5.c0; have f5 := V5.c1))
      all_goals
        have HN := Lib.hid (And.intro L6 hbr)
        clear L5 I5 R5 G5 hbr5 hL hN5 e1 e2 e3 e4 e5 g1 g2 g3 g4 g5 f1 f2 f3 f4 f5
        go_wp2
        go_roundw
        case rel => exact ⟨i + 1, els ++ [⟨2, M, some ⟨ga, 0, none⟩, n, ka, kk, mulL n 1 xs⟩], by omega, by simp [hwp], HN.out.1, by rw [List.range_succ, List.map_append, List.map_append, HD.out.1, ← HKK.out]; rfl, (fun e he => by
          rcases List.mem_append.1 he with h | h
          · exact HD.out.2 e h
          · rw [List.mem_singleton.1 h]), HN.out.2⟩
        case measure => simp [intOf, hwp]; omega
    · have hge : ¬ ((i : Int) + 1 < M) := hlt
      obtain ⟨A0, c00, rfl⟩ := hL.slice
      have C0 := hL.conds.2
      have HD0 := Lib.hid (show els.map CEl.d = ds ∧ ∀ e ∈ els, e.n = n from ⟨by rw [HD.out.1, HR.out, show M.toNat - 1 = i by omega], HD.out.2⟩)
      replace hB := below_step hB hbr
      replace B1 := S1
      replace Z4 := Z4.step hbr
      replace OZ := OZ.step hbr
      have Z4' := Z4
      clear hL HD HLEN2 hbr hNs l1 l5
      obtain ⟨m, hm⟩ : ∃ m, els.length = m := ⟨_, rfl⟩
      have HME := Lib.hid hm
      rw [hm] at C0 ⊢
      clear hm hi hlt
      go_wp2
      clear c1 c2 c3 z0 z1 hge S1 S5 h1 IZ Z5
      generalize hw5 : wr = w5 at *
      clear hw5
      generalize i = i0 at *
      generalize els = els0 at *
      
      have HM2 := Lib.hid (show ds.length = m by rw [← HD0.out.1, List.length_map]; exact HME.out)
      have hm1 : m ≤ 511 := by have := HM2.out; have := HLEN.out; omega
      have l1 := B1.lt
      have l4 := Z4.lt
      have lz := OZ.lt
      have hbw := hB.size
      go_loopw [8, 68] (fun u v wr => ∃ (i : Nat) (els : List CEl), i ≤ m ∧ v = .int .i64 i ∧ CL2 w.heap.size w5.heap.size wr u els ∧ els.map CEl.d = negOut n (ds.take i) ∧ (∀ e ∈ els, e.n = n) ∧ (∀ j d, j < i → ds[j]? = some d → negBad n d = false) ∧ Below w5.heap.size w5 wr) (fun _ v _ => m - (intOf v).toNat)
      case atStart => exact ⟨0, [], Nat.zero_le _, rfl, CL2.nil _ _ _, rfl, (fun e h => nomatch h), (fun j d h => absurd h (by omega)), Below.refl _ _⟩
      case round =>
        obtain ⟨i, els, hi, rfl, hL, hd, hn, hbad, hbr⟩ := hrel
        have hlen2 : els.length ≤ i := by
          have h3 := congrArg List.length hd
          rw [List.length_map] at h3
          have h4 := out_len n (ds.take i)
          have h5 := List.length_take_le i ds
          omega
        have HD := Lib.hid (And.intro hd (And.intro hn hbad))
        have Z6 := Z4.below hbr l4
        have OZ6 := OZ.below hbr lz
        have C1 := C0.step hbr
        have hNs := hbr.size
        clear hd hn hbad
        obtain ⟨A9, k9, rfl⟩ := hL.slice
        by_cases hlt : i < m
        · obtain ⟨b, off, e, rfl, hblt, hej, hmem, hcs, hin⟩ := C1.at hlt
          obtain ⟨x0, x1, x2, x3⟩ := hcs
          obtain ⟨eq, eM, eA, en, ec, eK, exs⟩ := e
          simp only at x0 x1 x2 x3 hin
          have hdj : ds[i]? = some ⟨eq, eM, exs, eK⟩ := by rw [← HD0.out.1, List.getElem?_map, hej]; rfl
          have hdm : (⟨eq, eM, exs, eK⟩ : CD) ∈ ds := by obtain ⟨h8, h9⟩ := List.getElem?_eq_some_iff.1 hdj; exact h9 ▸ List.getElem_mem h8
          obtain ⟨ok1, ok2, ok3, ok4⟩ := HOK.out _ hdm
          obtain rfl : en = n := HD0.out.2 _ hmem
          have hq1 : (i : Int) < m := by omega
          have HN := Lib.hid (fun W (h : IntsAt W eA en exs) => ref_made eq eM eA en ec (by omega) eK exs ok1 ok2 ok3 W h)
          have hst := nf_state (K := eK) ok4 ok1
          have hkd := nf_valid0 (K := eK) ok4 ok1
          have hbd : negBad en ⟨eq, eM, exs, eK⟩ = (decide ((nf eq eM en exs eK).2.2.2.2 = 0) && !validB (nf eq eM en exs eK).2.2.1 (nf eq eM en exs eK).2.2.2.1) := rfl
          have hone : negOne en ⟨eq, eM, exs, eK⟩ = if (nf eq eM en exs eK).2.2.2.2 = 0 then [⟨(nf eq eM en exs eK).1, (nf eq eM en exs eK).2.1, (nf eq eM en exs eK).2.2.1, (nf eq eM en exs eK).2.2.2.1⟩] else if (nf eq eM en exs eK).2.2.2.2 = 1 then [⟨0, 0, zeros en, 0⟩] else [] := rfl
          obtain ⟨r, hr⟩ : ∃ r, nf eq eM en exs eK = r := ⟨_, rfl⟩
          rw [hr] at HN hst hbd hone hkd
          have HJ := Lib.hid hdj
          have b0 := below_alloc wr (.cells #[.int .i64 eq, .int .i64 eM, .slice eA en ec, .int .i64 eK] 56)
          have y1 := hin.step b0
          have L1 := hL.step b0
          have hbr1 := hbr.trans (b0.mono hNs)
          have Z7 := Z6.step b0
          have OZ7 := OZ6.step b0
          clear hdj hdm hr ok1 ok2 ok3 ok4 hej hmem hin b0
          rcases hst with ⟨hs, hX, hM5⟩ | hs | hs
          · rw [if_pos hs] at hone
            have hkd := hkd hs
            cases hvb : validB r.2.2.1 r.2.2.2.1
            · rw [hvb, hs] at hbd
              have HF := Lib.hid (show negFull en ds = true by unfold negFull; rw [any_take HJ.out hbd]; rfl)
              have HV5 := Lib.hid (hkd.trans hvb)
              clear hone hbd hvb hkd
              go_wp2_with (first
                | (go_at_call 81; refine (HN.out _ y1).mono ?_; rintro e w4 ⟨A4, n4, c4, rfl, I4, hb4, O4⟩; have b5 := below_alloc w4 (.cells #[.int .i64 r.1, .int .i64 r.2.1, .slice A4 n4 c4, .int .i64 r.2.2.2.1] 56); replace I4 := I4.step b5; have X7 := CBox.new w4 r.1 r.2.1 A4 n4 c4 r.2.2.2.1; have d0 := X7.c0; have d1 := X7.c1; have d2 := X7.c2; have d3 := X7.c3; have hbr5 := (hbr1.trans (hb4.mono hbr1.size)).trans (b5.mono (Nat.le_trans hbr1.size hb4.size)))
                | (go_at_call 58; refine (ref_cvalid _ _ _ _ _ _ _ _ I4).mono ?_; rintro e w5 ⟨rfl, hb6⟩; rw [HV5.out]; replace hbr5 := hbr5.trans (hb6.mono hbr5.size)))
              have hEnd := below_step hB hbr5
              go_ret2
              rw [HP.out.1, HP.out.2, HF.out]
              exact ⟨_, [], rfl, CL.nil _ _, rfl, (fun e h => nomatch h), hEnd⟩
            · rw [hvb, hs] at hbd
              have HB := Lib.hid (And.intro hone hbd)
              have HV5 := Lib.hid (hkd.trans hvb)
              clear hone hbd hvb hkd
              go_wp2_with (first
                | (go_at_call 81; refine (HN.out _ y1).mono ?_; rintro e w4 ⟨A4, n4, c4, rfl, I4, hb4, O4⟩; obtain rfl : n4 = en := I4.len.symm.trans hX; have b5 := below_alloc w4 (.cells #[.int .i64 r.1, .int .i64 r.2.1, .slice A4 n4 c4, .int .i64 r.2.2.2.1] 56); have R4 := ((FreshRow.ok O4 (Nat.le_trans hbw hbr1.size)).step b5); replace I4 := I4.step b5; have X7 := CBox.new w4 r.1 r.2.1 A4 n4 c4 r.2.2.2.1; have d0 := X7.c0; have d1 := X7.c1; have d2 := X7.c2; have d3 := X7.c3; have L5 := (L1.step hb4).step b5; have hbr5 := (hbr1.trans (hb4.mono hbr1.size)).trans (b5.mono (Nat.le_trans hbr1.size hb4.size)))
                | (go_at_call 58; refine (ref_cvalid _ _ _ _ _ _ _ _ I4).mono ?_; rintro e w5 ⟨rfl, hb6⟩; rw [HV5.out]; have b7 := below_alloc w5 (.cells #[.int .i64 r.1, .int .i64 r.2.1, .slice A4 n4 c4, .int .i64 r.2.2.2.1] 56); have G7 := heap_alloc_new w5 (.cells #[.int .i64 r.1, .int .i64 r.2.1, .slice A4 n4 c4, .int .i64 r.2.2.2.1] 56); replace hbr5 := hbr5.trans (hb6.mono hbr5.size); replace hbr5 := hbr5.trans (b7.mono hbr5.size); have L7 := (L5.step hb6).step b7; have I7 := (I4.step hb6).step b7; have R7 := (R4.step hb6).step b7; replace X7 := X7.step hb6; have d0 := X7.c0; have d1 := X7.c1; have d2 := X7.c2; have d3 := X7.c3)
                | (at_builtin; refine wpList_append_cond rfl _ _ 34 rfl rfl rfl L7 w5.heap.size ⟨r.1, r.2.1, A4, n4, c4, r.2.2.2.1, r.2.2.1⟩ rfl G7 I7 R7 (by omega) hbr5.size ?_; intro g8 cap8 w8 L8 gr8 hb8; replace hbr5 := hbr5.trans hb8))
              go_roundw
              case rel => exact ⟨i + 1, els ++ [⟨r.1, r.2.1, A4, n4, c4, r.2.2.2.1, r.2.2.1⟩], by omega, by go_num, L8, by rw [out_snoc HJ.out, HB.out.1, List.map_append, HD.out.1]; rfl, (fun e he => by
                rcases List.mem_append.1 he with h | h
                · exact HD.out.2.1 e h
                · rw [List.mem_singleton.1 h]), (fun j d hj hjd => by
                rcases Nat.lt_or_eq_of_le (Nat.le_of_lt_succ hj) with h | rfl
                · exact HD.out.2.2 j d h hjd
                · rw [HJ.out] at hjd; cases hjd; exact HB.out.2), hbr5⟩
              case measure => simp [intOf]; omega
          · rw [if_neg (by rw [hs]; decide), if_pos hs] at hone
            rw [hs] at hbd
            have HB := Lib.hid (And.intro hone hbd)
            clear hone hbd hkd
            go_wp2_with (first
              | (go_at_call 81; refine (HN.out _ y1).mono ?_; rintro e w4 ⟨A4, n4, c4, rfl, I4, hb4, O4⟩; have b5 := below_alloc w4 (.cells #[.int .i64 r.1, .int .i64 r.2.1, .slice A4 n4 c4, .int .i64 r.2.2.2.1] 56); have Z8 := (Z7.step hb4).step b5; have OZ8 := (OZ7.step hb4).step b5; have z0 := Z8.c0; have z1 := Z8.c1; have hbr5 := (hbr1.trans (hb4.mono hbr1.size)).trans (b5.mono (Nat.le_trans hbr1.size hb4.size)); have L5 := (L1.step hb4).step b5; have b7 := below_alloc (w4.alloc (.cells #[.int .i64 r.1, .int .i64 r.2.1, .slice A4 n4 c4, .int .i64 r.2.2.2.1] 56)) (.cells #[.int .i64 0, .int .i64 0, .slice (some ⟨w1.heap.size, 0, none⟩) en en, .int .i64 0] 56); have G7 := heap_alloc_new (w4.alloc (.cells #[.int .i64 r.1, .int .i64 r.2.1, .slice A4 n4 c4, .int .i64 r.2.2.2.1] 56)) (.cells #[.int .i64 0, .int .i64 0, .slice (some ⟨w1.heap.size, 0, none⟩) en en, .int .i64 0] 56); simp only [World.size_alloc] at G7; have L7 := L5.step b7; have OZ9 := OZ8.step b7; have I7 := OZ9.ints hsm (zeros_wf en); have R7 := FreshRow.ok (N := w.heap.size) (N' := w.heap.size) (.inr ⟨_, rfl, hbz, OZ9⟩) (Nat.le_refl _); replace hbr5 := hbr5.trans (b7.mono hbr5.size); have hN7 := hbr5.size)
              | (at_builtin; refine wpList_append_cond rfl _ _ 34 rfl rfl rfl L7 (w4.heap.size + 1) ⟨0, 0, some ⟨w1.heap.size, 0, none⟩, en, en, 0, zeros en⟩ rfl G7 I7 R7 (by omega) hN7 ?_; intro g8 cap8 w8 L8 gr8 hb8; replace hbr5 := hbr5.trans hb8))
            go_roundw
            case rel => exact ⟨i + 1, els ++ [⟨0, 0, some ⟨w1.heap.size, 0, none⟩, en, en, 0, zeros en⟩], by omega, by go_num, L8, by rw [out_snoc HJ.out, HB.out.1, List.map_append, HD.out.1]; rfl, (fun e he => by
              rcases List.mem_append.1 he with h | h
              · exact HD.out.2.1 e h
              · rw [List.mem_singleton.1 h]), (fun j d hj hjd => by
              rcases Nat.lt_or_eq_of_le (Nat.le_of_lt_succ hj) with h | rfl
              · exact HD.out.2.2 j d h hjd
              · rw [HJ.out] at hjd; cases hjd; exact HB.out.2), hbr5⟩
            case measure => simp [intOf]; omega
          · rw [if_neg (by rw [hs]; decide), if_neg (by rw [hs]; decide)] at hone
            rw [hs] at hbd
            have HB := Lib.hid (And.intro hone hbd)
            clear hone hbd hkd
            go_wp2_with (go_at_call 81; refine (HN.out _ y1).mono ?_; rintro e w4 ⟨A4, n4, c4, rfl, I4, hb4, O4⟩; have b5 := below_alloc w4 (.cells #[.int .i64 r.1, .int .i64 r.2.1, .slice A4 n4 c4, .int .i64 r.2.2.2.1] 56); have L5 := (L1.step hb4).step b5; have hbr5 := (hbr1.trans (hb4.mono hbr1.size)).trans (b5.mono (Nat.le_trans hbr1.size hb4.size)))
            go_roundw
            case rel => exact ⟨i + 1, els, by omega, by go_num, L5, by rw [out_snoc HJ.out, HB.out.1, List.append_nil]; exact HD.out.1, HD.out.2.1, (fun j d hj hjd => by
              rcases Nat.lt_or_eq_of_le (Nat.le_of_lt_succ hj) with h | rfl
              · exact HD.out.2.2 j d h hjd
              · rw [HJ.out] at hjd; cases hjd; exact HB.out.2), hbr5⟩
            case measure => simp [intOf]; omega
        · have hC := hL.conds.2
          have hall : negOut n (ds.take i) = negOut n ds := by rw [List.take_of_length_le (by rw [HM2.out]; omega)]
          have HA := Lib.hid (And.intro (show ds.any (negBad n) = false from any_none fun j d hj => HD.out.2.2 j d (by rw [HM2.out] at hj; omega)) (show els.length = (negOut n ds).length by rw [← hall, ← HD.out.1, List.length_map]))
          have hge : ¬ ((i : Int) < m) := by omega
          have hEnd := below_step hB hbr
          have HALL := Lib.hid hall
          clear hall
          by_cases h4 : 400 < els.length
          · have HF := Lib.hid (show negFull n ds = true by unfold negFull; rw [HA.out.1, ← HA.out.2]; simpa using h4)
            have h4i : (400 : Int) < (els.length : Int) := by omega
            go_wp2
            go_ret2
            rw [HP.out.1, HP.out.2, HF.out]
            exact ⟨_, [], rfl, CL.nil _ _, rfl, (fun e h => nomatch h), hEnd⟩
          · have HF := Lib.hid (show negFull n ds = false by unfold negFull; rw [HA.out.1, ← HA.out.2]; simpa using h4)
            have h4i : ¬ (400 : Int) < (els.length : Int) := by omega
            have hL2 := hL.mono (Nat.le_refl _) hbw
            go_wp2
            go_ret2
            rw [HP.out.1, HP.out.2, HF.out]
            exact ⟨_, els, rfl, hL2, by rw [HD.out.1, HALL.out]; rfl, HD.out.2.1, hEnd⟩
end Go.Proofs.YtkgnlloioaobiaaGreat
namespace Go.Proofs.YtkgnlloioaobiaaGreat
open Go.RowKit
theorem rneg_bad (q M : Int) (A : Option Addr) (n c : Nat) (K : Int) (xs : List Int) (hv : validC q M xs K = false) (w : World) (hI : IntsAt w A n xs) :
    Calls Tryz.prog 56 #[condV q M A n c K] w fun e w' => NegRet w e w' n [] 1 := by
  have hB := below_alloc w (.cells #[.int .i64 q, .int .i64 M, .slice A n c, .int .i64 K] 56)
  have h1 := hI.step hB
  have HV := Lib.hid hv
  clear hv
  go_enter Tryz.func56, Tryz.ntmps56
  go_wp2_with (go_at_call 58; refine (ref_cvalid _ _ _ _ _ _ xs _ h1).mono ?_; rintro e w1 ⟨rfl, hb⟩; rw [HV.out]; replace hB := below_step hB hb)
  go_ret2
  exact ⟨_, [], rfl, CL.nil _ _, rfl, (fun e h => nomatch h), hB⟩
theorem ref_neg (q M : Int) (A : Option Addr) (n c : Nat) (K : Int) (xs : List Int) (w : World) (hI : IntsAt w A n xs) :
    Calls Tryz.prog 56 #[condV q M A n c K] w fun e w' => NegRet w e w' n (negL q M n xs K) (negE q M n xs K) := by
  unfold negL negE
  cases hv : validC q M xs K
  · exact rneg_bad q M A n c K xs hv w hI
  · have hk := (validC_kind hv).2
    rcases hk with ⟨rfl, _⟩ | ⟨rfl, _⟩ | ⟨rfl, _⟩
    · exact rneg_ge M A n c K xs hv w hI
    · exact rneg_eq M A n c K xs hv w hI
    · exact rneg_dv M A n c K xs hv w hI
end Go.Proofs.YtkgnlloioaobiaaGreat
namespace Go.Proofs.YtkgnlloioaobiaaGreat
open Go.RowKit
set_option maxHeartbeats 4000000 in
theorem ref_boths (D : Int) (A : Option Addr) (n c : Nat) (ps : List PEl) (D' : Int) (A' : Option Addr) (n' c' : Nat) (ps' : List PEl) (w : World) (h : PiecesAt w A n ps) (h' : PiecesAt w A' n' ps') :
    Calls Tryz.prog 50 #[setV D A n c, setV D' A' n' c'] w fun e w' => e = .returned (.int .i64 (bothE D ps D' ps')) ∧ Below w.heap.size w w' := by
  have B1 := below_step (below_alloc w (.cells #[.int .i64 D, .slice A n c] 24)) (below_alloc _ (.cells #[.int .i64 D', .slice A' n' c'] 24))
  have X1 := (SetBox.new w D A n c).alloc (.cells #[.int .i64 D', .slice A' n' c'] 24)
  have X2 := SetBox.new (w.alloc (.cells #[.int .i64 D, .slice A n c] 24)) D' A' n' c'
  rw [World.size_alloc] at X2
  have P1 := h.step B1
  have P2 := h'.step B1
  have c0 := X1.c0
  have c1 := X1.c1
  have d0 := X2.c0
  have d1 := X2.c1
  have T1 : True := trivial
  obtain ⟨v1, hv1⟩ : ∃ v, validS D ps = v := ⟨_, rfl⟩
  obtain ⟨v2, hv2⟩ : ∃ v, validS D' ps' = v := ⟨_, rfl⟩
  have HV1 := Lib.hid hv1
  have HV2 := Lib.hid hv2
  obtain ⟨er, her⟩ : ∃ er, bothE D ps D' ps' = er := ⟨_, rfl⟩
  rw [her]
  have HE := Lib.hid her
  clear hv1 hv2 her h h'
  cases v1
  · have HR := Lib.hid (show er = 1 by rw [← HE.out]; exact both_inv (.inl HV1.out))
    go_enter Tryz.func50, Tryz.ntmps50
    go_wp2_with (first | (go_at_call 46; have t1 := T1; clear T1 t1; refine (ref_svalid D A n c ps _ P1).mono ?_; rintro e w1 ⟨rfl, hb⟩; rw [HV1.out]; replace B1 := below_step B1 hb; replace P2 := P2.step hb; replace X1 := X1.step hb; replace X2 := X2.step hb; clear c0 c1 d0 d1; have c0 := X1.c0; have c1 := X1.c1; have d0 := X2.c0; have d1 := X2.c1))
    go_ret
    exact ⟨ret1 (vint HR.out.symm), B1⟩
  · cases v2
    · have HR := Lib.hid (show er = 1 by rw [← HE.out]; exact both_inv (.inr HV2.out))
      go_enter Tryz.func50, Tryz.ntmps50
      go_wp2_with (first | (go_at_call 46; have t1 := T1; clear T1 t1; refine (ref_svalid D A n c ps _ P1).mono ?_; rintro e w1 ⟨rfl, hb⟩; rw [HV1.out]; replace B1 := below_step B1 hb; replace P2 := P2.step hb; replace X1 := X1.step hb; replace X2 := X2.step hb; clear c0 c1 d0 d1; have c0 := X1.c0; have c1 := X1.c1; have d0 := X2.c0; have d1 := X2.c1) | (go_at_call 46; refine (ref_svalid D' A' n' c' ps' _ P2).mono ?_; rintro e w2 ⟨rfl, hb⟩; rw [HV2.out]; replace B1 := below_step B1 hb; replace X1 := X1.step hb; replace X2 := X2.step hb; clear c0 c1 d0 d1; have c0 := X1.c0; have c1 := X1.c1; have d0 := X2.c0; have d1 := X2.c1))
      go_ret
      exact ⟨ret1 (vint HR.out.symm), B1⟩
    · by_cases hd : D = D'
      · have HR := Lib.hid (show er = 0 by rw [← HE.out]; unfold bothE; rw [if_pos ⟨HV1.out, HV2.out⟩, if_pos hd])
        have q1 : (D != D') = false := by simpa using hd
        have q2 : (D == D') = true := by simpa using hd
        clear hd
        go_enter Tryz.func50, Tryz.ntmps50
        go_wp2_with (first | (go_at_call 46; have t1 := T1; clear T1 t1; refine (ref_svalid D A n c ps _ P1).mono ?_; rintro e w1 ⟨rfl, hb⟩; rw [HV1.out]; replace B1 := below_step B1 hb; replace P2 := P2.step hb; replace X1 := X1.step hb; replace X2 := X2.step hb; clear c0 c1 d0 d1; have c0 := X1.c0; have c1 := X1.c1; have d0 := X2.c0; have d1 := X2.c1) | (go_at_call 46; refine (ref_svalid D' A' n' c' ps' _ P2).mono ?_; rintro e w2 ⟨rfl, hb⟩; rw [HV2.out]; replace B1 := below_step B1 hb; replace X1 := X1.step hb; replace X2 := X2.step hb; clear c0 c1 d0 d1; have c0 := X1.c0; have c1 := X1.c1; have d0 := X2.c0; have d1 := X2.c1))
        go_ret
        exact ⟨ret1 (vint HR.out.symm), B1⟩
      · have HR := Lib.hid (show er = 2 by rw [← HE.out]; unfold bothE; rw [if_pos ⟨HV1.out, HV2.out⟩, if_neg hd])
        have q1 : (D != D') = true := by simpa using hd
        have q2 : (D == D') = false := by simpa using hd
        clear hd
        go_enter Tryz.func50, Tryz.ntmps50
        go_wp2_with (first | (go_at_call 46; have t1 := T1; clear T1 t1; refine (ref_svalid D A n c ps _ P1).mono ?_; rintro e w1 ⟨rfl, hb⟩; rw [HV1.out]; replace B1 := below_step B1 hb; replace P2 := P2.step hb; replace X1 := X1.step hb; replace X2 := X2.step hb; clear c0 c1 d0 d1; have c0 := X1.c0; have c1 := X1.c1; have d0 := X2.c0; have d1 := X2.c1) | (go_at_call 46; refine (ref_svalid D' A' n' c' ps' _ P2).mono ?_; rintro e w2 ⟨rfl, hb⟩; rw [HV2.out]; replace B1 := below_step B1 hb; replace X1 := X1.step hb; replace X2 := X2.step hb; clear c0 c1 d0 d1; have c0 := X1.c0; have c1 := X1.c1; have d0 := X2.c0; have d1 := X2.c1))
        go_ret
        exact ⟨ret1 (vint HR.out.symm), B1⟩
end Go.Proofs.YtkgnlloioaobiaaGreat
namespace Go.Proofs.YtkgnlloioaobiaaGreat
open Go.RowKit
theorem open_idem {n : Nat} {z d : CD} (hk : KindOk z.q z.M) (hl : z.xs.length = n) (hd : d ∈ openD n z) : openD n d = [d] ∧ neverD n d = false := by
  unfold openD at hd
  split at hd
  · rename_i hs
    have hd := List.mem_singleton.1 hd
    have h := nf_idem (K := z.K) hl hk hs
    have e : nfD n d = nfD n z := by rw [hd]; exact h.2
    unfold openD neverD
    rw [e]
    refine ⟨by rw [if_pos hs, hd], by rw [hs]; rfl⟩
  · cases hd
theorem open_unit {n : Nat} {xs : List Int} {K : Int} (hl : xs.length = n) (hg : gcdA 0 xs = 1) (h0 : 0 < leadI xs) : openD n ⟨1, 0, xs, K⟩ = [⟨1, 0, xs, K⟩] ∧ neverD n ⟨1, 0, xs, K⟩ = false := by
  have e : nfD n ⟨1, 0, xs, K⟩ = (1, 0, xs, K, 0) := by
    show nf 1 0 n xs K = _
    rw [nf_unit hl hg]
    have hs : signI xs = 1 := by unfold signI; rw [if_neg (by omega)]
    rw [hs, sgn_one, Int.one_mul]
  unfold openD neverD
  rw [e]
  exact ⟨rfl, rfl⟩
theorem flat_self {n : Nat} : ∀ u : List CD, (∀ d ∈ u, openD n d = [d]) → normOut n u = u
  | [], _ => rfl
  | d :: u, h => by
    have ih := flat_self u fun x hx => h x (List.mem_cons_of_mem _ hx)
    unfold normOut at ih ⊢
    rw [List.flatMap_cons, h d (List.mem_cons_self ..), ih]
    rfl
theorem piece_idem {n : Nat} {ds u : List CD} (hk : ∀ d ∈ ds, KindOk d.q d.M ∧ d.xs.length = n) (hN : ∀ z ∈ normOut n ds, NormD n z) (h : pieceD n ds = (u, false, 0)) : pieceD n u = (u, false, 0) := by
  have hm : ∀ d, d ∈ sortD (normOut n ds) ↔ d ∈ normOut n ds := fun d => (sortL_perm leD (normOut n ds)).mem_iff (a := d)
  have hE0 : ∀ d ∈ normOut n ds, NormE n d ∧ openD n d = [d] ∧ neverD n d = false := fun d hd => by
    obtain ⟨z, hz, h2⟩ := List.mem_flatMap.1 hd
    exact ⟨open_norm (hk z hz).1 (hk z hz).2 h2 (hN d hd), open_idem (hk z hz).1 (hk z hz).2 h2⟩
  have hE : ∀ d ∈ sortD (normOut n ds), NormE n d := fun d hd => (hE0 d ((hm d).1 hd)).1
  have hs : Sorted (sortD (normOut n ds)) := sorted_sort fun d hd => (hN d hd).len
  have hpv := (piece_valid hk).1
  rw [h] at hpv
  unfold pieceD at h
  split at h
  · cases h
  · rename_i hv
    split at h
    · cases h
    · rename_i r hst
      split at h
      · cases h
      · rename_i hfl
        cases h
        have hfit : normFits n ds = true := by
          cases hf : normFits n ds
          · exact absurd (.inl hf) hfl
          · rfl
        have hlen : ¬ 96 < u.length := fun h9 => hfl (.inr h9)
        obtain ⟨h1, h2, h3⟩ := settle_some hm hs hE hst
        have hnv : ¬ VoidP (normOut n ds) (gesD (sortD (normOut n ds))) := fun hV => by
          rw [(settle_none hm hs hE).2 hV] at hst
          cases hst
        have hL := ges_least hm hs hE
        generalize gesD (sortD (normOut n ds)) = L at h1 hnv hL
        generalize hout : normOut n ds = outs at *
        have hLg : ∀ d ∈ L, gcdA 0 d.xs = 1 ∧ d.xs.length = n := fun d hd => ⟨(hE0 d (hL.1 d hd).1).1.ge (hL.1 d hd).2, (hN d (hL.1 d hd).1).len⟩
        have hself : ∀ d ∈ u, openD n d = [d] ∧ neverD n d = false := fun d hd => by
          rcases (h1 d).1 hd with (h | ⟨c, hc, _, hl, rfl⟩) | h | h
          · exact (hE0 d h.1).2
          · exact open_unit (hLg c hc).2 (hLg c hc).1 hl
          · exact (hE0 d (hL.1 d h.1).1).2
          · exact (hE0 d h.1).2
        have hfits : ∀ d ∈ u, fitD d = true := fun d hd => by
          have key : ∀ c ∈ outs, fitD c = true := fun c hc => by
            unfold normFits at hfit
            rw [hout] at hfit
            exact List.all_eq_true.1 hfit c hc
          rcases (h1 d).1 hd with (h | ⟨c, hc, _, hl, rfl⟩) | h | h
          · exact key d h.1
          · exact key c (hL.1 c hc).1
          · exact key d (hL.1 d h.1).1
          · exact key d h.1
        have hflat := flat_self u fun d hd => (hself d hd).1
        have hkind : ∀ d ∈ u, KindOk d.q d.M ∧ d.xs.length = n := fun d hd => (hpv d hd).kind
        have q1 : ∀ t, EqP outs L t → t.q = 1 := fun t ht => ht.elim (fun h => h.2) fun ⟨c, _, _, _, e⟩ => by rw [e]
        have r0 : ∀ d ∈ u, d.q = 0 → RestP (EqP outs L) L d := fun d hd hq => by
          rcases (h1 d).1 hd with h | h | h
          · have := q1 d h; omega
          · exact h
          · omega
        have l0 : ∀ d ∈ u.filter (fun d => d.q == 0), d ∈ u ∧ d.q = 0 ∧ RestP (EqP outs L) L d := fun d hd => by
          have h4 := List.mem_filter.1 hd
          have hq : d.q = 0 := by simpa using h4.2
          exact ⟨h4.1, hq, r0 d h4.1 hq⟩
        have ng : ∀ d ∈ u.filter (fun d => d.q == 0), ¬ GoneP (u.filter fun d => d.q == 0) d := fun d hd ⟨e, he, hx, hK⟩ => (l0 d hd).2.2.2.1 ⟨e, (l0 e he).2.2.1, hx, hK⟩
        have hEq : EqP u (u.filter fun d => d.q == 0) = EqP outs L := by
          funext t
          refine propext ⟨fun ht => ?_, fun ht => .inl ⟨(h1 t).2 (.inl ht), q1 t ht⟩⟩
          rcases ht with ⟨htu, hq⟩ | ⟨c, hc, hg, _⟩
          · rcases (h1 t).1 htu with h | h | h
            · exact h
            · have := (hL.1 t h.1).2; omega
            · omega
          · exact absurd hg (ng c hc)
        have hLO : LeastOf u (u.filter fun d => d.q == 0) := by
          refine ⟨fun a ha => ⟨(l0 a ha).1, (l0 a ha).2.1⟩, fun c hc hq => ⟨c, List.mem_filter.2 ⟨hc, by simp [hq]⟩, rfl, Int.le_refl _⟩, fun i j a b ha hb hx => ?_⟩
          have ma := (l0 a (List.mem_of_getElem? ha)).2.2.1
          have mb := (l0 b (List.mem_of_getElem? hb)).2.2.1
          obtain ⟨i1, g1, e1⟩ := List.getElem_of_mem ma
          obtain ⟨j1, g2, e2⟩ := List.getElem_of_mem mb
          have hij := hL.2.2 i1 j1 a b (by rw [List.getElem?_eq_getElem g1, e1]) (by rw [List.getElem?_eq_getElem g2, e2]) hx
          subst hij
          have hab : a = b := e1.symm.trans e2
          subst hab
          obtain ⟨k1, d1⟩ := List.getElem?_eq_some_iff.1 ha
          obtain ⟨k2, d2⟩ := List.getElem?_eq_some_iff.1 hb
          have hp := List.pairwise_iff_getElem.1 (h2.filter fun d => d.q == 0)
          have self0 : ordL (keyD a) (keyD a) = 0 := (lex_zero _ _ rfl).2 rfl
          rcases Nat.lt_trichotomy i j with hlt | heq | hlt
          · have := hp i j k1 k2 hlt
            rw [d1, d2] at this
            omega
          · exact heq
          · have := hp j i k2 k1 hlt
            rw [d1, d2] at this
            omega
        have hVoid : ¬ VoidP u (u.filter fun d => d.q == 0) := by
          rintro (⟨d, hd, e, he, hx, hK⟩ | hb | ⟨c, hc, _, e, he, _⟩)
          · exact hnv (.inl ⟨d, (l0 d hd).2.2.1, e, (l0 e he).2.2.1, hx, hK⟩)
          · rw [hEq] at hb
            exact hnv (.inr (.inl hb))
          · rw [hEq] at he
            exact (l0 c hc).2.2.2.2 ⟨e, he⟩
        have hOut : ∀ d, d ∈ u ↔ OutP u (u.filter fun d => d.q == 0) d := fun d => by
          unfold OutP
          rw [hEq]
          constructor
          · intro hd
            rcases (h1 d).1 hd with h | h | h
            · exact .inl h
            · have hf : d ∈ u.filter fun d => d.q == 0 := List.mem_filter.2 ⟨hd, by simp [(hL.1 d h.1).2]⟩
              exact .inr (.inl ⟨hf, ng d hf, h.2.2⟩)
            · exact .inr (.inr ⟨hd, h.2⟩)
          · rintro (h | h | h)
            · exact (h1 d).2 (.inl h)
            · exact (l0 d h.1).1
            · exact h.1
        have hnvo : normVoid n u = false := by
          unfold normVoid
          rw [Bool.eq_false_iff]
          intro h9
          obtain ⟨d, hd, h8⟩ := List.any_eq_true.1 h9
          rw [(hself d hd).2] at h8
          cases h8
        have hnf : normFits n u = true := by
          unfold normFits
          rw [hflat]
          exact List.all_eq_true.2 hfits
        have h9 := piece_ref_some (R := u) (L := u.filter fun d => d.q == 0) hkind (by rw [hflat]; exact h3) hnvo (by rw [hflat]; exact hLO) (by rw [hflat]; exact hVoid) (by rw [hflat]; exact hOut) h2
        rw [h9, if_neg (by rw [hnf]; simp [hlen])]
end Go.Proofs.YtkgnlloioaobiaaGreat
namespace Go.Proofs.YtkgnlloioaobiaaGreat
open Go.RowKit
def cutL (n : Nat) (p c : List CD) (i : Nat) : List (List CD) :=
  match c[i]? with
  | some d => (negL d.q d.M n d.xs d.K).map fun z => p ++ (c.take i ++ [z])
  | none => []
def cutBad (n : Nat) (c : List CD) (i : Nat) : Bool :=
  match c[i]? with
  | some d => decide (negE d.q d.M n d.xs d.K ≠ 0)
  | none => false
def withL (n : Nat) (c p : List CD) : List (List CD) := if (pieceD n (p ++ c)).2.1 = true then [p] else (List.range c.length).flatMap (cutL n p c)
def withBad (n : Nat) (c p : List CD) : Bool := decide ((pieceD n (p ++ c)).2.2 ≠ 0) || ((pieceD n (p ++ c)).2.1 == false && (List.range c.length).any (cutBad n c))
theorem cut_ok {n : Nat} {p c : List CD} {us : List (List CD)} {i : Nat} (h : cutBad n c i = false) : cutOne n p c us i = foldE (addD n) (cutL n p c i) us := by
  unfold cutBad at h
  unfold cutOne cutL
  cases hc : c[i]? with
  | none => rfl
  | some d =>
    rw [hc] at h
    simp only at h ⊢
    rw [if_neg (by simpa using h)]
    unfold foldE
    rw [List.foldl_map]
    rfl
theorem neg_errs {q M : Int} {n : Nat} {xs : List Int} {K : Int} (hv : validC q M xs K = true) : negE q M n xs K = 0 ∨ negE q M n xs K = 3 := by
  unfold negE
  rw [if_pos hv]
  split
  · exact .inr rfl
  · exact .inl rfl
theorem cut_bad {n : Nat} {p c : List CD} {us : List (List CD)} {i : Nat} (hc : ∀ d ∈ c, ValidD n d) (h : cutBad n c i = true) : (cutOne n p c us i).1 = 3 := by
  unfold cutBad at h
  unfold cutOne
  cases hci : c[i]? with
  | none => rw [hci] at h; cases h
  | some d =>
    rw [hci] at h
    simp only at h ⊢
    have h0 : negE d.q d.M n d.xs d.K ≠ 0 := by simpa using h
    rw [if_pos h0]
    exact (neg_errs (hc d (List.mem_of_getElem? hci)).1).resolve_left h0
section
variable {α : Type} {f g : List (List CD) → α → Int × List (List CD)}
theorem fold_app {l l' : List α} {us : List (List CD)} : foldE f (l ++ l') us = if (foldE f l us).1 ≠ 0 then foldE f l us else foldE f l' (foldE f l us).2 := by
  split
  · rename_i h; exact fold_stuck h
  · rename_i h
    have h0 : (foldE f l us).1 = 0 := by simpa using h
    unfold foldE at h0 ⊢
    rw [List.foldl_append]
    congr 1
    exact Prod.ext h0 rfl
theorem fold_flat {β : Type} {h : List (List CD) → β → Int × List (List CD)} {k : α → List β} : ∀ (l : List α), (∀ x ∈ l, ∀ us, f us x = foldE h (k x) us) → ∀ us, foldE f l us = foldE h (l.flatMap k) us
  | [], _, us => rfl
  | x :: l, hl, us => by
    have ih := fold_flat l fun y hy => hl y (List.mem_cons_of_mem _ hy)
    rw [List.flatMap_cons, fold_app, ← hl x (List.mem_cons_self ..) us]
    unfold foldE at ih ⊢
    rw [List.foldl_cons]
    have e : stick f (0, us) x = f us x := by unfold stick; exact if_neg (by simp)
    rw [e]
    split
    · rename_i h0; exact stick_stuck h0 l
    · rename_i h0
      have h0 : (f us x).1 = 0 := by simpa using h0
      rw [← ih]
      congr 1
      exact Prod.ext h0 rfl
theorem fold_three {l : List α} {x : α} (hx : x ∈ l) (hf : ∀ us, (f us x).1 = 3) (he : ∀ y ∈ l, ∀ us, (f us y).1 = 0 ∨ (f us y).1 = 3) : ∀ us, (foldE f l us).1 = 3 := by
  induction l with
  | nil => cases hx
  | cons a l ih =>
    intro us
    unfold foldE
    rw [List.foldl_cons]
    have e : stick f (0, us) a = f us a := by unfold stick; exact if_neg (by simp)
    rw [e]
    by_cases h0 : (f us a).1 = 0
    · rcases List.mem_cons.1 hx with rfl | hx
      · rw [hf] at h0; cases h0
      · have h1 := ih hx (fun y hy => he y (List.mem_cons_of_mem _ hy)) (f us a).2
        unfold foldE at h1
        rw [show f us a = (0, (f us a).2) from Prod.ext h0 rfl]
        exact h1
    · rw [stick_stuck h0]
      exact (he a (List.mem_cons_self ..) us).resolve_left h0
theorem fold_errs {l : List α} (he : ∀ y ∈ l, ∀ us, (f us y).1 = 0 ∨ (f us y).1 = 3) : ∀ us, (foldE f l us).1 = 0 ∨ (foldE f l us).1 = 3 := by
  induction l with
  | nil => intro us; exact .inl rfl
  | cons a l ih =>
    intro us
    unfold foldE
    rw [List.foldl_cons]
    have e : stick f (0, us) a = f us a := by unfold stick; exact if_neg (by simp)
    rw [e]
    by_cases h0 : (f us a).1 = 0
    · have h1 := ih (fun y hy => he y (List.mem_cons_of_mem _ hy)) (f us a).2
      unfold foldE at h1
      rw [show f us a = (0, (f us a).2) from Prod.ext h0 rfl]
      exact h1
    · rw [stick_stuck h0]
      exact he a (List.mem_cons_self ..) us
end
theorem keep_errs (us : List (List CD)) (d : List CD) : (keepD us d).1 = 0 ∨ (keepD us d).1 = 3 := by
  unfold keepD
  split
  · exact .inl rfl
  · split
    · exact .inr rfl
    · exact .inl rfl
theorem add_errs (n : Nat) (us : List (List CD)) (ds : List CD) : (addD n us ds).1 = 0 ∨ (addD n us ds).1 = 3 := by
  unfold addD
  split
  · exact piece_errs n ds
  · exact keep_errs _ _
theorem gather_errs (n : Nat) (l : List (List CD)) : (gatherD n l).1 = 0 ∨ (gatherD n l).1 = 3 := by
  rw [gather_fold]
  exact fold_errs (fun y _ us => add_errs n us y) []
theorem cut_errs {n : Nat} {p c : List CD} (hc : ∀ d ∈ c, ValidD n d) (us : List (List CD)) (i : Nat) : (cutOne n p c us i).1 = 0 ∨ (cutOne n p c us i).1 = 3 := by
  cases h : cutBad n c i
  · rw [cut_ok h]; exact fold_errs (fun y _ us => add_errs n us y) us
  · exact .inr (cut_bad hc h)
theorem with_errs {n : Nat} {c : List CD} (hc : ∀ d ∈ c, ValidD n d) (us : List (List CD)) (p : List CD) : (withOne n c us p).1 = 0 ∨ (withOne n c us p).1 = 3 := by
  unfold withOne
  split
  · exact piece_errs n _
  · split
    · exact keep_errs _ _
    · exact fold_errs (fun y _ us => cut_errs hc us y) us
theorem with_bad {n : Nat} {c p : List CD} (hc : ∀ d ∈ c, ValidD n d) (h : withBad n c p = true) (us : List (List CD)) : (withOne n c us p).1 = 3 := by
  unfold withBad at h
  unfold withOne
  by_cases h0 : (pieceD n (p ++ c)).2.2 ≠ 0
  · rw [if_pos h0]; exact (piece_errs n _).resolve_left h0
  · rw [if_neg h0]
    rw [decide_eq_false h0, Bool.false_or, Bool.and_eq_true] at h
    have hv : (pieceD n (p ++ c)).2.1 = false := by simpa using h.1
    rw [if_neg (by rw [hv]; decide)]
    obtain ⟨i, hi, hb⟩ := List.any_eq_true.1 h.2
    exact fold_three hi (fun us => cut_bad hc hb) (fun y _ us => cut_errs hc us y) us
def Idem (n : Nat) (p : List CD) : Prop := pieceD n p = (p, false, 0)
theorem with_ok {n : Nat} {c p : List CD} (hp : Idem n p) (h : withBad n c p = false) (us : List (List CD)) : withOne n c us p = foldE (addD n) (withL n c p) us := by
  unfold withBad at h
  rw [Bool.or_eq_false_iff] at h
  have h0 : ¬ (pieceD n (p ++ c)).2.2 ≠ 0 := by simpa using h.1
  unfold withOne withL
  rw [if_neg h0]
  split
  · show _ = (addD n) us p
    unfold addD Idem at *
    rw [hp]
    simp
  · rename_i hv
    have hb := h.2
    have hv : (pieceD n (p ++ c)).2.1 = false := by simpa using hv
    rw [hv] at hb
    have hb : (List.range c.length).any (cutBad n c) = false := by simpa using hb
    refine fold_flat (f := cutOne n p c) (k := cutL n p c) _ (fun i hi us => cut_ok ?_) us
    rw [List.any_eq_false] at hb
    simpa using hb i hi
theorem without_ref {n : Nat} {ps : List (List CD)} {c : List CD} (hc : ∀ d ∈ c, ValidD n d) (hp : ∀ p ∈ ps, Idem n p) :
    ((∀ p ∈ ps, withBad n c p = false) ∧ withoutD n ps c = gatherD n (ps.flatMap (withL n c))) ∨ ((∃ p ∈ ps, withBad n c p = true) ∧ (withoutD n ps c).1 = 3) := by
  by_cases h : ∃ p ∈ ps, withBad n c p = true
  · obtain ⟨p, hm, hb⟩ := h
    exact .inr ⟨⟨p, hm, hb⟩, fold_three hm (fun us => with_bad hc hb us) (fun y _ us => with_errs hc us y) []⟩
  · have h2 : ∀ p ∈ ps, withBad n c p = false := fun p hm => by
      cases hb : withBad n c p
      · rfl
      · exact absurd ⟨p, hm, hb⟩ h
    refine .inl ⟨h2, ?_⟩
    rw [gather_fold]
    exact fold_flat ps (fun p hm us => with_ok (hp p hm) (h2 p hm) us) []
theorem gather_idem {n : Nat} {l : List (List CD)} (hl : ∀ ds ∈ l, KindsOk n ds ∧ ∀ z ∈ normOut n ds, NormD n z) : ∀ u ∈ (gatherD n l).2, Idem n u := by
  rw [gather_fold]
  refine fold_good (P := fun us => ∀ u ∈ us, Idem n u) (fun u h => nomatch h) fun ds hds us h => ?_
  unfold addD
  split
  · exact h
  · rename_i hb
    have hid : Idem n (pieceD n ds).1 := by
      have he : (pieceD n ds).2.2 = 0 := by
        by_cases h9 : (pieceD n ds).2.2 = 0
        · exact h9
        · exact absurd (.inl h9) hb
      have hv : (pieceD n ds).2.1 = false := by
        cases h9 : (pieceD n ds).2.1
        · rfl
        · exact absurd (.inr h9) hb
      exact piece_idem (hl ds hds).1 (hl ds hds).2 (Prod.ext rfl (Prod.ext hv he))
    unfold keepD
    split
    · exact h
    · split
      · exact h
      · intro u hu
        rcases List.mem_append.1 hu with hu | hu
        · exact h u hu
        · rw [List.mem_singleton.1 hu]; exact hid
end Go.Proofs.YtkgnlloioaobiaaGreat
