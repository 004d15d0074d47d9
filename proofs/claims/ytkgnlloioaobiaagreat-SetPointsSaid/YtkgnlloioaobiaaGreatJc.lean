/-
  Part 3 of the texts that the laws stand on.
-/
import Derived.Test.YtkgnlloioaobiaaGreatJb
set_option linter.unusedVariables false
set_option maxRecDepth 100000
set_option linter.unusedSimpArgs false
set_option linter.unusedSectionVars false
namespace Go.Proofs.YtkgnlloioaobiaaGreat
open Go.RowKit
theorem CL2.other {N0 N : Nat} {W : World} {u : Value} {els : List CEl} (h : CL2 N0 N W u els) {b : Nat} {cs : Array Value} {t : TypeId} {fz : Nat × Nat} (hb : W.heap[b]? = some (.cells cs t fz)) (ht : t ≠ 3) (hN : b < N) (j : Nat) (v : Value) : CL2 N0 N (W.setCell ⟨b, j, none⟩ v) u els := by
  have hoth : ∀ k, k ≠ b → (W.setCell ⟨b, j, none⟩ v).heap[k]? = W.heap[k]? := fun k hk => by
    simp only [World.setCell]
    rw [Array.getElem?_modify, if_neg fun e => hk e.symm]
  have hsz : (W.setCell ⟨b, j, none⟩ v).heap.size = W.heap.size := by simp [World.setCell]
  refine ⟨⟨h.own.1, ?_⟩, h.few, fun e he => ?_, fun e he => ?_⟩
  · rcases h.own.2 with h0 | ⟨g, cap, cur, hv, hg, hc, rest⟩
    · exact .inl h0
    · exact .inr ⟨g, cap, cur, hv, hg, (hoth g (by omega)).trans hc, rest⟩
  · have hI := h.ints e he
    refine ⟨hI.len, hI.small, hI.wf, fun hn => ?_⟩
    obtain ⟨bb, off, hA, hlt, hc⟩ := hI.cells hn
    refine ⟨bb, off, hA, by rw [hsz]; exact hlt, fun q hq => ?_⟩
    rw [← hc q hq]
    refine World.cell?_of_block (hoth bb fun e' => ?_)
    rcases h.rows e he with h0 | ⟨b', hA', _, cur, h1, _⟩
    · omega
    · rw [hA] at hA'
      cases hA'
      rw [e', hb] at h1
      simp at h1
      exact ht h1.2.1
  · refine (h.rows e he).imp id ?_
    rintro ⟨b', hA', hN0, cur, h1, h2⟩
    refine ⟨b', hA', hN0, cur, (hoth b' fun e' => ?_).trans h1, h2⟩
    rw [e', hb] at h1
    simp at h1
    exact ht h1.2.1
def PairRet (N0 : Nat) (w : World) (e : Ending) (w' : World) (n : Nat) (ds : List CD) : Prop :=
  ((pairVoid ds = true ∧ e = .returned (.tuple #[.slice none 0 0, .slice none 0 0, .bool true])) ∨
    (pairVoid ds = false ∧ ∃ u t v r, e = .returned (.tuple #[u, v, .bool false]) ∧ CL2 N0 w.heap.size w' u t ∧ t.map CEl.d = tightD ds ∧ CL2 N0 w.heap.size w' v r ∧ r.map CEl.d = restD ds ∧ (∀ e ∈ t, e.n = n) ∧ ∀ e ∈ r, e.n = n)) ∧ Below w.heap.size w w'
structure Calm (n : Nat) (els : List CEl) : Prop where
  n : ∀ e ∈ els, e.n = n
  x : ∀ e ∈ els, ∀ y ∈ e.xs, -4611686018427387904 ≤ y ∧ y ≤ 4611686018427387904
  k : ∀ e ∈ els, -2305843009213693952 ≤ e.K ∧ e.K ≤ 2305843009213693952
  s : ∀ (i j : Nat) (x y : CEl), i < j → els[i]? = some x → els[j]? = some y → ordL x.xs y.xs < 0
theorem Calm.slopes {n : Nat} {els : List CEl} (h : Calm n els) : Slopes (els.map CEl.d) := fun i j a b hij ha hb => by
  rw [List.getElem?_map] at ha hb
  obtain ⟨x, hx, rfl⟩ := Option.map_eq_some_iff.1 ha
  obtain ⟨y, hy, rfl⟩ := Option.map_eq_some_iff.1 hb
  exact h.s i j x y hij hx hy
set_option maxHeartbeats 8000000 in
theorem wide_paired {N0 n : Nat} {A : Option Addr} {m c : Nat} {els : List CEl} (w : World) (C0 : CondsAt w A m els) (hrows : ∀ e ∈ els, RowOk N0 w e.A e.n) (hfew : m ≤ 1000) (hcalm : Calm n els) :
    Calls Tryz.prog 121 #[.slice A m c] w fun e w' => PairRet N0 w e w' n (els.map CEl.d) := by
  have hmk := make_bools m (by omega)
  have HL := Lib.hid C0.len
  have HC := Lib.hid hcalm
  have HR := Lib.hid hrows
  have HS := Lib.hid hcalm.slopes
  obtain ⟨ds, hds⟩ : ∃ ds, els.map CEl.d = ds := ⟨_, rfl⟩
  rw [hds] at HS ⊢
  have HD := Lib.hid hds
  have HDL := Lib.hid (show ds.length = m by rw [← hds, List.length_map]; exact C0.len)
  clear hrows hcalm hds
  go_enter Tryz.func121, Tryz.ntmps121
  go_wp2
  have G0 := BRow.new w (falses m)
  have hB := below_alloc w (.cells ((falses m).map Value.bool).toArray 4)
  generalize hw0 : w.alloc (.cells ((falses m).map Value.bool).toArray 4) = w0 at *
  have hz0 : w0.heap.size = w.heap.size + 1 := by rw [← hw0]; simp
  clear hw0 hmk
  go_loopw [2, 3, 18] (fun u u9 v wr => ∃ (i : Nat) (t : List CEl) (gs : List Bool), i ≤ m ∧ v = .int .i64 i ∧ u9 = .slice none 0 0 ∧ CL2 N0 w0.heap.size wr u t ∧ t.map CEl.d = (ds.take i).flatMap (tightOne ds) ∧ (∀ e ∈ t, e.n = n) ∧ t.length ≤ i ∧ BRow wr w.heap.size gs ∧ gs.length = m ∧ (∀ j, j < ds.length → (gs[j]?.getD false = true ↔ ∃ i', i' < i ∧ Marked ds i' j)) ∧ (∀ j d k, j < i → ds[j]? = some d → slackD ds d = some k → 0 ≤ k) ∧ Below w.heap.size w wr ∧ w0.heap.size ≤ wr.heap.size) (fun _ _ v _ => m - (intOf v).toNat)
  case atStart => exact ⟨0, [], falses m, Nat.zero_le _, rfl, rfl, CL2.nil _ _ _, rfl, (fun e h => nomatch h), Nat.zero_le _, G0, by simp [falses], (fun j hj => ⟨fun h => by simp [falses, List.getElem?_replicate] at h; split at h <;> simp at h, fun ⟨i', h, _⟩ => absurd h (by omega)⟩), (fun j d k h => absurd h (by omega)), hB, Nat.le_refl _⟩
  clear G0 hB
  case round =>
    obtain ⟨i, t, gs, hi, rfl, rfl, hL, htd, htn, htl, hG, hgl, hmk, hnv, hbr, hsz⟩ := hrel
    have HT := Lib.hid (And.intro htd htn)
    have HM := Lib.hid (And.intro hmk hnv)
    clear htd htn hmk hnv
    by_cases hlt : i < m
    · obtain ⟨b, off, e, rfl, hblt, hej, hmem, hcs, hin⟩ := (C0.step hbr).at hlt
      obtain ⟨x0, x1, x2, x3⟩ := hcs
      have hro := (HR.out e hmem).step hbr
      have hen := HC.out.n e hmem
      have hxb := HC.out.x e hmem
      have hkb := HC.out.k e hmem
      obtain ⟨eq, eM, eA, en, ec, eK, exs⟩ := e
      simp only at x0 x1 x2 x3 hin hro hen hxb hkb
      subst hen
      have HEJ := Lib.hid hej
      have HDJ := Lib.hid (show ds[i]? = some ⟨eq, eM, exs, eK⟩ by rw [← HD.out, List.getElem?_map, hej]; rfl)
      have HXB := Lib.hid hxb
      have hq1 : (i : Int) < m := by omega
      have b5 := below_alloc wr (.cells #[.int .i64 eq, .int .i64 eM, .slice eA en ec, .int .i64 eK] 56)
      have y1 := hin.step b5
      have X1 := CBox.new wr eq eM eA en ec eK
      have d2 := X1.c2
      have hbr1 := hbr.trans (b5.mono hbr.size)
      have L1 := hL.step b5
      have G1 := hG.step b5
      have R1 := hro.step b5
      have hsz1 := Nat.le_trans hsz b5.size
      have HI0 := Lib.hid (And.intro (C0.ints _ hmem) (HR.out _ hmem))
      have hszr := hsz
      clear hej hmem hin hxb hL hG hro b5 hbr hsz
      by_cases hld : leadI exs < 0
      · have HS0 := Lib.hid (slack_neg (ds := ds) (d := ⟨eq, eM, exs, eK⟩) hld)
        go_wp2_with (go_at_call 146; refine (wide_lead _ _ _ exs _ y1).mono ?_; rintro e w4 ⟨rfl, rfl⟩)
        go_roundw
        case rel => exact ⟨i + 1, t, gs, by omega, by go_num, rfl, L1, by rw [flat_snoc _ HDJ.out, tight_none HS0.out, List.append_nil]; exact HT.out.1, HT.out.2, by omega, G1, hgl, mark_skip HDJ.out (by rw [HS0.out]; exact fun h => nomatch h) HM.out.1, (fun j d k hj hjd hk => by
          rcases Nat.lt_or_eq_of_le (Nat.le_of_lt_succ hj) with h | rfl
          · exact HM.out.2 j d k h hjd hk
          · rw [HDJ.out] at hjd; cases hjd; rw [HS0.out] at hk; cases hk), hbr1, hsz1⟩
        case measure => simp [intOf]; omega
      · have C1 := C0.step hbr1
        by_cases hop : ∃ (k : Nat) (x : CEl), els[k]? = some x ∧ x.xs = sgnL (-1) exs
        · obtain ⟨k, f, hk, hft⟩ := hop
          have hkm : k < m := by have := (List.getElem?_eq_some_iff.1 hk).1; have := HL.out; omega
          obtain ⟨b2, off2, f2, hA2, hblt2, hfk, hfm, hfs, hfin⟩ := C1.at hkm
          have hk' := hk
          rw [hfk] at hk'
          obtain rfl : f2 = f := by cases hk'; rfl
          cases hA2
          have hfb := HC.out.k f2 hfm
          have HFX := Lib.hid hft
          have HDK := Lib.hid (show ds[k]? = some f2.d by rw [← HD.out, List.getElem?_map, hk]; rfl)
          have HK := Lib.hid hk
          obtain ⟨fq, fM, fA, fn, fc, fK, fxs⟩ := f2
          simp only at hfb
          have z3 := hfs.2.2.2
          simp only at z3
          have HSL := Lib.hid (slack_some (ds := ds) HS.out (d := ⟨eq, eM, exs, eK⟩) hld HDK.out HFX.out)
          have hw : IntKind.i64.wrap (eK + fK) = eK + fK := IntWalk.i64_in _ (by omega)
          have hk1 : (k : Int) < m := by omega
          clear hk hft hfk hk' hfm hfs hfin hfb hkb
          rcases (show eK + fK < 0 ∨ eK + fK = 0 ∨ 0 < eK + fK by omega) with hsum | hsum | hsum
          · have HV := Lib.hid (pair_yes (List.mem_of_getElem? HDJ.out) HSL.out hsum)
            go_wp2_with (first
              | (go_at_call 146; refine (wide_lead _ _ _ exs _ y1).mono ?_; rintro e w4 ⟨rfl, rfl⟩)
              | (go_at_call 147; refine (find_yes (s := -1) (n := en) (.inr rfl) HXB.out _ C1 HC.out.n (by omega) y1 HC.out.s HK.out HFX.out).mono ?_; rintro e w5 ⟨rfl, hb5⟩; have d3 := (X1.step hb5).c3; have v3 := (hb5.cell (p := ⟨b, off + k * 4 + 3, none⟩) (by omega)).trans z3; have L5 := L1.step hb5; have G5 := G1.step hb5; have hbr5 := hbr1.trans (hb5.mono hbr1.size); have hsz5 := Nat.le_trans hsz1 hb5.size; have X5 := X1.step hb5; have I5 := y1.step hb5; have R5 := R1.step hb5))
            go_quiet (fail)
            go_wp2
            go_ret3
            exact ⟨.inl ⟨HV.out, rfl⟩, below_step hbr5 (below_of_drewN _)⟩
          · have HS0 := Lib.hid (show slackD ds ⟨eq, eM, exs, eK⟩ = some 0 by rw [HSL.out]; show some (eK + fK) = _; rw [hsum])
            have hs0 : (eK + fK == 0) = true := by rw [hsum]; rfl
            have hs1 : ¬ (eK + fK < 0) := by omega
            have hgi : i < gs.length := by omega
            have hgk : k < gs.length := by omega
            go_wp2_with (first
              | (go_at_call 146; refine (wide_lead _ _ _ exs _ y1).mono ?_; rintro e w4 ⟨rfl, rfl⟩)
              | (go_at_call 147; refine (find_yes (s := -1) (n := en) (.inr rfl) HXB.out _ C1 HC.out.n (by omega) y1 HC.out.s HK.out HFX.out).mono ?_; rintro e w5 ⟨rfl, hb5⟩; have d3 := (X1.step hb5).c3; have v3 := (hb5.cell (p := ⟨b, off + k * 4 + 3, none⟩) (by omega)).trans z3; have L5 := L1.step hb5; have G5 := G1.step hb5; have hbr5 := hbr1.trans (hb5.mono hbr1.size); have hsz5 := Nat.le_trans hsz1 hb5.size; have X5 := X1.step hb5; have I5 := y1.step hb5; have R5 := R1.step hb5))
            go_quiet (fail)
            have hb6 := below_of_drewN (w := w5) nq
            replace L5 := L5.step hb6
            replace G5 := G5.step hb6
            replace hbr5 := below_step hbr5 hb6
            replace hsz5 := Nat.le_trans hsz5 hb6.size
            replace X5 := X5.step hb6
            clear hb6 d3 v3 I5 R5
            generalize hw6 : w5.drewN nq = w6 at *
            clear hw6
            have t0 := G5.cell hgi
            have f0 := G5.free i
            have G6 := G5.set i true
            have t1 := G6.cell (j := k) (by rw [List.length_set]; exact hgk)
            have f1 := G6.free k
            have G7 := G6.set k true
            have L7 := (L5.other G5 (by decide) (by omega) i (.bool true)).other G6 (by decide) (by omega) k (.bool true)
            have X7 : CBox ((w6.setCell ⟨w.heap.size, i, none⟩ (.bool true)).setCell ⟨w.heap.size, k, none⟩ (.bool true)) wr.heap.size eq eM eA en ec eK := (Below.heap_setCell _ _ _ _ (by show wr.heap.size ≠ w.heap.size; omega)).trans ((Below.heap_setCell _ _ _ _ (by show wr.heap.size ≠ w.heap.size; omega)).trans X5)
            have e2 := X7.c2
            have e3 := X7.c3
            have hbr7 := (hbr5.setCell (p := ⟨w.heap.size, i, none⟩) (Nat.le_refl _) (.bool true)).setCell (p := ⟨w.heap.size, k, none⟩) (Nat.le_refl _) (.bool true)
            have b8 := below_alloc ((w6.setCell ⟨w.heap.size, i, none⟩ (.bool true)).setCell ⟨w.heap.size, k, none⟩ (.bool true)) (.cells #[.int .i64 1, .int .i64 0, .slice eA en ec, .int .i64 eK] 56)
            have L8 := L7.step b8
            have G8 := G7.step b8
            have hbr8 := hbr7.trans (b8.mono hbr7.size)
            have I8 := HI0.out.1.step hbr8
            have R8 := HI0.out.2.step hbr8
            have Gn : (((w6.setCell ⟨w.heap.size, i, none⟩ (.bool true)).setCell ⟨w.heap.size, k, none⟩ (.bool true)).alloc (.cells #[.int .i64 1, .int .i64 0, .slice eA en ec, .int .i64 eK] 56)).heap[w6.heap.size]? = some (.cells #[.int .i64 1, .int .i64 0, .slice eA en ec, .int .i64 eK] 56) := by
              have h := heap_alloc_new ((w6.setCell ⟨w.heap.size, i, none⟩ (.bool true)).setCell ⟨w.heap.size, k, none⟩ (.bool true)) (.cells #[.int .i64 1, .int .i64 0, .slice eA en ec, .int .i64 eK] 56)
              rwa [show ((w6.setCell ⟨w.heap.size, i, none⟩ (.bool true)).setCell ⟨w.heap.size, k, none⟩ (.bool true)).heap.size = w6.heap.size by simp [World.setCell]] at h
            have hN8 : w0.heap.size ≤ (((w6.setCell ⟨w.heap.size, i, none⟩ (.bool true)).setCell ⟨w.heap.size, k, none⟩ (.bool true)).alloc (.cells #[.int .i64 1, .int .i64 0, .slice eA en ec, .int .i64 eK] 56)).heap.size := Nat.le_trans (by rw [show ((w6.setCell ⟨w.heap.size, i, none⟩ (.bool true)).setCell ⟨w.heap.size, k, none⟩ (.bool true)).heap.size = w6.heap.size by simp [World.setCell]]; exact hsz5) b8.size
            clear L5 L7 G5 G6 G7 X5 X7 hbr5 hbr7 b8
            go_wp2_with (at_builtin; refine wpList_append_cond rfl _ _ 34 rfl rfl rfl L8 w6.heap.size ⟨1, 0, eA, en, ec, eK, exs⟩ rfl Gn I8 R8 (by omega) hN8 ?_; intro g9 cap9 w9 L9 gr9 hb9; have G9 := G8.below hb9 (by omega); have hbr9 := hbr8.trans (hb9.mono (by omega)); have hsz9 := Nat.le_trans hN8 hb9.size)
            go_roundw
            case rel => exact ⟨i + 1, t ++ [⟨1, 0, eA, en, ec, eK, exs⟩], (gs.set i true).set k true, by omega, by go_num, rfl, L9, by rw [flat_snoc _ HDJ.out, tight_zero HS0.out, List.map_append, HT.out.1]; rfl, (fun e he => by
              rcases List.mem_append.1 he with h | h
              · exact HT.out.2 e h
              · rw [List.mem_singleton.1 h]), by simp; omega, G9, by simp [hgl], mark_step HS.out (by rw [hgl, HDL.out]) HDJ.out HDK.out HFX.out HS0.out HM.out.1, (fun j d k' hj hjd hk' => by
              rcases Nat.lt_or_eq_of_le (Nat.le_of_lt_succ hj) with h | rfl
              · exact HM.out.2 j d k' h hjd hk'
              · rw [HDJ.out] at hjd; cases hjd; rw [HS0.out] at hk'; have h2 : 0 = k' := Option.some.inj hk'; omega), hbr9, hsz9⟩
            case measure => simp [intOf]; omega
          · have HS0 := Lib.hid (show slackD ds ⟨eq, eM, exs, eK⟩ = some (eK + fK) from HSL.out)
            have hs0 : (eK + fK == 0) = false := by simp; omega
            have hs1 : ¬ (eK + fK < 0) := by omega
            have HSUM := Lib.hid hsum
            go_wp2_with (first
              | (go_at_call 146; refine (wide_lead _ _ _ exs _ y1).mono ?_; rintro e w4 ⟨rfl, rfl⟩)
              | (go_at_call 147; refine (find_yes (s := -1) (n := en) (.inr rfl) HXB.out _ C1 HC.out.n (by omega) y1 HC.out.s HK.out HFX.out).mono ?_; rintro e w5 ⟨rfl, hb5⟩; have d3 := (X1.step hb5).c3; have v3 := (hb5.cell (p := ⟨b, off + k * 4 + 3, none⟩) (by omega)).trans z3; have L5 := L1.step hb5; have G5 := G1.step hb5; have hbr5 := hbr1.trans (hb5.mono hbr1.size); have hsz5 := Nat.le_trans hsz1 hb5.size; have X5 := X1.step hb5; have I5 := y1.step hb5; have R5 := R1.step hb5))
            go_quiet (fail)
            go_wp2
            go_roundw
            case rel => exact ⟨i + 1, t, gs, by omega, by go_num, rfl, L5.step (below_of_drewN _), by rw [flat_snoc _ HDJ.out, tight_pos HS0.out (by have := HSUM.out; omega), List.append_nil]; exact HT.out.1, HT.out.2, by omega, G5.step (below_of_drewN _), hgl, mark_skip HDJ.out (by rw [HS0.out]; intro h; have h2 : eK + fK = 0 := Option.some.inj h; have := HSUM.out; omega) HM.out.1, (fun j d k hj hjd hk => by
              rcases Nat.lt_or_eq_of_le (Nat.le_of_lt_succ hj) with h | rfl
              · exact HM.out.2 j d k h hjd hk
              · rw [HDJ.out] at hjd; cases hjd; rw [HS0.out] at hk; cases hk; have := HSUM.out; omega), below_step hbr5 (below_of_drewN _), hsz5⟩
            case measure => simp [intOf]; omega
        · have HNO := Lib.hid (show ∀ x ∈ els, x.xs ≠ sgnL (-1) exs from fun x hx h => hop (by obtain ⟨k, hk, hkx⟩ := List.getElem_of_mem hx; exact ⟨k, x, by rw [List.getElem?_eq_getElem hk, hkx], h⟩))
          have HS0 := Lib.hid (slack_none (ds := ds) (d := ⟨eq, eM, exs, eK⟩) (fun e he => by rw [← HD.out] at he; obtain ⟨x, hx, rfl⟩ := List.mem_map.1 he; exact HNO.out x hx))
          clear hop hkb
          go_wp2_with (first
            | (go_at_call 146; refine (wide_lead _ _ _ exs _ y1).mono ?_; rintro e w4 ⟨rfl, rfl⟩)
            | (go_at_call 147; refine (find_no (s := -1) (n := en) (.inr rfl) HXB.out _ C1 HC.out.n (by omega) y1 HC.out.s HNO.out).mono ?_; rintro e w5 ⟨⟨i9, rfl⟩, hb5⟩; have L5 := L1.step hb5; have G5 := G1.step hb5; have hbr5 := hbr1.trans (hb5.mono hbr1.size); have hsz5 := Nat.le_trans hsz1 hb5.size))
          go_roundw
          case rel => exact ⟨i + 1, t, gs, by omega, by go_num, rfl, L5, by rw [flat_snoc _ HDJ.out, tight_none HS0.out, List.append_nil]; exact HT.out.1, HT.out.2, by omega, G5, hgl, mark_skip HDJ.out (by rw [HS0.out]; exact fun h => nomatch h) HM.out.1, (fun j d k hj hjd hk => by
            rcases Nat.lt_or_eq_of_le (Nat.le_of_lt_succ hj) with h | rfl
            · exact HM.out.2 j d k h hjd hk
            · rw [HDJ.out] at hjd; cases hjd; rw [HS0.out] at hk; cases hk), hbr5, hsz5⟩
          case measure => simp [intOf]; omega
    · obtain rfl : i = m := by omega
      have hall : ds.take i = ds := List.take_of_length_le (by rw [HDL.out]; exact Nat.le_refl _)
      have HPV := Lib.hid (pair_no (ds := ds) (fun j d k hj hd hk => HM.out.2 j d k (by rw [← HDL.out]; exact hj) hd hk))
      have HTD := Lib.hid (show t.map CEl.d = tightD ds by have := HT.out.1; rw [hall] at this; exact this)
      have HGO := Lib.hid (show ∀ j d, ds[j]? = some d → gs[j]?.getD false = goneD ds d from fun j d hd => by
        rw [Bool.eq_iff_iff, gone_mark HS.out hd, HDL.out]
        exact HM.out.1 j (List.getElem?_eq_some_iff.1 hd).1)
      have hge : ¬ ((i : Int) < i) := by omega
      have C2 := C0.step hbr
      have HR2 := Lib.hid (fun e he => (HR.out e he).step hbr)
      clear HM hall
      go_wp2
      clear hge
      generalize hw1 : wr = w1 at *
      clear hw1
      go_loopw [3, 69] (fun u v wx => ∃ (q : Nat) (r : List CEl), q ≤ i ∧ v = .int .i64 q ∧ CL2 N0 w1.heap.size wx u r ∧ r.map CEl.d = (ds.take q).filter (fun d => !goneD ds d) ∧ (∀ e ∈ r, e.n = n) ∧ r.length ≤ q ∧ Below w1.heap.size w1 wx) (fun _ v _ => i - (intOf v).toNat)
      case atStart => exact ⟨0, [], Nat.zero_le _, rfl, CL2.nil _ _ _, rfl, (fun e h => nomatch h), Nat.zero_le _, Below.refl _ _⟩
      case round =>
        obtain ⟨q, r, hq, rfl, hLr, hrd, hrn, hrl, hbx⟩ := hrel
        have HT2 := Lib.hid (And.intro hrd hrn)
        clear hrd hrn
        by_cases hlt2 : q < i
        · obtain ⟨b, off, e, hA2, hblt, hej, hmem, hcs, hin⟩ := (C2.step hbx).at hlt2
          subst hA2
          obtain ⟨x0, x1, x2, x3⟩ := hcs
          have hro := (HR2.out e hmem).step hbx
          have hen := HC.out.n e hmem
          obtain ⟨eq, eM, eA, en, ec, eK, exs⟩ := e
          simp only at x0 x1 x2 x3 hin hro hen
          subst hen
          have HEJ := Lib.hid hej
          have hdj : ds[q]? = some ⟨eq, eM, exs, eK⟩ := by rw [← HD.out, List.getElem?_map, hej]; rfl
          have HDJ := Lib.hid hdj
          have hq1 : (q : Int) < i := by omega
          have b5 := below_alloc wr (.cells #[.int .i64 eq, .int .i64 eM, .slice eA en ec, .int .i64 eK] 56)
          have b8 := below_alloc (wr.alloc (.cells #[.int .i64 eq, .int .i64 eM, .slice eA en ec, .int .i64 eK] 56)) (.cells #[.int .i64 eq, .int .i64 eM, .slice eA en ec, .int .i64 eK] 56)
          have X5 := CBox.new wr eq eM eA en ec eK
          have d0 := X5.c0
          have d1 := X5.c1
          have d2 := X5.c2
          have d3 := X5.c3
          have G5 := (hG.step hbx).step b5
          have hgc := G5.cell (j := q) (by omega)
          have hgd := HGO.out q _ hdj
          have hbx5 := hbx.trans (b5.mono hbx.size)
          cases hgv : goneD ds ⟨eq, eM, exs, eK⟩
          · have HGV := Lib.hid hgv
            rw [hgd, hgv] at hgc
            have L8 := (hLr.step b5).step b8
            have hbx8 := hbx5.trans (b8.mono hbx5.size)
            have I8 := (hin.step b5).step b8
            have R8 := (hro.step b5).step b8
            have Gn := heap_alloc_new (wr.alloc (.cells #[.int .i64 eq, .int .i64 eM, .slice eA en ec, .int .i64 eK] 56)) (.cells #[.int .i64 eq, .int .i64 eM, .slice eA en ec, .int .i64 eK] 56)
            rw [World.size_alloc] at Gn
            have hN8 := hbx8.size
            clear hej hmem hin hro b5 b8 hgv hgd hdj hLr hbx hbx5 G5 X5
            go_wp2_with (at_builtin; refine wpList_append_cond rfl _ _ 34 rfl rfl rfl L8 (wr.heap.size + 1) ⟨eq, eM, eA, en, ec, eK, exs⟩ rfl Gn I8 R8 (by omega) hN8 ?_; intro g9 cap9 w9 L9 gr9 hb9; have hbx9 := hbx8.trans hb9)
            go_roundw
            case rel => exact ⟨q + 1, r ++ [⟨eq, eM, eA, en, ec, eK, exs⟩], by omega, by go_num, L9, by rw [filter_snoc _ HDJ.out, List.map_append, HT2.out.1, HGV.out]; rfl, (fun e he => by
              rcases List.mem_append.1 he with h | h
              · exact HT2.out.2 e h
              · rw [List.mem_singleton.1 h]), by simp; omega, hbx9⟩
            case measure => simp [intOf]; omega
          · have HGV := Lib.hid hgv
            rw [hgd, hgv] at hgc
            have L5 := hLr.step b5
            clear hej hmem hin hro b5 b8 hgv hgd hdj hLr hbx G5 X5
            go_wp2
            go_roundw
            case rel => exact ⟨q + 1, r, by omega, by go_num, L5, by rw [filter_snoc _ HDJ.out, HT2.out.1, HGV.out]; simp, HT2.out.2, by omega, hbx5⟩
            case measure => simp [intOf]; omega
        · obtain rfl : q = i := by omega
          have hge : ¬ ((q : Int) < q) := by omega
          have hall : ds.take q = ds := List.take_of_length_le (by rw [HDL.out]; exact Nat.le_refl _)
          have HRD := Lib.hid (show r.map CEl.d = restD ds by have := HT2.out.1; rw [hall] at this; exact this)
          clear hall
          obtain ⟨A8, c8, rfl⟩ := hL.slice
          obtain ⟨A9, c9, rfl⟩ := hLr.slice
          go_wp2
          go_ret3
          exact ⟨.inr ⟨HPV.out, _, t, _, r, rfl, (hL.step hbx).mono (Nat.le_refl _) (by omega), HTD.out, hLr.mono (Nat.le_refl _) (by have := hbr.size; omega), HRD.out, HT.out.2, HT2.out.2⟩, below_step hbr hbx⟩
end Go.Proofs.YtkgnlloioaobiaaGreat
namespace Go.Proofs.YtkgnlloioaobiaaGreat
open Go.RowKit
theorem imp_some {es : List CD} (hs : Slopes es) {c e : CD} {k : Nat} {s : Int} (hsg : signI c.xs = s) (hk : es[k]? = some e) (ht : e.xs = sgnL s c.xs) : impD es c = some e := by
  unfold impD; rw [hsg]; exact find_some hs hk ht
theorem imp_none {es : List CD} {c : CD} {s : Int} (hsg : signI c.xs = s) (h : ∀ e ∈ es, e.xs ≠ sgnL s c.xs) : impD es c = none := by
  unfold impD; rw [hsg]; exact find_none h
theorem imp_yes {es gs : List CD} {c e : CD} {s : Int} (hc : c ∈ gs) (hsg : signI c.xs = s) (h : impD es c = some e) (hk : c.K - s * e.K < 0) : impVoid es gs = true := by
  unfold impVoid
  rw [List.any_eq_true]
  refine ⟨c, hc, ?_⟩
  rw [h]
  simpa [hsg] using hk
theorem imp_no {es gs : List CD} (h : ∀ j c e, j < gs.length → gs[j]? = some c → impD es c = some e → 0 ≤ c.K - signI c.xs * e.K) : impVoid es gs = false := by
  unfold impVoid
  rw [List.any_eq_false]
  intro c hc
  obtain ⟨j, hj, rfl⟩ := List.getElem_of_mem hc
  cases hk : impD es gs[j] with
  | none => simp
  | some e => simpa using h j _ e hj (List.getElem?_eq_getElem hj) hk
theorem imp_empty (gs : List CD) : impVoid [] gs = false ∧ impRest [] gs = gs := by
  refine ⟨imp_no fun j c e _ _ h => ?_, rfl⟩
  simp [impD, findD] at h
theorem imp_rest {es gs : List CD} (h : es ≠ []) : impRest es gs = gs.filter fun c => (impD es c).isNone := by
  unfold impRest
  rw [if_neg (by simpa using h)]
end Go.Proofs.YtkgnlloioaobiaaGreat
namespace Go.Proofs.YtkgnlloioaobiaaGreat
open Go.RowKit
def ImpRet (N0 N : Nat) (w : World) (e : Ending) (w' : World) (n : Nat) (es gs : List CD) : Prop :=
  ((impVoid es gs = true ∧ e = .returned (.tuple #[.slice none 0 0, .bool true])) ∨
    (impVoid es gs = false ∧ ∃ A k c r, e = .returned (.tuple #[.slice A k c, .bool false]) ∧ CV N0 N w' A k r ∧ k ≤ c ∧ c ≤ 9223372036854775807 ∧ Sane A c ∧ r.map CEl.d = impRest es gs ∧ ∀ e ∈ r, e.n = n)) ∧ Below w.heap.size w w'
theorem own_capC {w : World} {N0 N : Nat} {A : Option Addr} {m c : Nat} {els : List CEl} (h : CL2 N0 N w (.slice A m c) els) : els.length ≤ c ∧ c ≤ 9223372036854775807 := by
  rcases h.own.2 with ⟨hv, h0⟩ | ⟨g, cap, cur, hv, _, _, h1, h2, _⟩
  · cases hv; omega
  · cases hv
    unfold maxLen at h2
    omega
theorem own_sane {w : World} {N0 N : Nat} {A : Option Addr} {m c : Nat} {els : List CEl} (h : CL2 N0 N w (.slice A m c) els) : Sane A c := by
  rcases h.own.2 with ⟨hv, h0⟩ | ⟨g, cap, cur, hv, _⟩
  · cases hv; exact ⟨fun _ => rfl, fun ad h => nomatch h⟩
  · cases hv; exact ⟨(fun h => nomatch h), fun ad h => by cases h; rfl⟩
set_option maxHeartbeats 8000000 in
theorem wide_unimplied {N0 N n : Nat} {A : Option Addr} {m c : Nat} {E : List CEl} {B : Option Addr} {k0 c2 : Nat} {G : List CEl} (w : World) (CE : CondsAt w A m E) (hE : Calm n E) (hm : m ≤ 1000) (CG : CV N0 N w B k0 G) (hGn : ∀ e ∈ G, e.n = n) (hGx : ∀ e ∈ G, ∀ y ∈ e.xs, -4611686018427387904 ≤ y ∧ y ≤ 4611686018427387904) (hGk : ∀ e ∈ G, -2305843009213693952 ≤ e.K ∧ e.K ≤ 2305843009213693952)
    (hN : N ≤ w.heap.size) (hk0 : k0 ≤ 1000) (hkc : k0 ≤ c2) (hc2 : c2 ≤ 9223372036854775807) (hsane : Sane B c2) :
    Calls Tryz.prog 123 #[.slice A m c, .slice B k0 c2] w fun e w' => ImpRet N0 N w e w' n (E.map CEl.d) (G.map CEl.d) := by
  have HLE := Lib.hid CE.len
  rcases Nat.eq_zero_or_pos m with h0 | h0
  · subst h0
    obtain rfl : E = [] := List.length_eq_zero_iff.1 HLE.out
    have HI := Lib.hid (imp_empty (G.map CEl.d))
    go_enter Tryz.func123, Tryz.ntmps123
    go_wp2
    go_ret2
    exact ⟨.inr ⟨HI.out.1, B, k0, c2, G, rfl, CG, hkc, hc2, hsane, HI.out.2.symm, hGn⟩, Below.refl _ _⟩
  · have hm0 : ((m : Int) == 0) = false := by simp; omega
    have HLG := Lib.hid CG.len
    have C0 := CG.conds
    have HR := Lib.hid CG.rows
    have HC := Lib.hid hE
    have HG := Lib.hid (And.intro hGn (And.intro hGx hGk))
    have HS := Lib.hid hE.slopes
    have HNE := Lib.hid (show E.map CEl.d ≠ [] from fun h => by have h9 : (E.map CEl.d).length = 0 := (by rw [h]; rfl); rw [List.length_map, HLE.out] at h9; omega)
    obtain ⟨es, hes⟩ : ∃ es, E.map CEl.d = es := ⟨_, rfl⟩
    obtain ⟨ds, hds⟩ : ∃ ds, G.map CEl.d = ds := ⟨_, rfl⟩
    rw [hes] at HS HNE ⊢
    rw [hds]
    have HD := Lib.hid hds
    have HDE := Lib.hid hes
    have HDL := Lib.hid (show ds.length = k0 by rw [← hds, List.length_map]; exact CG.len)
    clear hE hGn hGx hGk hes hds CG h0
    go_enter Tryz.func123, Tryz.ntmps123
    go_wp2
    go_loopw [4, 17] (fun u v wr => ∃ (i : Nat) (r : List CEl), i ≤ k0 ∧ v = .int .i64 i ∧ CL2 N0 w.heap.size wr u r ∧ r.map CEl.d = (ds.take i).filter (fun d => (impD es d).isNone) ∧ (∀ e ∈ r, e.n = n) ∧ r.length ≤ i ∧ (∀ j c e, j < i → ds[j]? = some c → impD es c = some e → 0 ≤ c.K - signI c.xs * e.K) ∧ Below w.heap.size w wr) (fun _ v _ => k0 - (intOf v).toNat)
    case atStart => exact ⟨0, [], Nat.zero_le _, rfl, CL2.nil _ _ _, rfl, (fun e h => nomatch h), Nat.zero_le _, (fun j c e h => absurd h (by omega)), Below.refl _ _⟩
    case round =>
      obtain ⟨i, r, hi, rfl, hL, hrd, hrn, hrl, hnv, hbr⟩ := hrel
      have HT := Lib.hid (And.intro hrd (And.intro hrn hnv))
      clear hrd hrn hnv
      by_cases hlt : i < k0
      · obtain ⟨b, off, e, rfl, hblt, hej, hmem, hcs, hin⟩ := (C0.step hbr).at hlt
        obtain ⟨x0, x1, x2, x3⟩ := hcs
        have hro := (HR.out e hmem).step hbr
        have hen := HG.out.1 e hmem
        have hxb := HG.out.2.1 e hmem
        have hkb := HG.out.2.2 e hmem
        obtain ⟨eq, eM, eA, en, ec, eK, exs⟩ := e
        simp only at x0 x1 x2 x3 hin hro hen hxb hkb
        subst hen
        have HEJ := Lib.hid hej
        have HDJ := Lib.hid (show ds[i]? = some ⟨eq, eM, exs, eK⟩ by rw [← HD.out, List.getElem?_map, hej]; rfl)
        have HXB := Lib.hid hxb
        have hq1 : (i : Int) < k0 := by omega
        have b5 := below_alloc wr (.cells #[.int .i64 eq, .int .i64 eM, .slice eA en ec, .int .i64 eK] 56)
        have y1 := hin.step b5
        have X1 := CBox.new wr eq eM eA en ec eK
        have d2 := X1.c2
        have hbr1 := hbr.trans (b5.mono hbr.size)
        have L1 := hL.step b5
        have R1 := hro.step b5
        have C1 := CE.step hbr1
        clear hej hmem hin hxb hL hro b5 hbr
        by_cases hld : leadI exs < 0
        · have HSG := Lib.hid (show signI exs = -1 by unfold signI; rw [if_pos hld])
          have hs0 : ((-1) : Int) = 1 ∨ ((-1) : Int) = -1 := by decide
          have HS1 := Lib.hid hs0
          clear hs0
          by_cases hop : ∃ (k : Nat) (x : CEl), E[k]? = some x ∧ x.xs = sgnL (-1) exs
          · obtain ⟨k, f, hk, hft⟩ := hop
            have hkm : k < m := by have := (List.getElem?_eq_some_iff.1 hk).1; have := HLE.out; omega
            obtain ⟨b2, off2, f2, rfl, hblt2, hfk, hfm, hfs, hfin⟩ := C1.at hkm
            have hk' := hk
            rw [hfk] at hk'
            obtain rfl : f2 = f := by cases hk'; rfl
            have hfb := HC.out.k f2 hfm
            have HFX := Lib.hid hft
            have HDK := Lib.hid (show es[k]? = some f2.d by rw [← HDE.out, List.getElem?_map, hk]; rfl)
            have HK := Lib.hid hk
            obtain ⟨fq, fM, fA, fn, fc, fK, fxs⟩ := f2
            simp only at hfb
            have z3 := hfs.2.2.2
            simp only at z3
            have HIS := Lib.hid (imp_some (es := es) HS.out (c := ⟨eq, eM, exs, eK⟩) HSG.out HDK.out HFX.out)
            have hw1 : IntKind.i64.wrap ((-1) * fK) = (-1) * fK := IntWalk.i64_in _ (by omega)
            have hw3 : IntKind.i64.wrap (-fK) = -fK := IntWalk.i64_in _ (by omega)
            have hw4 : IntKind.i64.wrap fK = fK := IntWalk.i64_in _ (by omega)
            have hw2 : IntKind.i64.wrap (eK - (-1) * fK) = eK - (-1) * fK := IntWalk.i64_in _ (by omega)
            have hw5 : IntKind.i64.wrap (eK - -fK) = eK - -fK := IntWalk.i64_in _ (by omega)
            have hw6 : IntKind.i64.wrap (eK + fK) = eK + fK := IntWalk.i64_in _ (by omega)
            have hw7 : IntKind.i64.wrap (eK - fK) = eK - fK := IntWalk.i64_in _ (by omega)
            have hk1 : (k : Int) < m := by omega
            have HF := Lib.hid (find_yes (s := (-1)) (n := en) (c := c) (cB := ec) HS1.out HXB.out _ C1 HC.out.n (by omega) y1 HC.out.s hk hft)
            clear hk hft hfk hk' hfm hfs hfin hfb hkb
            by_cases hsum : eK - (-1) * fK < 0
            · have HV := Lib.hid (imp_yes (es := es) (gs := ds) (c := ⟨eq, eM, exs, eK⟩) (List.mem_of_getElem? HDJ.out) HSG.out HIS.out hsum)
              have hsum2 : eK - -fK < 0 := by omega
              go_wp2_with (first
                | (go_at_call 146; refine (wide_lead _ _ _ exs _ y1).mono ?_; rintro e w4 ⟨rfl, rfl⟩)
                | (go_at_call 147; refine HF.out.mono ?_; rintro e w5 ⟨rfl, hb5⟩; have d3 := (X1.step hb5).c3; have v3 := (hb5.cell (p := ⟨b2, off2 + k * 4 + 3, none⟩) hblt2).trans z3; have L5 := L1.step hb5; have hbr5 := hbr1.trans (hb5.mono hbr1.size)))
              go_quiet (fail)
              go_wp2
              go_ret2
              exact ⟨.inl ⟨HV.out, rfl⟩, below_step hbr5 (below_of_drewN _)⟩
            · have HSUM := Lib.hid hsum
              have hsum2 : ¬ (eK - -fK < 0) := by omega
              go_wp2_with (first
                | (go_at_call 146; refine (wide_lead _ _ _ exs _ y1).mono ?_; rintro e w4 ⟨rfl, rfl⟩)
                | (go_at_call 147; refine HF.out.mono ?_; rintro e w5 ⟨rfl, hb5⟩; have d3 := (X1.step hb5).c3; have v3 := (hb5.cell (p := ⟨b2, off2 + k * 4 + 3, none⟩) hblt2).trans z3; have L5 := L1.step hb5; have hbr5 := hbr1.trans (hb5.mono hbr1.size)))
              go_quiet (fail)
              go_wp2
              go_roundw
              case rel => exact ⟨i + 1, r, by omega, by go_num, L5.step (below_of_drewN _), by rw [filter_snoc _ HDJ.out, HT.out.1, HIS.out]; simp, HT.out.2.1, by omega, (fun j c e hj hjc he => by
                rcases Nat.lt_or_eq_of_le (Nat.le_of_lt_succ hj) with h | rfl
                · exact HT.out.2.2 j c e h hjc he
                · rw [HDJ.out] at hjc; cases hjc; rw [HIS.out] at he; cases he; have h1 := HSUM.out; have h2 : signI exs = (-1) := HSG.out; show 0 ≤ eK - signI exs * fK; rw [h2]; omega), below_step hbr5 (below_of_drewN _)⟩
              case measure => simp [intOf]; omega
          · have HNO := Lib.hid (show ∀ x ∈ E, x.xs ≠ sgnL (-1) exs from fun x hx h => hop (by obtain ⟨k, hk, hkx⟩ := List.getElem_of_mem hx; exact ⟨k, x, by rw [List.getElem?_eq_getElem hk, hkx], h⟩))
            have HIN := Lib.hid (imp_none (es := es) (c := ⟨eq, eM, exs, eK⟩) HSG.out (fun e he => by rw [← HDE.out] at he; obtain ⟨x, hx, rfl⟩ := List.mem_map.1 he; exact HNO.out x hx))
            have HF := Lib.hid (find_no (s := (-1)) (n := en) (c := c) (cB := ec) HS1.out HXB.out _ C1 HC.out.n (by omega) y1 HC.out.s HNO.out)
            have hr9 : r.length + 1 ≤ 100000 := by omega
            clear hop hkb
            go_wp2_with (first
              | (go_at_call 146; refine (wide_lead _ _ _ exs _ y1).mono ?_; rintro e w4 ⟨rfl, rfl⟩)
              | (go_at_call 147; refine HF.out.mono ?_; rintro e w5 ⟨⟨i9, rfl⟩, hb5⟩; have X5 := X1.step hb5; have e0 := X5.c0; have e1 := X5.c1; have e2 := X5.c2; have e3 := X5.c3; have hbr5 := hbr1.trans (hb5.mono hbr1.size); have b8 := below_alloc w5 (.cells #[.int .i64 eq, .int .i64 eM, .slice eA en ec, .int .i64 eK] 56); have L8 := (L1.step hb5).step b8; have I8 := (y1.step hb5).step b8; have R8 := (R1.step hb5).step b8; have Gn := heap_alloc_new w5 (.cells #[.int .i64 eq, .int .i64 eM, .slice eA en ec, .int .i64 eK] 56); have hbr8 := hbr5.trans (b8.mono hbr5.size); have hN8 := hbr8.size)
              | (at_builtin; refine wpList_append_cond rfl _ _ 34 rfl rfl rfl L8 w5.heap.size ⟨eq, eM, eA, en, ec, eK, exs⟩ rfl Gn I8 R8 hr9 hN8 ?_; intro g9 cap9 w9 L9 gr9 hb9; have hbr9 := hbr8.trans hb9))
            go_roundw
            case rel => exact ⟨i + 1, r ++ [⟨eq, eM, eA, en, ec, eK, exs⟩], by omega, by go_num, L9, by rw [filter_snoc _ HDJ.out, List.map_append, HT.out.1, HIN.out]; rfl, (fun e he => by
              rcases List.mem_append.1 he with h | h
              · exact HT.out.2.1 e h
              · rw [List.mem_singleton.1 h]), by simp; omega, (fun j c e hj hjc he => by
              rcases Nat.lt_or_eq_of_le (Nat.le_of_lt_succ hj) with h | rfl
              · exact HT.out.2.2 j c e h hjc he
              · rw [HDJ.out] at hjc; cases hjc; rw [HIN.out] at he; cases he), hbr9⟩
            case measure => simp [intOf]; omega
        · have HSG := Lib.hid (show signI exs = 1 by unfold signI; rw [if_neg hld])
          have hs0 : (1 : Int) = 1 ∨ (1 : Int) = -1 := by decide
          have HS1 := Lib.hid hs0
          clear hs0
          by_cases hop : ∃ (k : Nat) (x : CEl), E[k]? = some x ∧ x.xs = sgnL 1 exs
          · obtain ⟨k, f, hk, hft⟩ := hop
            have hkm : k < m := by have := (List.getElem?_eq_some_iff.1 hk).1; have := HLE.out; omega
            obtain ⟨b2, off2, f2, rfl, hblt2, hfk, hfm, hfs, hfin⟩ := C1.at hkm
            have hk' := hk
            rw [hfk] at hk'
            obtain rfl : f2 = f := by cases hk'; rfl
            have hfb := HC.out.k f2 hfm
            have HFX := Lib.hid hft
            have HDK := Lib.hid (show es[k]? = some f2.d by rw [← HDE.out, List.getElem?_map, hk]; rfl)
            have HK := Lib.hid hk
            obtain ⟨fq, fM, fA, fn, fc, fK, fxs⟩ := f2
            simp only at hfb
            have z3 := hfs.2.2.2
            simp only at z3
            have HIS := Lib.hid (imp_some (es := es) HS.out (c := ⟨eq, eM, exs, eK⟩) HSG.out HDK.out HFX.out)
            have hw1 : IntKind.i64.wrap (1 * fK) = 1 * fK := IntWalk.i64_in _ (by omega)
            have hw3 : IntKind.i64.wrap (-fK) = -fK := IntWalk.i64_in _ (by omega)
            have hw4 : IntKind.i64.wrap fK = fK := IntWalk.i64_in _ (by omega)
            have hw2 : IntKind.i64.wrap (eK - 1 * fK) = eK - 1 * fK := IntWalk.i64_in _ (by omega)
            have hw5 : IntKind.i64.wrap (eK - -fK) = eK - -fK := IntWalk.i64_in _ (by omega)
            have hw6 : IntKind.i64.wrap (eK + fK) = eK + fK := IntWalk.i64_in _ (by omega)
            have hw7 : IntKind.i64.wrap (eK - fK) = eK - fK := IntWalk.i64_in _ (by omega)
            have hk1 : (k : Int) < m := by omega
            have HF := Lib.hid (find_yes (s := 1) (n := en) (c := c) (cB := ec) HS1.out HXB.out _ C1 HC.out.n (by omega) y1 HC.out.s hk hft)
            clear hk hft hfk hk' hfm hfs hfin hfb hkb
            by_cases hsum : eK - 1 * fK < 0
            · have HV := Lib.hid (imp_yes (es := es) (gs := ds) (c := ⟨eq, eM, exs, eK⟩) (List.mem_of_getElem? HDJ.out) HSG.out HIS.out hsum)
              have hsum2 : eK - fK < 0 := by omega
              go_wp2_with (first
                | (go_at_call 146; refine (wide_lead _ _ _ exs _ y1).mono ?_; rintro e w4 ⟨rfl, rfl⟩)
                | (go_at_call 147; refine HF.out.mono ?_; rintro e w5 ⟨rfl, hb5⟩; have d3 := (X1.step hb5).c3; have v3 := (hb5.cell (p := ⟨b2, off2 + k * 4 + 3, none⟩) hblt2).trans z3; have L5 := L1.step hb5; have hbr5 := hbr1.trans (hb5.mono hbr1.size)))
              go_quiet (fail)
              go_wp2
              go_ret2
              exact ⟨.inl ⟨HV.out, rfl⟩, below_step hbr5 (below_of_drewN _)⟩
            · have HSUM := Lib.hid hsum
              have hsum2 : ¬ (eK - fK < 0) := by omega
              go_wp2_with (first
                | (go_at_call 146; refine (wide_lead _ _ _ exs _ y1).mono ?_; rintro e w4 ⟨rfl, rfl⟩)
                | (go_at_call 147; refine HF.out.mono ?_; rintro e w5 ⟨rfl, hb5⟩; have d3 := (X1.step hb5).c3; have v3 := (hb5.cell (p := ⟨b2, off2 + k * 4 + 3, none⟩) hblt2).trans z3; have L5 := L1.step hb5; have hbr5 := hbr1.trans (hb5.mono hbr1.size)))
              go_quiet (fail)
              go_wp2
              go_roundw
              case rel => exact ⟨i + 1, r, by omega, by go_num, L5.step (below_of_drewN _), by rw [filter_snoc _ HDJ.out, HT.out.1, HIS.out]; simp, HT.out.2.1, by omega, (fun j c e hj hjc he => by
                rcases Nat.lt_or_eq_of_le (Nat.le_of_lt_succ hj) with h | rfl
                · exact HT.out.2.2 j c e h hjc he
                · rw [HDJ.out] at hjc; cases hjc; rw [HIS.out] at he; cases he; have h1 := HSUM.out; have h2 : signI exs = 1 := HSG.out; show 0 ≤ eK - signI exs * fK; rw [h2]; omega), below_step hbr5 (below_of_drewN _)⟩
              case measure => simp [intOf]; omega
          · have HNO := Lib.hid (show ∀ x ∈ E, x.xs ≠ sgnL 1 exs from fun x hx h => hop (by obtain ⟨k, hk, hkx⟩ := List.getElem_of_mem hx; exact ⟨k, x, by rw [List.getElem?_eq_getElem hk, hkx], h⟩))
            have HIN := Lib.hid (imp_none (es := es) (c := ⟨eq, eM, exs, eK⟩) HSG.out (fun e he => by rw [← HDE.out] at he; obtain ⟨x, hx, rfl⟩ := List.mem_map.1 he; exact HNO.out x hx))
            have HF := Lib.hid (find_no (s := 1) (n := en) (c := c) (cB := ec) HS1.out HXB.out _ C1 HC.out.n (by omega) y1 HC.out.s HNO.out)
            have hr9 : r.length + 1 ≤ 100000 := by omega
            clear hop hkb
            go_wp2_with (first
              | (go_at_call 146; refine (wide_lead _ _ _ exs _ y1).mono ?_; rintro e w4 ⟨rfl, rfl⟩)
              | (go_at_call 147; refine HF.out.mono ?_; rintro e w5 ⟨⟨i9, rfl⟩, hb5⟩; have X5 := X1.step hb5; have e0 := X5.c0; have e1 := X5.c1; have e2 := X5.c2; have e3 := X5.c3; have hbr5 := hbr1.trans (hb5.mono hbr1.size); have b8 := below_alloc w5 (.cells #[.int .i64 eq, .int .i64 eM, .slice eA en ec, .int .i64 eK] 56); have L8 := (L1.step hb5).step b8; have I8 := (y1.step hb5).step b8; have R8 := (R1.step hb5).step b8; have Gn := heap_alloc_new w5 (.cells #[.int .i64 eq, .int .i64 eM, .slice eA en ec, .int .i64 eK] 56); have hbr8 := hbr5.trans (b8.mono hbr5.size); have hN8 := hbr8.size)
              | (at_builtin; refine wpList_append_cond rfl _ _ 34 rfl rfl rfl L8 w5.heap.size ⟨eq, eM, eA, en, ec, eK, exs⟩ rfl Gn I8 R8 hr9 hN8 ?_; intro g9 cap9 w9 L9 gr9 hb9; have hbr9 := hbr8.trans hb9))
            go_roundw
            case rel => exact ⟨i + 1, r ++ [⟨eq, eM, eA, en, ec, eK, exs⟩], by omega, by go_num, L9, by rw [filter_snoc _ HDJ.out, List.map_append, HT.out.1, HIN.out]; rfl, (fun e he => by
              rcases List.mem_append.1 he with h | h
              · exact HT.out.2.1 e h
              · rw [List.mem_singleton.1 h]), by simp; omega, (fun j c e hj hjc he => by
              rcases Nat.lt_or_eq_of_le (Nat.le_of_lt_succ hj) with h | rfl
              · exact HT.out.2.2 j c e h hjc he
              · rw [HDJ.out] at hjc; cases hjc; rw [HIN.out] at he; cases he), hbr9⟩
            case measure => simp [intOf]; omega
      · obtain rfl : i = k0 := by omega
        have hall : ds.take i = ds := List.take_of_length_le (by rw [HDL.out]; exact Nat.le_refl _)
        have HV := Lib.hid (imp_no (es := es) (gs := ds) (fun j c e hj => HT.out.2.2 j c e (by rw [← HDL.out]; exact hj)))
        have HRD := Lib.hid (show r.map CEl.d = impRest es ds by rw [imp_rest HNE.out]; have := HT.out.1; rw [hall] at this; exact this)
        have hge : ¬ ((i : Int) < i) := by omega
        clear hall
        obtain ⟨A9, c9, rfl⟩ := hL.slice
        have hcap := own_capC hL
        have HSA := Lib.hid (own_sane hL)
        have HCV := Lib.hid ((CV.of_cl hL).mono (Nat.le_refl _) hN)
        go_wp2
        go_ret2
        exact ⟨.inr ⟨HV.out, A9, _, c9, r, rfl, HCV.out, hcap.1, hcap.2, HSA.out, HRD.out, HT.out.2.1⟩, hbr⟩
end Go.Proofs.YtkgnlloioaobiaaGreat
namespace Go.Proofs.YtkgnlloioaobiaaGreat
open Go.ChangeShapes Go.WideShapes Go.ChangeAt Go.RowKit
theorem cgrow_zero (w : World) : Calls Tryz.prog 78 #[.slice none 0 0, .int .i64 0] w fun e w' => e = .returned (.slice none 0 0) ∧ w = w' := by
  go_enter Tryz.func78, Tryz.ntmps78
  go_wp2
  go_ret
  exact ⟨rfl, rfl⟩
set_option maxHeartbeats 2000000 in
theorem cgrow_some (N0 : Nat) (n : Nat) (h0 : 0 < n) (hn : n ≤ 100000) (w : World) : Calls Tryz.prog 78 #[.slice none 0 0, .int .i64 n] w fun e w' =>
    ∃ u, e = .returned u ∧ CL2 N0 w.heap.size w' u [] ∧ Below w.heap.size w w' := by
  obtain ⟨i0, hi, hz0, hz1, hz2⟩ := info_parts infoCond
  have hg := fun ty => Lib.run_append_grow_zeros (P := Tryz.prog) w 34 3 ty 56 i0 (.agg #[.int .i64 0, .int .i64 0, .slice none 0 0, .int .i64 0]) .i64 .i64 Tryz.underlying34 Tryz.underlying3 hi hz0 none 0 0 [] (run_firstCells_none _ _ _ _ _) n h0 (by omega) (by omega) (by omega) (by rw [hz2]; omega) (growslice_fits (by omega) (by rw [hz2]; omega))
  have hge := grownCap_ge w (0 + n) 0 56
  have hle := grownCap_le_maxLen w (0 + n) 0 56 (by unfold maxLen; omega)
  simp only [Nat.zero_add] at hg hge hle
  obtain ⟨G, hG⟩ : ∃ G, G = grownCap w n 0 56 := ⟨_, rfl⟩
  rw [← hG] at hg hge hle
  clear hG
  obtain ⟨cs, hcs⟩ : ∃ cs, cs = (([] : List Value).toArray ++ Builtin.zeroCells (Value.agg #[.int .i64 0, .int .i64 0, .slice none 0 0, .int .i64 0]).cells n ++ Builtin.zeroCells (Value.agg #[.int .i64 0, .int .i64 0, .slice none 0 0, .int .i64 0]).cells (G - n)) := ⟨_, rfl⟩
  have hsz : cs.size = G * 4 := by
    rw [hcs]
    have hc4 : (Value.agg #[.int .i64 0, .int .i64 0, .slice none 0 0, .int .i64 0]).cells.size = 4 := by rfl
    simp [Builtin.zeroCells, hc4]
    omega
  rw [← hcs] at hg
  clear hcs
  have hn0 : (0 : Int) < (n : Int) := by omega
  have hG1 : (n : Int) ≤ (G : Int) := by omega
  have hfin : (w.drew.alloc (.cells cs 56)).ownsRow w.heap.size 56 4 (.slice (some ⟨w.heap.size, 0, none⟩) 0 G) 0 [] :=
    ⟨rfl, .inr ⟨w.heap.size, G, cs, rfl, Nat.le_refl _, heap_alloc_new w.drew _, by omega, hle, by omega, by simp⟩⟩
  have hB : Below w.heap.size w (w.drew.alloc (.cells cs 56)) := ((Below.refl _ w).drew).alloc (Nat.le_refl _) _
  go_enter Tryz.func78, Tryz.ntmps78
  go_wp2_with (at_builtin; refine Lib.wpList_append_run _ rfl _ _ _ _ rfl _ _ rfl rfl _ _ (hg _) ?_)
  all_goals
    go_ret
    exact ⟨_, rfl, ⟨hfin, by simp, (fun e h => nomatch h), (fun e h => nomatch h)⟩, hB⟩
theorem conds_cell {w : World} {b off n : Nat} {els : List CEl} (h : CondsAt w (some ⟨b, off, none⟩) n els) {j : Nat} {v : Value} (hv : (ccells els)[j]? = some v) : w.cell? ⟨b, off + j, none⟩ = some v := by
  have hj : j < els.length * 4 := by rw [← ccells_len]; exact (List.getElem?_eq_some_iff.1 hv).1
  have hl := h.len
  obtain ⟨b', off', hA, _, hc⟩ := h.cells (by omega)
  cases hA
  obtain ⟨q, r, rfl, hr⟩ : ∃ q r, j = q * 4 + r ∧ r < 4 := ⟨j / 4, j % 4, by omega, by omega⟩
  have hq : q < els.length := by omega
  have he := List.getElem?_eq_getElem hq
  obtain ⟨a0, a1, a2, a3⟩ := ccells_at els q _ he
  obtain ⟨c0, c1, c2, c3⟩ := hc q _ he
  have hr : r = 0 ∨ r = 1 ∨ r = 2 ∨ r = 3 := by omega
  rcases hr with rfl | rfl | rfl | rfl
  · rw [Nat.add_zero] at hv ⊢; rw [hv] at a0; rw [a0]; exact c0
  · rw [hv] at a1; rw [a1, ← Nat.add_assoc]; exact c1
  · rw [hv] at a2; rw [a2, ← Nat.add_assoc]; exact c2
  · rw [hv] at a3; rw [a3, ← Nat.add_assoc]; exact c3
theorem ccells_one : ∀ l : List CEl, ∀ u ∈ ccells l, u.oneCell' = true
  | [], u, h => by cases h
  | e :: l, u, h => by
    simp only [ccells, CEl.cells, List.cons_append, List.nil_append, List.mem_cons] at h
    rcases h with rfl | rfl | rfl | rfl | h
    · rfl
    · rfl
    · rfl
    · rfl
    · exact ccells_one l u h
section
variable {ops : Array Oper} {o : Oper} {a : Act} {w : World} {Q : Exit → Act → World → Prop}
theorem wpList_append_view {rest : List Oper} (hgd : o.guard = none) (s x : Operand) (t : TypeId) (ho : o.op = .call { callee := .builtin .append, args := #[s, x], argTypes := #[t, t] }) (ht : Tryz.prog.underlying t = some (.slice 56))
    {N0 N : Nat} {u : Value} {els : List CEl} (hs : a.eval s = u) (hL : CL2 N0 N w u els) {A : Option Addr} {n c : Nat} {new : List CEl} (hx : a.eval x = .slice A n c) (hC : CondsAt w A n new) (hnil : A = none → c = 0) (hpl : ∀ ad, A = some ad → ad.spot = none) (hro : ∀ e ∈ new, RowOk N0 w e.A e.n) (hm : els.length + n ≤ 100000) (hN : N ≤ w.heap.size)
    (h : ∀ u' w', CL2 N0 N w' u' (els ++ new) → Below N w w' → wpList Tryz.prog ops Q rest (a.put o.dst u') w') : wpList Tryz.prog ops Q (o :: rest) a w := by
  obtain ⟨i0, hi0, hz, hz1, hz2⟩ := info_parts infoCond
  have hl := hC.len
  cases A with
  | none =>
    have hn : n = 0 := by
      rcases Nat.eq_zero_or_pos n with h0 | h0
      · exact h0
      · obtain ⟨b, off, hA, _⟩ := hC.cells h0
        cases hA
    subst hn
    obtain rfl := hnil rfl
    obtain rfl : new = [] := List.length_eq_zero_iff.1 hl
    exact wpList_append_own_none hgd s x t ho N 56 i0 4 ht hi0 u els.length (ccells els) hs hL.own hx (h u w (by rw [List.append_nil]; exact hL) (Below.refl _ _))
  | some ad =>
    obtain ⟨b, off, sp⟩ := ad
    have hsp : sp = none := hpl _ rfl
    subst hsp
    refine wpList_append_own _ hgd s x t ho N 56 i0 (.agg #[.int .i64 0, .int .i64 0, .slice none 0 0, .int .i64 0]) 4 48 ht hi0 hz hz1 hz2 rfl (by decide) u els.length (ccells els) hs hL.own ⟨b, off, none⟩ n c (ccells new) hx (by rw [ccells_len, hl]) (fun j v hv => by rw [add_plain]; exact conds_cell hC hv) (ccells_one new) (by unfold maxLen; omega) (by omega) hN ?_
    intro v' w' hown hgr _
    have hrow : ∀ r, u.ownBlock = some r → ∃ cur fr, w.heap[r]? = some (.cells cur 56 fr) := fun r e => by
      rcases hL.own.2 with ⟨hv, _⟩ | ⟨gl, cap', cur', hv, hgN, hgl, _⟩
      · rw [hv] at e; cases e
      · rw [hv] at e
        simp only [Value.ownBlock, Option.some.injEq] at e
        subst e
        exact ⟨cur', _, hgl⟩
    refine h v' w' ⟨by rw [List.length_append, ccells_app, hl]; exact hown, by rw [List.length_append]; omega, fun e he => ?_, fun e he => ?_⟩ ((Below.refl N w).grown hgr hN fun k e => (hL.own.lt k e).1)
    · rcases List.mem_append.1 he with he | he
      · exact (hL.ints e he).grown (hL.rows e he) hgr hrow
      · exact (hC.ints e he).grown (hro e he) hgr hrow
    · rcases List.mem_append.1 he with he | he
      · exact (hL.rows e he).grown hgr hrow
      · exact (hro e he).grown hgr hrow
end
end Go.Proofs.YtkgnlloioaobiaaGreat
namespace Go.Proofs.YtkgnlloioaobiaaGreat
open Go.ChangeShapes Go.WideShapes Go.ChangeAt Go.RowKit
theorem flat_le {α β : Type} (f : α → List β) (l : List α) (i : Nat) : ((l.take i).flatMap f).length ≤ (l.flatMap f).length := by
  have h : l.flatMap f = (l.take i).flatMap f ++ (l.drop i).flatMap f := by rw [← List.flatMap_append, List.take_append_drop]
  rw [h, List.length_append]
  omega
def ConcatRet (N0 : Nat) (w : World) (e : Ending) (w' : World) (out : List CEl) : Prop := ∃ A c, e = .returned (.slice A out.length c) ∧ CL2 N0 w.heap.size w' (.slice A out.length c) out ∧ Below w.heap.size w w'
set_option maxHeartbeats 4000000 in
theorem conds_concat {N0 b off m cm : Nat} {ps : List PEl} (w : World) (hP : PiecesAt w (some ⟨b, off, none⟩) m ps) (hrows : ∀ p ∈ ps, ∀ e ∈ p.els, RowOk N0 w e.A e.n) (hsane : ∀ p ∈ ps, Sane p.A p.c) (htot : (ps.flatMap PEl.els).length ≤ 100000) (hm : m ≤ 1000) :
    Calls Tryz.prog 52 #[.slice (some ⟨b, off, none⟩) m cm] w fun e w' => ConcatRet N0 w e w' (ps.flatMap PEl.els) := by
  have HR := Lib.hid (And.intro hrows hsane)
  have HL := Lib.hid hP.len
  have P1 := hP
  clear hrows hsane
  go_enter Tryz.func52, Tryz.ntmps52
  go_wp2
  go_loop [3, 11] (fun u v => ∃ i : Nat, i ≤ m ∧ v = .int .i64 i ∧ u = .int .i64 (((ps.take i).flatMap PEl.els).length : Nat)) (fun _ v => m - (intOf v).toNat)
  case atStart => exact ⟨0, Nat.zero_le _, rfl, rfl⟩
  case round =>
    obtain ⟨i, hi', rfl, rfl⟩ := hrel
    by_cases hlt : i < m
    · obtain ⟨b1, off1, p, hA, hblt, hpj, hmem, hcell, hCp⟩ := P1.at hlt; cases hA; have HPJ := Lib.hid hpj; obtain ⟨pA, pn, pc, pels⟩ := p; simp only at hcell hCp; have hpl := hCp.len; have HF := Lib.hid (flat_snoc PEl.els hpj); have hle := flat_le PEl.els ps (i + 1); rw [flat_snoc PEl.els hpj, List.length_append] at hle; simp only at hle; have hq1 : (i : Int) < m := (by omega); have hps := hCp.small
      have HS := Lib.hid (show ((ps.take (i + 1)).flatMap PEl.els).length = ((ps.take i).flatMap PEl.els).length + pn by rw [HF.out, List.length_append]; exact congrArg _ hpl)
      generalize ((ps.take i).flatMap PEl.els).length = t at *
      clear hCp hmem hpj
      go_wp2
      go_round
      case rel => exact ⟨i + 1, by omega, by go_num, by rw [HS.out]; go_num⟩
      case measure => simp [intOf]; omega
    · obtain rfl : i = m := by omega
      have hge : ¬ ((i : Int) < i) := by omega
      have hall : ps.take i = ps := List.take_of_length_le (by rw [HL.out]; exact Nat.le_refl _)
      rw [hall]
      have HA := Lib.hid hall
      clear hall
      have HT := Lib.hid (rfl : (ps.flatMap PEl.els).length = (ps.flatMap PEl.els).length)
      obtain ⟨t, ht⟩ : ∃ t, (ps.flatMap PEl.els).length = t := ⟨_, rfl⟩
      have HTT := Lib.hid ht
      rw [ht] at htot ⊢
      clear ht
      have key : ∀ W, Calls Tryz.prog 78 #[.slice none 0 0, .int .i64 t] W fun e w' => ∃ u, e = .returned u ∧ CL2 N0 W.heap.size w' u [] ∧ Below W.heap.size W w' := fun W => by
        rcases Nat.eq_zero_or_pos t with rfl | h0
        · refine (cgrow_zero W).mono ?_
          rintro e w' ⟨rfl, rfl⟩
          exact ⟨_, rfl, CL2.nil _ _ _, Below.refl _ _⟩
        · exact cgrow_some N0 t h0 htot W
      have HK := Lib.hid key
      clear key
      go_wp2_with (go_at_call 78; refine (HK.out _).mono ?_; rintro e w1 ⟨u, rfl, hL, hB⟩)
      go_loopw [6, 27] (fun u v wr => ∃ j : Nat, j ≤ i ∧ v = .int .i64 j ∧ CL2 N0 w.heap.size wr u ((ps.take j).flatMap PEl.els) ∧ Below w.heap.size w wr) (fun _ v _ => i - (intOf v).toNat)
      case atStart => exact ⟨0, Nat.zero_le _, rfl, hL, hB⟩
      case round =>
        clear hL hB
        obtain ⟨j, hj, rfl, hL, hB⟩ := hrel
        by_cases hlt : j < i
        · obtain ⟨b1, off1, p, hA, hblt, hpj, hmem, hcell, hCp⟩ := (P1.step hB).at hlt
          cases hA
          have hro := fun e he => (HR.out.1 p hmem e he).step hB
          have hsa := HR.out.2 p hmem
          have HPJ := Lib.hid hpj
          obtain ⟨pA, pn, pc, pels⟩ := p
          simp only at hcell hCp hro hsa
          have hpl := hCp.len
          have HF := Lib.hid (flat_snoc PEl.els hpj)
          have hle := flat_le PEl.els ps (j + 1)
          rw [flat_snoc PEl.els hpj, List.length_append, HTT.out] at hle
          simp only at hle
          have hq1 : (j : Int) < i := by omega
          have hps := hCp.small
          have hsum : ((ps.take j).flatMap PEl.els).length + pn ≤ 100000 := by omega
          have hN := hB.size
          clear hmem hpj hle
          go_wp2_with (at_builtin; refine wpList_append_view rfl _ _ 34 rfl rfl rfl hL rfl hCp hsa.1 hsa.2 hro hsum hN ?_; intro u9 w9 L9 hb9; have hB9 := hB.trans hb9)
          go_roundw
          case rel => exact ⟨j + 1, by omega, by go_num, by rw [HF.out]; exact L9, hB9⟩
          case measure => simp [intOf]; omega
        · obtain rfl : j = i := by omega
          have hge : ¬ ((j : Int) < j) := by omega
          rw [HA.out] at hL
          obtain ⟨A9, c9, hu⟩ := hL.slice
          rw [HTT.out] at hu
          subst hu
          have HLL := Lib.hid hL
          clear hL
          go_wp2
          go_ret
          exact ⟨A9, c9, by rw [HTT.out]; rfl, by rw [HTT.out]; exact HLL.out, hB⟩
end Go.Proofs.YtkgnlloioaobiaaGreat
namespace Go.Proofs.YtkgnlloioaobiaaGreat
open Go.RowKit
structure NormD (n : Nat) (d : CD) : Prop where
  q : d.q = 0 ∨ d.q = 1 ∨ d.q = 2
  M : d.q ≠ 2 → d.M = 0
  len : d.xs.length = n
  x : ∀ y ∈ d.xs, -2305843009213693952 ≤ y ∧ y ≤ 2305843009213693952
  k : -2305843009213693952 ≤ d.K ∧ d.K ≤ 2305843009213693952
  m : 0 ≤ d.M ∧ d.M ≤ 512
section
variable {α : Type} (f : α → List Int) (R : α → α → Bool)
theorem comp_strict {n : Nat} (hR : ∀ a b, R a b = true ↔ f a = f b) : ∀ l : List α, (∀ a ∈ l, (f a).length = n) → l.Pairwise (fun a b => ordL (f a) (f b) ≤ 0) → (comp R l).Pairwise (fun a b => ordL (f a) (f b) < 0)
  | [], _, _ => List.Pairwise.nil
  | a :: l, hn, hs => by
    have key : ∀ (l : List α) (p : α), (f p).length = n → (∀ a ∈ l, (f a).length = n) → (∀ a ∈ l, ordL (f p) (f a) ≤ 0) → l.Pairwise (fun a b => ordL (f a) (f b) ≤ 0) →
        (∀ a ∈ compG R p l, ordL (f p) (f a) < 0) ∧ (compG R p l).Pairwise (fun a b => ordL (f a) (f b) < 0) := by
      intro l
      induction l with
      | nil => intro p _ _ _ _; exact ⟨(fun a h => nomatch h), List.Pairwise.nil⟩
      | cons b l ih =>
        intro p hp hl hle hs
        rw [List.pairwise_cons] at hs
        obtain ⟨h1, h2⟩ := ih b (hl b (List.mem_cons_self ..)) (fun a ha => hl a (List.mem_cons_of_mem _ ha)) hs.1 hs.2
        unfold compG
        by_cases hb : R b p = true
        · rw [if_pos hb]
          have e := (hR b p).1 hb
          exact ⟨fun a ha => (by rw [← e]; exact h1 a ha), h2⟩
        · rw [if_neg hb]
          have hne : f p ≠ f b := fun e => hb ((hR b p).2 e.symm)
          have hpb : ordL (f p) (f b) < 0 := by
            have := hle b (List.mem_cons_self ..)
            rcases Int.lt_or_eq_of_le this with h | h
            · exact h
            · exact absurd ((lex_zero _ _ (by rw [hp, hl b (List.mem_cons_self ..)])).1 h) hne
          have hmem : ∀ a ∈ compG R b l, a ∈ l := fun a ha => by
            have : (comp R (b :: l)).Sublist (b :: l) := comp_sub R (b :: l)
            have h3 : (compG R b l).Sublist l := by
              have h4 : (b :: compG R b l).Sublist (b :: l) := this
              exact List.cons_sublist_cons.1 h4
            exact h3.subset ha
          refine ⟨fun a ha => ?_, List.pairwise_cons.2 ⟨fun a ha => h1 a ha, h2⟩⟩
          rcases List.mem_cons.1 ha with rfl | ha
          · exact hpb
          · have h5 := h1 a ha
            have la := hl a (List.mem_cons_of_mem _ (hmem a ha))
            have lb := hl b (List.mem_cons_self ..)
            have h6 := lex_le (f p) (f b) (f a) (by omega) (by omega) (by omega) (by omega)
            rcases Int.lt_or_eq_of_le h6 with h | h
            · exact h
            · have e := (lex_zero _ _ (by omega)).1 h
              rw [e, lex_swap] at hpb
              omega
    rw [List.pairwise_cons] at hs
    obtain ⟨h1, h2⟩ := key l a (hn a (List.mem_cons_self ..)) (fun b hb => hn b (List.mem_cons_of_mem _ hb)) hs.1 hs.2
    exact List.pairwise_cons.2 ⟨h1, h2⟩
end
theorem slopes_of {ds : List CD} (h : ds.Pairwise (fun a b => ordL a.xs b.xs < 0)) : Slopes ds := fun i j a b hij ha hb => by
  obtain ⟨hi, rfl⟩ := List.getElem?_eq_some_iff.1 ha
  obtain ⟨hj, rfl⟩ := List.getElem?_eq_some_iff.1 hb
  exact List.pairwise_iff_getElem.1 h i j hi hj hij
theorem ord_xs {a b : CD} (hq : a.q = b.q) (hM : a.M = b.M) (hl : a.xs.length = b.xs.length) : ordL (keyD a) (keyD b) = if ordL a.xs b.xs = 0 then cmpI a.K b.K else ordL a.xs b.xs := by
  unfold keyD
  rw [hq, hM]
  simp only [ordL, Int.lt_irrefl, if_false]
  exact ordL_snoc a.xs b.xs a.K b.K hl
theorem ord_le_xs {a b : CD} (hq : a.q = b.q) (hM : a.M = b.M) (hl : a.xs.length = b.xs.length) (h : ordL (keyD a) (keyD b) ≤ 0) : ordL a.xs b.xs ≤ 0 := by
  rw [ord_xs hq hM hl] at h
  split at h <;> omega
theorem equal_iff {n : Nat} {a b : CD} (ha : a.xs.length = n) (hb : b.xs.length = n) : equalD a b = true ↔ keyD a = keyD b := by
  unfold equalD
  rw [ordD_key (by rw [ha, hb]), ← lex_zero _ _ (by rw [key_len, key_len, ha, hb])]
  simp
abbrev Sorted (p : List CD) : Prop := p.Pairwise fun a b => ordL (keyD a) (keyD b) ≤ 0
theorem sorted_sort {n : Nat} {l : List CD} (hn : ∀ d ∈ l, d.xs.length = n) : Sorted (sortD l) := by
  refine List.Pairwise.imp_of_mem (fun {a b} ha hb h => ?_) (sortL_sorted leD leD_tot leD_tr l)
  have hp := sortL_perm leD l
  rw [leD_iff] at h
  rw [key_len, key_len, hn a (hp.mem_iff.1 ha), hn b (hp.mem_iff.1 hb)] at h
  omega
theorem comp_mem {α : Type} {R : α → α → Bool} {l : List α} {a : α} (h : a ∈ comp R l) : a ∈ l := (comp_sub R l).subset h
theorem mem_take {α : Type} {f : α → Bool} {d : α} : ∀ l : List α, d ∈ l.takeWhile f → f d = true
  | [], h => by simp at h
  | a :: l, h => by
    rw [List.takeWhile_cons] at h
    by_cases ha : f a = true
    · rw [if_pos ha] at h
      rcases List.mem_cons.1 h with rfl | h
      · exact ha
      · exact mem_take l h
    · rw [if_neg ha] at h; cases h
theorem kind_ge_q {p : List CD} : ∀ d ∈ kindGe p, d.q = 0 := fun d hd => by
  unfold kindGe at hd
  have := mem_take _ hd
  simpa using this
theorem kind_eq_q {p : List CD} : ∀ d ∈ kindEq p, d.q = 1 := fun d hd => by
  unfold kindEq at hd
  have := mem_take _ hd
  simpa using this
theorem kind_ge_sub (p : List CD) : (kindGe p).Sublist p := (List.takeWhile_sublist _).trans (List.dropWhile_sublist _)
theorem kind_eq_sub (p : List CD) : (kindEq p).Sublist p := List.takeWhile_sublist _
theorem ges_slopes {n : Nat} {p : List CD} (hs : Sorted p) (hn : ∀ d ∈ p, NormD n d) : Slopes (gesD p) := by
  refine slopes_of (comp_strict (fun d : CD => d.xs) slopeD (n := n) (fun a b => by simp [slopeD]) _ (fun d hd => (hn d ((kind_ge_sub p).subset hd)).len) ?_)
  refine List.Pairwise.imp_of_mem (fun {a b} ha hb h => ?_) (hs.sublist (kind_ge_sub p))
  have na := hn a ((kind_ge_sub p).subset ha)
  have nb := hn b ((kind_ge_sub p).subset hb)
  have qa := kind_ge_q a ha
  have qb := kind_ge_q b hb
  exact ord_le_xs (by rw [qa, qb]) (by rw [na.M (by omega), nb.M (by omega)]) (by rw [na.len, nb.len]) h
theorem tight_norm {n : Nat} {l : List CD} (hn : ∀ d ∈ l, NormD n d) : ∀ d ∈ tightD l, NormD n d ∧ d.q = 1 := fun d hd => by
  unfold tightD at hd
  obtain ⟨x, hx, hd⟩ := List.mem_flatMap.1 hd
  have nx := hn x hx
  unfold tightOne at hd
  split at hd
  · split at hd
    · rw [List.mem_singleton] at hd
      subst hd
      exact ⟨⟨.inr (.inl rfl), fun _ => rfl, nx.len, nx.x, nx.k, ⟨show (0 : Int) ≤ 0 by decide, show (0 : Int) ≤ 512 by decide⟩⟩, rfl⟩
    · cases hd
  · cases hd
def eqsIn (p : List CD) : List CD := if (tightD (gesD p)).length > 0 then sortD (kindEq p ++ tightD (gesD p)) else kindEq p
theorem ges_norm {n : Nat} {p : List CD} (hn : ∀ d ∈ p, NormD n d) : ∀ d ∈ gesD p, NormD n d := fun d hd => hn d ((kind_ge_sub p).subset (comp_mem hd))
theorem eqs_norm {n : Nat} {p : List CD} (hn : ∀ d ∈ p, NormD n d) : ∀ d ∈ eqsIn p, NormD n d ∧ d.q = 1 := fun d hd => by
  unfold eqsIn at hd
  split at hd
  · have := (sortL_perm leD _).mem_iff.1 hd
    rcases List.mem_append.1 this with h | h
    · exact ⟨hn d ((kind_eq_sub p).subset h), kind_eq_q d h⟩
    · exact tight_norm (ges_norm hn) d h
  · exact ⟨hn d ((kind_eq_sub p).subset hd), kind_eq_q d hd⟩
theorem eqs_sorted {n : Nat} {p : List CD} (hs : Sorted p) (hn : ∀ d ∈ p, NormD n d) : Sorted (eqsIn p) := by
  have hx := eqs_norm hn
  unfold eqsIn at hx ⊢
  split
  · rename_i h
    rw [if_pos h] at hx
    refine sorted_sort (n := n) fun d hd => ?_
    exact (hx d ((sortL_perm leD _).mem_iff.2 hd)).1.len
  · exact hs.sublist (kind_eq_sub p)
theorem clash_no {l : List CD} (h : clashD l = false) {i : Nat} {a b : CD} (ha : l[i]? = some a) (hb : l[i + 1]? = some b) : a.xs ≠ b.xs := fun e => by
  unfold clashD at h
  rw [List.any_eq_false] at h
  have hi := (List.getElem?_eq_some_iff.1 hb).1
  have := h i (List.mem_range.2 (by omega))
  rw [ha, hb] at this
  simp [slopeD, e] at this
theorem clash_yes {l : List CD} {i : Nat} {a b : CD} (ha : l[i]? = some a) (hb : l[i + 1]? = some b) (e : a.xs = b.xs) : clashD l = true := by
  unfold clashD
  rw [List.any_eq_true]
  have hi := (List.getElem?_eq_some_iff.1 hb).1
  refine ⟨i, List.mem_range.2 (by omega), ?_⟩
  rw [ha, hb]
  simp [slopeD, e]
theorem clash_none {l : List CD} (h : ∀ i a b, i + 1 < l.length → l[i]? = some a → l[i + 1]? = some b → a.xs ≠ b.xs) : clashD l = false := by
  unfold clashD
  rw [List.any_eq_false]
  intro i hi
  rw [List.mem_range] at hi
  have h1 : i < l.length := by omega
  have h2 : i + 1 < l.length := by omega
  rw [List.getElem?_eq_getElem h1, List.getElem?_eq_getElem h2]
  simpa [slopeD] using h i _ _ h2 (List.getElem?_eq_getElem h1) (List.getElem?_eq_getElem h2)
theorem eqs_slopes {n : Nat} {p : List CD} (hs : Sorted p) (hn : ∀ d ∈ p, NormD n d) (hc : clashD (eqsD p) = false) : Slopes (eqsD p) := by
  have hnorm := eqs_norm hn
  have hst : (eqsD p).Pairwise (fun a b => ordL (keyD a) (keyD b) < 0) := by
    have h1 := eqs_sorted hs hn
    have : ∀ l : List CD, (∀ d ∈ l, NormD n d ∧ d.q = 1) → Sorted l → (comp equalD l).Pairwise (fun a b => ordL (keyD a) (keyD b) < 0) := fun l hl hsl => by
      have key := comp_strict (fun d : { d : CD // d.xs.length = n } => keyD d.1) (fun a b => equalD a.1 b.1) (n := n + 3) (fun a b => equal_iff a.2 b.2) (l.attachWith _ fun d hd => (hl d hd).1.len) (fun a _ => by rw [key_len, a.2]) (by
        have hsl' : l.Pairwise (fun a b => ordL (keyD a) (keyD b) ≤ 0) := hsl
        rw [List.pairwise_iff_getElem] at hsl' ⊢
        intro i j hi hj hij
        simpa using hsl' i j (by simpa using hi) (by simpa using hj) hij)
      have hm := comp_map (fun a b : { d : CD // d.xs.length = n } => equalD a.1 b.1) (fun a => a.1) equalD (fun _ _ => rfl) (l.attachWith _ fun d hd => (hl d hd).1.len)
      have hv : (l.attachWith _ fun d hd => (hl d hd).1.len).map (fun a : { d : CD // d.xs.length = n } => a.1) = l := by simp
      rw [hv] at hm
      rw [← hm, List.pairwise_map]
      exact key
    exact this _ hnorm h1
  have hadj : ∀ i a b, (eqsD p)[i]? = some a → (eqsD p)[i + 1]? = some b → ordL a.xs b.xs < 0 := fun i a b ha hb => by
    have h0 : ordL (keyD a) (keyD b) < 0 := by
      obtain ⟨hi, rfl⟩ := List.getElem?_eq_some_iff.1 ha
      obtain ⟨hj, rfl⟩ := List.getElem?_eq_some_iff.1 hb
      exact List.pairwise_iff_getElem.1 hst i (i + 1) hi hj (by omega)
    have na := hnorm a (comp_mem (List.mem_of_getElem? ha))
    have nb := hnorm b (comp_mem (List.mem_of_getElem? hb))
    rw [ord_xs (by rw [na.2, nb.2]) (by rw [na.1.M (by omega), nb.1.M (by omega)]) (by rw [na.1.len, nb.1.len])] at h0
    split at h0
    · rename_i h
      exact absurd ((lex_zero _ _ (by rw [na.1.len, nb.1.len])).1 h) (clash_no hc ha hb)
    · exact h0
  intro i j
  have step : ∀ k a b, (eqsD p)[i]? = some a → (eqsD p)[i + 1 + k]? = some b → ordL a.xs b.xs < 0 := by
    intro k
    induction k with
    | zero => exact fun a b ha hb => hadj i a b ha hb
    | succ k ih =>
      intro a b ha hb
      have hkl := (List.getElem?_eq_some_iff.1 hb).1
      have hc' := List.getElem?_eq_getElem (show i + 1 + k < (eqsD p).length by omega)
      have h1 := ih a _ ha hc'
      have h2 := hadj (i + 1 + k) _ b hc' hb
      have na := hnorm a (comp_mem (List.mem_of_getElem? ha))
      have nb := hnorm b (comp_mem (List.mem_of_getElem? hb))
      have nc := hnorm _ (comp_mem (List.mem_of_getElem? hc'))
      have h3 := lex_le a.xs (eqsD p)[i + 1 + k].xs b.xs (by rw [na.1.len, nc.1.len]) (by rw [nb.1.len, nc.1.len]) (by omega) (by omega)
      rcases Int.lt_or_eq_of_le h3 with h | h
      · exact h
      · have e := (lex_zero _ _ (by rw [na.1.len, nb.1.len])).1 h
        rw [e, lex_swap] at h1
        omega
  intro a b hij ha hb
  obtain ⟨k, rfl⟩ : ∃ k, j = i + 1 + k := ⟨j - i - 1, by omega⟩
  exact step k a b ha hb
theorem settle_norm {n : Nat} {p out : List CD} (hn : ∀ d ∈ p, NormD n d) (h : settleD p = some out) : ∀ d ∈ out, NormD n d := by
  unfold settleD at h
  split at h
  · cases h
  · split at h
    · cases h
    · split at h
      · cases h
      · cases h
        intro d hd
        rcases List.mem_append.1 hd with hd | hd
        · rcases List.mem_append.1 hd with hd | hd
          · exact (eqs_norm hn d (comp_mem hd)).1
          · have hr : d ∈ restD (gesD p) := by
              unfold impRest at hd
              split at hd
              · exact hd
              · exact (List.mem_filter.1 hd).1
            exact ges_norm hn d (List.mem_filter.1 hr).1
        · have := comp_mem hd
          unfold kindDv at this
          exact hn d ((List.dropWhile_sublist _).subset ((List.dropWhile_sublist _).subset this))
end Go.Proofs.YtkgnlloioaobiaaGreat
namespace Go.Proofs.YtkgnlloioaobiaaGreat
open Go.RowKit
theorem while_at {α : Type} (f : α → Bool) : ∀ (l : List α) (a : Nat), a ≤ l.length → (∀ j x, j < a → l[j]? = some x → f x = true) → (∀ x, l[a]? = some x → f x = false) → l.takeWhile f = l.take a ∧ l.dropWhile f = l.drop a
  | [], a, ha, _, _ => by
    have : a = 0 := by simpa using ha
    subst this
    exact ⟨rfl, rfl⟩
  | x :: l, 0, _, _, h => by
    have := h x rfl
    simp [this]
  | x :: l, a + 1, ha, h1, h2 => by
    have h0 := h1 0 x (by omega) rfl
    obtain ⟨e1, e2⟩ := while_at f l a (by simpa using ha) (fun j y hj hy => h1 (j + 1) y (by omega) (by simpa using hy)) (fun y hy => h2 y (by simpa using hy))
    simp [h0, e1, e2]
theorem kinds_data {els : List CEl} {m a b : Nat} (h : Kinds els m a b) (hl : els.length = m) :
    (els.take a).map CEl.d = kindEq (els.map CEl.d) ∧ ((els.drop a).take (b - a)).map CEl.d = kindGe (els.map CEl.d) ∧ (els.drop b).map CEl.d = kindDv (els.map CEl.d) := by
  have hab := h.ab
  have hbm := h.bm
  have at_ : ∀ {j : Nat} {x : CD}, (els.map CEl.d)[j]? = some x → ∃ e, els[j]? = some e ∧ e.d = x := fun hx => by
    rw [List.getElem?_map] at hx
    exact Option.map_eq_some_iff.1 hx
  obtain ⟨e1, e2⟩ := while_at (fun d : CD => d.q == 1) (els.map CEl.d) a (by rw [List.length_map]; omega) (fun j x hj hx => by
    obtain ⟨e, he, rfl⟩ := at_ hx
    have := h.eqs j e hj he
    simpa [CEl.d] using this) (fun x hx => by
    obtain ⟨e, he, rfl⟩ := at_ hx
    have := h.eqx e he
    simpa [CEl.d] using this)
  obtain ⟨e3, e4⟩ := while_at (fun d : CD => d.q == 0) ((els.map CEl.d).drop a) (b - a) (by rw [List.length_drop, List.length_map]; omega) (fun j x hj hx => by
    rw [List.getElem?_drop] at hx
    obtain ⟨e, he, rfl⟩ := at_ hx
    have := h.ges (a + j) e (by omega) (by omega) he
    simpa [CEl.d] using this) (fun x hx => by
    rw [List.getElem?_drop, show a + (b - a) = b by omega] at hx
    obtain ⟨e, he, rfl⟩ := at_ hx
    have := h.gex e he
    simpa [CEl.d] using this)
  unfold kindEq kindGe kindDv
  rw [e1, e2, e3, e4, List.drop_drop, show a + (b - a) = b by omega]
  simp [List.map_take, List.map_drop]
def Dis (A : Option Addr) (m : Nat) (B : Option Addr) (k : Nat) : Prop := 0 < m → 0 < k → ∀ g o o', A = some ⟨g, o, none⟩ → B = some ⟨g, o', none⟩ → o' + k * 4 ≤ o ∨ o + m * 4 ≤ o'
theorem Dis.less {A B : Option Addr} {m k m' k' : Nat} (h : Dis A m B k) (hm : m' ≤ m) (hk : k' ≤ k) : Dis A m' B k' := fun h1 h2 g o o' ha hb => by
  have := h (by omega) (by omega) g o o' ha hb
  omega
theorem Dis.of_blocks {N0 N : Nat} {W W' : World} {A B : Option Addr} {m k : Nat} {E F : List CEl} (h : CV N0 N W A m E) (h' : CV N0 W.heap.size W' B k F) : Dis A m B k := fun h1 h2 g o o' ha hb => by
  obtain ⟨g1, o1, cur, hA, _, hc, _⟩ := h.row h1
  obtain ⟨g2, o2, hB, hN⟩ := h'.addr h2
  rw [ha] at hA
  rw [hb] at hB
  cases hA
  cases hB
  have := (Array.getElem?_eq_some_iff.1 hc).1
  omega
theorem Dis.symm {A B : Option Addr} {m k : Nat} (h : Dis A m B k) : Dis B k A m := fun h1 h2 g o o' ha hb => (h h2 h1 g o' o hb ha).symm
def KindsAll (N0 N : Nat) (w : World) (e : Ending) (w' : World) (g : Nat) (els : List CEl) : Prop :=
  ∃ E G D o1 o2 o3 c3, e = .returned (.tuple #[.slice (some ⟨g, o1, none⟩) E.length E.length, .slice (some ⟨g, o2, none⟩) G.length G.length, .slice (some ⟨g, o3, none⟩) D.length c3]) ∧
    (D.length ≤ c3 ∧ c3 ≤ 9223372036854775807) ∧
    (CV N0 N w' (some ⟨g, o1, none⟩) E.length E ∧ CV N0 N w' (some ⟨g, o2, none⟩) G.length G ∧ CV N0 N w' (some ⟨g, o3, none⟩) D.length D) ∧
    (Dis (some ⟨g, o2, none⟩) G.length (some ⟨g, o1, none⟩) E.length ∧ Dis (some ⟨g, o2, none⟩) G.length (some ⟨g, o3, none⟩) D.length ∧ Dis (some ⟨g, o1, none⟩) E.length (some ⟨g, o3, none⟩) D.length) ∧
    (E.map CEl.d = kindEq (els.map CEl.d) ∧ G.map CEl.d = kindGe (els.map CEl.d) ∧ D.map CEl.d = kindDv (els.map CEl.d)) ∧
    ((∀ e ∈ E, e ∈ els) ∧ (∀ e ∈ G, e ∈ els) ∧ ∀ e ∈ D, e ∈ els) ∧ E.length + G.length + D.length = els.length ∧ Below w.heap.size w w'
theorem kinds_all {N0 N g m c : Nat} {els : List CEl} (w : World) (V : CV N0 N w (some ⟨g, 0, none⟩) m els) (hmc : m ≤ c) (hc : c ≤ 9223372036854775807) :
    Calls Tryz.prog 118 #[.slice (some ⟨g, 0, none⟩) m c] w fun e w' => KindsAll N0 N w e w' g els := by
  have hl := V.len
  refine (wide_kinds w V.conds V.few hmc hc).mono ?_
  rintro e w' ⟨a, b, o1, o2, o3, rfl, h1, h2, h3, hK, q, rfl⟩
  have hab := hK.ab
  have hbm := hK.bm
  have hb := below_of_drewN (w := w) q
  have V1 := V.step hb
  obtain ⟨d1, d2, d3⟩ := kinds_data hK hl
  have l1 : (els.take a).length = a := by rw [List.length_take]; omega
  have l2 : ((els.drop a).take (b - a)).length = b - a := by rw [List.length_take, List.length_drop]; omega
  have l3 : (els.drop b).length = m - b := by rw [List.length_drop]; omega
  have s1 := V1.sub (i := 0) (k := a) (A' := some ⟨g, o1, none⟩) (by omega) (fun h0 g' o' e => by cases e; rw [h1 h0])
  have s2 := V1.sub (i := a) (k := b - a) (A' := some ⟨g, o2, none⟩) (by omega) (fun h0 g' o' e => by cases e; rw [h2 h0])
  have s3 := V1.sub (i := b) (k := m - b) (A' := some ⟨g, o3, none⟩) (by omega) (fun h0 g' o' e => by cases e; rw [h3 h0])
  rw [List.drop_zero] at s1
  rw [List.take_of_length_le (by rw [l3]; exact Nat.le_refl _)] at s3
  refine ⟨els.take a, (els.drop a).take (b - a), els.drop b, o1, o2, o3, c - b, by rw [l1, l2, l3], ⟨by rw [l3]; omega, by omega⟩, ⟨by rw [l1]; exact s1, by rw [l2]; exact s2, by rw [l3]; exact s3⟩, ⟨?_, ?_, ?_⟩, ⟨d1, d2, d3⟩, ⟨fun e he => List.mem_of_mem_take he, fun e he => List.mem_of_mem_drop (List.mem_of_mem_take he), fun e he => List.mem_of_mem_drop he⟩, by rw [l1, l2, l3, hl]; omega, hb⟩
  · rw [l1, l2]
    intro k1 k2 g' p p' e1 e2
    cases e1; cases e2
    have := h2 k1
    have := h1 k2
    omega
  · rw [l2, l3]
    intro k1 k2 g' p p' e1 e2
    cases e1; cases e2
    have := h2 k1
    have := h3 k2
    omega
  · rw [l1, l3]
    intro k1 k2 g' p p' e1 e2
    cases e1; cases e2
    have := h1 k1
    have := h3 k2
    omega
def CompAll (N0 N : Nat) (w : World) (e : Ending) (w' : World) (A : Option Addr) (m c : Nat) (out : List CEl) : Prop :=
  e = .returned (.slice A out.length c) ∧ CV N0 N w' A out.length out ∧ Touch A m w w' ∧ out.length ≤ m
theorem equal_all {N0 N : Nat} {A : Option Addr} {m c n : Nat} {els : List CEl} (w : World) (h : CV N0 N w A m els) (hmc : m ≤ c) (hc : c ≤ 9223372036854775807) (hn : ∀ e ∈ els, e.n = n) :
    Calls Tryz.prog 119 #[.slice A m c, .func (.func 122) #[] #[]] w fun e w' => CompAll N0 N w e w' A m c (comp equalE els) := by
  have hl := h.len
  by_cases hm : m < 2
  · have HH := Lib.hid h
    have HS := Lib.hid (comp_short (R := equalE) (els := els) (by omega))
    have hq : (m : Int) < 2 := by omega
    have HL := Lib.hid hl
    clear h hl
    go_enter Tryz.func119, Tryz.ntmps119
    go_wp2
    go_ret
    rw [HS.out]
    exact ⟨by rw [HL.out]; rfl, by rw [HL.out]; exact HH.out, Touch.of_below (Below.refl _ _), by rw [HL.out]; exact Nat.le_refl _⟩
  · obtain ⟨g, o, cur, hA, _⟩ := h.row (by omega)
    subst hA
    refine (compact_equal w h (by omega) hmc hc hn).mono ?_
    rintro e w' ⟨k, rfl, hV, hT, hk⟩
    obtain rfl := hV.len
    exact ⟨rfl, hV, hT, hk⟩
theorem slope_all {N0 N : Nat} {A : Option Addr} {m c n : Nat} {els : List CEl} (w : World) (h : CV N0 N w A m els) (hmc : m ≤ c) (hc : c ≤ 9223372036854775807) (hn : ∀ e ∈ els, e.n = n) :
    Calls Tryz.prog 119 #[.slice A m c, .func (.func 120) #[] #[]] w fun e w' => CompAll N0 N w e w' A m c (comp sameE els) := by
  have hl := h.len
  by_cases hm : m < 2
  · have HH := Lib.hid h
    have HS := Lib.hid (comp_short (R := sameE) (els := els) (by omega))
    have hq : (m : Int) < 2 := by omega
    have HL := Lib.hid hl
    clear h hl
    go_enter Tryz.func119, Tryz.ntmps119
    go_wp2
    go_ret
    rw [HS.out]
    exact ⟨by rw [HL.out]; rfl, by rw [HL.out]; exact HH.out, Touch.of_below (Below.refl _ _), by rw [HL.out]; exact Nat.le_refl _⟩
  · obtain ⟨g, o, cur, hA, _⟩ := h.row (by omega)
    subst hA
    refine (compact_slope w h (by omega) hmc hc hn).mono ?_
    rintro e w' ⟨k, rfl, hV, hT, hk⟩
    obtain rfl := hV.len
    exact ⟨rfl, hV, hT, hk⟩
theorem paired_yes {N0 n : Nat} {A : Option Addr} {m c : Nat} {els : List CEl} (w : World) (C0 : CondsAt w A m els) (hrows : ∀ e ∈ els, RowOk N0 w e.A e.n) (hfew : m ≤ 1000) (hcalm : Calm n els) (hv : pairVoid (els.map CEl.d) = true) :
    Calls Tryz.prog 121 #[.slice A m c] w fun e w' => e = .returned (.tuple #[.slice none 0 0, .slice none 0 0, .bool true]) ∧ Below w.heap.size w w' := by
  refine (wide_paired w C0 hrows hfew hcalm).mono ?_
  rintro e w' ⟨⟨_, rfl⟩ | ⟨h, _⟩, hb⟩
  · exact ⟨rfl, hb⟩
  · rw [hv] at h; cases h
theorem paired_no {N0 n : Nat} {A : Option Addr} {m c : Nat} {els : List CEl} (w : World) (C0 : CondsAt w A m els) (hrows : ∀ e ∈ els, RowOk N0 w e.A e.n) (hfew : m ≤ 1000) (hcalm : Calm n els) (hv : pairVoid (els.map CEl.d) = false) :
    Calls Tryz.prog 121 #[.slice A m c] w fun e w' => (∃ A1 t c1 A2 r c2, e = .returned (.tuple #[.slice A1 t.length c1, .slice A2 r.length c2, .bool false]) ∧ CL2 N0 w.heap.size w' (.slice A1 t.length c1) t ∧ t.map CEl.d = tightD (els.map CEl.d) ∧ CL2 N0 w.heap.size w' (.slice A2 r.length c2) r ∧ r.map CEl.d = restD (els.map CEl.d) ∧ (∀ e ∈ t, e.n = n) ∧ ∀ e ∈ r, e.n = n) ∧ Below w.heap.size w w' := by
  refine (wide_paired w C0 hrows hfew hcalm).mono ?_
  rintro e w' ⟨⟨h, _⟩ | ⟨_, u, t, v, r, rfl, h1, h2, h3, h4, h5⟩, hb⟩
  · rw [hv] at h; cases h
  · obtain ⟨A1, c1, rfl⟩ := h1.slice
    obtain ⟨A2, c2, rfl⟩ := h3.slice
    exact ⟨⟨A1, t, c1, A2, r, c2, rfl, h1, h2, h3, h4, h5⟩, hb⟩
theorem unimp_yes {N0 N n : Nat} {A : Option Addr} {m c : Nat} {E : List CEl} {B : Option Addr} {k0 c2 : Nat} {G : List CEl} (w : World) (CE : CondsAt w A m E) (hE : Calm n E) (hm : m ≤ 1000) (CG : CV N0 N w B k0 G) (hG : ∀ e ∈ G, e.n = n ∧ NormD n e.d)
    (hN : N ≤ w.heap.size) (hk0 : k0 ≤ 1000) (hkc : k0 ≤ c2) (hc2 : c2 ≤ 9223372036854775807) (hsane : Sane B c2) (hv : impVoid (E.map CEl.d) (G.map CEl.d) = true) :
    Calls Tryz.prog 123 #[.slice A m c, .slice B k0 c2] w fun e w' => e = .returned (.tuple #[.slice none 0 0, .bool true]) ∧ Below w.heap.size w w' := by
  refine (wide_unimplied w CE hE hm CG (fun e he => (hG e he).1) (fun e he y hy => by have := (hG e he).2.x y hy; omega) (fun e he => (hG e he).2.k) hN hk0 hkc hc2 hsane).mono ?_
  rintro e w' ⟨⟨_, rfl⟩ | ⟨h, _⟩, hb⟩
  · exact ⟨rfl, hb⟩
  · rw [hv] at h; cases h
theorem unimp_no {N0 N n : Nat} {A : Option Addr} {m c : Nat} {E : List CEl} {B : Option Addr} {k0 c2 : Nat} {G : List CEl} (w : World) (CE : CondsAt w A m E) (hE : Calm n E) (hm : m ≤ 1000) (CG : CV N0 N w B k0 G) (hG : ∀ e ∈ G, e.n = n ∧ NormD n e.d)
    (hN : N ≤ w.heap.size) (hk0 : k0 ≤ 1000) (hkc : k0 ≤ c2) (hc2 : c2 ≤ 9223372036854775807) (hsane : Sane B c2) (hv : impVoid (E.map CEl.d) (G.map CEl.d) = false) :
    Calls Tryz.prog 123 #[.slice A m c, .slice B k0 c2] w fun e w' => (∃ A' c' r, e = .returned (.tuple #[.slice A' r.length c', .bool false]) ∧ CV N0 N w' A' r.length r ∧ Sane A' c' ∧ r.map CEl.d = impRest (E.map CEl.d) (G.map CEl.d) ∧ ∀ e ∈ r, e.n = n) ∧ Below w.heap.size w w' := by
  refine (wide_unimplied w CE hE hm CG (fun e he => (hG e he).1) (fun e he y hy => by have := (hG e he).2.x y hy; omega) (fun e he => (hG e he).2.k) hN hk0 hkc hc2 hsane).mono ?_
  rintro e w' ⟨⟨h, _⟩ | ⟨_, A', k, c', r, rfl, h1, _, _, h2, h3, h4⟩, hb⟩
  · rw [hv] at h; cases h
  · obtain rfl := h1.len
    exact ⟨⟨A', c', r, rfl, h1, h2, h3, h4⟩, hb⟩
structure KP (n : Nat) (ds : List CD) (E G D : List CEl) : Prop where
  e : E.map CEl.d = kindEq ds
  g : (comp sameE G).map CEl.d = gesD ds
  v : D.map CEl.d = kindDv ds
  eN : ∀ e ∈ E, e.n = n ∧ NormD n e.d
  gN : ∀ e ∈ G, e.n = n
  gC : ∀ e ∈ comp sameE G, e.n = n ∧ NormD n e.d
  dN : ∀ e ∈ D, e.n = n
  calm : Calm n (comp sameE G)
  len : E.length + G.length + D.length ≤ 1000
theorem calm_of {n : Nat} {l : List CEl} (h : ∀ e ∈ l, e.n = n ∧ NormD n e.d) (hs : Slopes (l.map CEl.d)) : Calm n l :=
  ⟨fun e he => (h e he).1, fun e he y hy => by have := (h e he).2.x y hy; omega, fun e he => (h e he).2.k, fun i j x y hij hx hy => hs i j x.d y.d hij (by rw [List.getElem?_map, hx]; rfl) (by rw [List.getElem?_map, hy]; rfl)⟩
theorem kp_of {n : Nat} {els E G D : List CEl} (hn : ∀ e ∈ els, e.n = n ∧ NormD n e.d) (hs : Sorted (els.map CEl.d)) (hl : els.length ≤ 1000)
    (hd : E.map CEl.d = kindEq (els.map CEl.d) ∧ G.map CEl.d = kindGe (els.map CEl.d) ∧ D.map CEl.d = kindDv (els.map CEl.d)) (hm : (∀ e ∈ E, e ∈ els) ∧ (∀ e ∈ G, e ∈ els) ∧ ∀ e ∈ D, e ∈ els) (hz : E.length + G.length + D.length = els.length) : KP n (els.map CEl.d) E G D := by
  have hg : (comp sameE G).map CEl.d = gesD (els.map CEl.d) := by
    rw [comp_map sameE CEl.d slopeD (fun a b => rfl), hd.2.1]; rfl
  have hC : ∀ e ∈ comp sameE G, e.n = n ∧ NormD n e.d := fun e he => hn e (hm.2.1 e (comp_mem he))
  refine ⟨hd.1, hg, hd.2.2, fun e he => hn e (hm.1 e he), fun e he => (hn e (hm.2.1 e he)).1, hC, fun e he => (hn e (hm.2.2 e he)).1, calm_of hC ?_, by omega⟩
  rw [hg]
  exact ges_slopes hs (fun d hd => by obtain ⟨e, he, rfl⟩ := List.mem_map.1 hd; exact (hn e he).2)
theorem tight_len (l : List CD) : (tightD l).length ≤ l.length := by
  have : ∀ m : List CD, (m.flatMap (tightOne l)).length ≤ m.length := by
    intro m
    induction m with
    | nil => exact Nat.le_refl _
    | cons a m ih =>
      have : (tightOne l a).length ≤ 1 := by
        unfold tightOne
        split
        · split <;> simp
        · simp
      simp only [List.flatMap_cons, List.length_append, List.length_cons]
      omega
  exact this l
theorem rest_len (l : List CD) : (restD l).length ≤ l.length := List.length_filter_le _ _
theorem kp_tight {n : Nat} {ds : List CD} {E G D t r : List CEl} (h : KP n ds E G D) (ht : t.map CEl.d = tightD ((comp sameE G).map CEl.d)) (hr : r.map CEl.d = restD ((comp sameE G).map CEl.d)) (htn : ∀ e ∈ t, e.n = n) (hrn : ∀ e ∈ r, e.n = n) :
    (t.length ≤ G.length ∧ r.length ≤ G.length) ∧ (∀ e ∈ t, e.n = n ∧ NormD n e.d) ∧ ∀ e ∈ r, e.n = n ∧ NormD n e.d := by
  have hcl := comp_len sameE G
  have h1 := congrArg List.length ht
  have h2 := congrArg List.length hr
  have h3 := tight_len ((comp sameE G).map CEl.d)
  have h4 := rest_len ((comp sameE G).map CEl.d)
  simp only [List.length_map] at h1 h2 h3 h4
  have hN : ∀ d ∈ (comp sameE G).map CEl.d, NormD n d := fun d hd => by
    obtain ⟨e, he, rfl⟩ := List.mem_map.1 hd
    exact (h.gC e he).2
  refine ⟨⟨by omega, by omega⟩, fun e he => ⟨htn e he, ?_⟩, fun e he => ⟨hrn e he, ?_⟩⟩
  · exact (tight_norm hN e.d (by rw [← ht]; exact List.mem_map.2 ⟨e, he, rfl⟩)).1
  · have hm : e.d ∈ r.map CEl.d := List.mem_map.2 ⟨e, he, rfl⟩
    rw [hr] at hm
    exact hN _ (List.mem_filter.1 hm).1
structure EP (n : Nat) (ds : List CD) (E2 : List CEl) : Prop where
  d : E2.map CEl.d = eqsIn ds
  n : ∀ e ∈ E2, e.n = n
  len : E2.length ≤ 1000
theorem ep_less {n : Nat} {ds : List CD} {E G D : List CEl} (h : KP n ds E G D) (h0 : (tightD (gesD ds)).length = 0) : EP n ds E :=
  ⟨by unfold eqsIn; rw [if_neg (by omega)]; exact h.e, fun e he => (h.eN e he).1, by have := h.len; omega⟩
theorem ep_more {n : Nat} {ds : List CD} {E G D t E2 : List CEl} (h : KP n ds E G D) (ht : t.map CEl.d = tightD ((comp sameE G).map CEl.d)) (htn : ∀ e ∈ t, e.n = n) (hp : E2.Perm (E ++ t)) (hd : E2.map CEl.d = sortD ((E ++ t).map CEl.d)) (h0 : 0 < (tightD (gesD ds)).length) : EP n ds E2 := by
  refine ⟨?_, fun e he => ?_, ?_⟩
  · unfold eqsIn
    rw [if_pos h0, hd, List.map_append, h.e, ht, h.g]
  · rcases List.mem_append.1 (hp.mem_iff.1 he) with h1 | h1
    · exact (h.eN e h1).1
    · exact htn e h1
  · rw [hp.length_eq, List.length_append]
    have h1 := congrArg List.length ht
    have h3 := tight_len ((comp sameE G).map CEl.d)
    have hcl := comp_len sameE G
    simp only [List.length_map] at h1 h3
    have := h.len
    omega
theorem ep_comp {n : Nat} {els E2 : List CEl} (h : EP n (els.map CEl.d) E2) (hn : ∀ e ∈ els, e.n = n ∧ NormD n e.d) (hs : Sorted (els.map CEl.d)) :
    (comp equalE E2).map CEl.d = eqsD (els.map CEl.d) ∧ (∀ e ∈ comp equalE E2, e.n = n ∧ NormD n e.d) ∧ (comp equalE E2).length ≤ 1000 ∧ (clashD (eqsD (els.map CEl.d)) = false → Calm n (comp equalE E2)) := by
  have hd : (comp equalE E2).map CEl.d = eqsD (els.map CEl.d) := by
    rw [comp_map equalE CEl.d equalD (fun a b => rfl), h.d]; rfl
  have hN : ∀ d ∈ els.map CEl.d, NormD n d := fun d hd => by obtain ⟨e, he, rfl⟩ := List.mem_map.1 hd; exact (hn e he).2
  have hA : ∀ e ∈ comp equalE E2, e.n = n ∧ NormD n e.d := fun e he => ⟨h.n e (comp_mem he), (eqs_norm hN e.d (by rw [← h.d]; exact List.mem_map.2 ⟨e, comp_mem he, rfl⟩)).1⟩
  refine ⟨hd, hA, by have := comp_len equalE E2; have := h.len; omega, fun hc => calm_of hA ?_⟩
  rw [hd]
  exact eqs_slopes hs hN hc
theorem pieces_lit {w : World} {g : Nat} {ps : List PEl} (hg : w.heap[g]? = some (.cells (ps.map fun p => Value.slice p.A p.n p.c).toArray 34 (0, 0))) (hm : ps.length ≤ 1000) (hC : ∀ p ∈ ps, CondsAt w p.A p.n p.els) : PiecesAt w (some ⟨g, 0, none⟩) ps.length ps :=
  ⟨rfl, by omega, fun _ => ⟨g, 0, rfl, (Array.getElem?_eq_some_iff.1 hg).1, fun j p hp => by
    rw [cell_of_row w g _ _ _ (0, 0) hg]
    simp [hp]⟩, hC⟩
theorem own_addr {w : World} {N0 N : Nat} {A : Option Addr} {m c : Nat} {els : List CEl} (h : CL2 N0 N w (.slice A m c) els) (h0 : 0 < m) : ∃ g, A = some ⟨g, 0, none⟩ := by
  rcases h.own.2 with ⟨hv, h1⟩ | ⟨g, cap, cur, hv, _⟩
  · cases hv; omega
  · cases hv; exact ⟨g, rfl⟩
def JoinRet (N0 : Nat) (w : World) (e : Ending) (w' : World) (out : List CEl) : Prop := ∃ A n c l, e = .returned (.slice A n c) ∧ CL2 N0 w.heap.size w' (.slice A n c) l ∧ l = out ∧ Below w.heap.size w w'
theorem concat_two {N0 N1 N2 : Nat} {A1 A2 : Option Addr} {n1 c1 n2 c2 : Nat} {E F : List CEl} (w : World) (X1 : CV N0 N1 w A1 n1 E) (S1 : Sane A1 c1) (X2 : CV N0 N2 w A2 n2 F) (S2 : Sane A2 c2) (hl : E.length + F.length ≤ 100000) :
    Calls Tryz.prog 52 #[.slice (some ⟨w.heap.size, 0, none⟩) 2 2] (w.alloc (.cells #[.slice A1 n1 c1, .slice A2 n2 c2] 34)) fun e w' => JoinRet N0 w e w' (E ++ F) := by
  have hb := below_alloc w (.cells #[.slice A1 n1 c1, .slice A2 n2 c2] 34)
  have Y1 := X1.step hb
  have Y2 := X2.step hb
  have hP : PiecesAt (w.alloc (.cells #[.slice A1 n1 c1, .slice A2 n2 c2] 34)) (some ⟨w.heap.size, 0, none⟩) 2 [⟨A1, n1, c1, E⟩, ⟨A2, n2, c2, F⟩] :=
    pieces_lit (ps := [⟨A1, n1, c1, E⟩, ⟨A2, n2, c2, F⟩]) (heap_alloc_new w _) (by simp) (fun p hp => by
      simp only [List.mem_cons, List.not_mem_nil, or_false] at hp
      rcases hp with rfl | rfl
      · exact Y1.conds
      · exact Y2.conds)
  refine (conds_concat (N0 := N0) _ hP (fun p hp e he => ?_) (fun p hp => ?_) (by simpa using hl) (by decide)).mono ?_
  · simp only [List.mem_cons, List.not_mem_nil, or_false] at hp
    rcases hp with rfl | rfl
    · exact Y1.rows e he
    · exact Y2.rows e he
  · simp only [List.mem_cons, List.not_mem_nil, or_false] at hp
    rcases hp with rfl | rfl
    · exact S1
    · exact S2
  · rintro e w' ⟨A, c, rfl, hL, hb'⟩
    exact ⟨A, _, c, _, rfl, hL.mono (Nat.le_refl _) hb.size, by simp, hb.trans (hb'.mono hb.size)⟩
theorem concat_three {N0 N1 N2 N3 : Nat} {A1 A2 A3 : Option Addr} {n1 c1 n2 c2 n3 c3 : Nat} {E F G : List CEl} (w : World) (X1 : CV N0 N1 w A1 n1 E) (S1 : Sane A1 c1) (X2 : CV N0 N2 w A2 n2 F) (S2 : Sane A2 c2) (X3 : CV N0 N3 w A3 n3 G) (S3 : Sane A3 c3) (hl : E.length + F.length + G.length ≤ 100000) :
    Calls Tryz.prog 52 #[.slice (some ⟨w.heap.size, 0, none⟩) 3 3] (w.alloc (.cells #[.slice A1 n1 c1, .slice A2 n2 c2, .slice A3 n3 c3] 34)) fun e w' => JoinRet N0 w e w' (E ++ F ++ G) := by
  have hb := below_alloc w (.cells #[.slice A1 n1 c1, .slice A2 n2 c2, .slice A3 n3 c3] 34)
  have Y1 := X1.step hb
  have Y2 := X2.step hb
  have Y3 := X3.step hb
  have hP : PiecesAt (w.alloc (.cells #[.slice A1 n1 c1, .slice A2 n2 c2, .slice A3 n3 c3] 34)) (some ⟨w.heap.size, 0, none⟩) 3 [⟨A1, n1, c1, E⟩, ⟨A2, n2, c2, F⟩, ⟨A3, n3, c3, G⟩] :=
    pieces_lit (ps := [⟨A1, n1, c1, E⟩, ⟨A2, n2, c2, F⟩, ⟨A3, n3, c3, G⟩]) (heap_alloc_new w _) (by simp) (fun p hp => by
      simp only [List.mem_cons, List.not_mem_nil, or_false] at hp
      rcases hp with rfl | rfl | rfl
      · exact Y1.conds
      · exact Y2.conds
      · exact Y3.conds)
  refine (conds_concat (N0 := N0) _ hP (fun p hp e he => ?_) (fun p hp => ?_) (by simp; omega) (by decide)).mono ?_
  · simp only [List.mem_cons, List.not_mem_nil, or_false] at hp
    rcases hp with rfl | rfl | rfl
    · exact Y1.rows e he
    · exact Y2.rows e he
    · exact Y3.rows e he
  · simp only [List.mem_cons, List.not_mem_nil, or_false] at hp
    rcases hp with rfl | rfl | rfl
    · exact S1
    · exact S2
    · exact S3
  · rintro e w' ⟨A, c, rfl, hL, hb'⟩
    exact ⟨A, _, c, _, rfl, hL.mono (Nat.le_refl _) hb.size, by simp, hb.trans (hb'.mono hb.size)⟩
theorem imp_len (es gs : List CD) : (impRest es gs).length ≤ gs.length := by
  unfold impRest
  split
  · exact Nat.le_refl _
  · exact List.length_filter_le _ _
theorem sane_some {b o c : Nat} : Sane (some ⟨b, o, none⟩) c := ⟨(fun h => nomatch h), fun ad h => by cases h; rfl⟩
end Go.Proofs.YtkgnlloioaobiaaGreat
namespace Go.Proofs.YtkgnlloioaobiaaGreat
open Go.Shelf
def sortCond_ren : Go.Shelf.Ren := ⟨fun | 6 => 93 | 15 => 114 | 14 => 113 | 28 => 142 | 29 => 143 | 20 => 134 | 21 => 135 | 22 => 136 | 23 => 137 | 24 => 138 | 25 => 139 | 26 => 140 | 27 => 141 | 46 => 152 | 47 => 153 | 48 => 154 | 49 => 155 | 50 => 156 | 57 => 163 | n => n, fun | 22 => 34 | 24 => 56 | 25 => 93 | 3 => 3 | 39 => 125 | 0 => 0 | 53 => 157 | 55 => 144 | 4 => 4 | 46 => 150 | 45 => 149 | 50 => 154 | 5 => 5 | 9 => 9 | 66 => 164 | 70 => 168 | 76 => 172 | 77 => 173 | n => n, fun | n => n⟩
theorem sortCond : Go.Proofs.SlLaysF0.n6 Tryz.prog sortCond_ren := {
  mixed := by kernel_rfl,
  f6 := ⟨Tryz.f93.name, by decide, Tryz.func93.trans (congrArg some (by kernel_rfl))⟩,
  f14 := ⟨Tryz.f113.name, by decide, Tryz.func113.trans (congrArg some (by kernel_rfl))⟩,
  f15 := Tryz.func114.trans (congrArg some (by kernel_rfl)),
  f20 := ⟨Tryz.f134.name, by decide, Tryz.func134.trans (congrArg some (by kernel_rfl))⟩,
  f21 := ⟨Tryz.f135.name, by decide, Tryz.func135.trans (congrArg some (by kernel_rfl))⟩,
  f22 := ⟨Tryz.f136.name, by decide, Tryz.func136.trans (congrArg some (by kernel_rfl))⟩,
  f23 := ⟨Tryz.f137.name, by decide, Tryz.func137.trans (congrArg some (by kernel_rfl))⟩,
  f24 := ⟨Tryz.f138.name, by decide, Tryz.func138.trans (congrArg some (by kernel_rfl))⟩,
  f25 := ⟨Tryz.f139.name, by decide, Tryz.func139.trans (congrArg some (by kernel_rfl))⟩,
  f26 := ⟨Tryz.f140.name, by decide, Tryz.func140.trans (congrArg some (by kernel_rfl))⟩,
  f27 := ⟨Tryz.f141.name, by decide, Tryz.func141.trans (congrArg some (by kernel_rfl))⟩,
  f28 := Tryz.func142.trans (congrArg some (by kernel_rfl)),
  f29 := Tryz.func143.trans (congrArg some (by kernel_rfl)),
  f46 := ⟨Tryz.f152.name, by decide, Tryz.func152.trans (congrArg some (by kernel_rfl))⟩,
  f47 := Tryz.func153.trans (congrArg some (by kernel_rfl)),
  f48 := Tryz.func154.trans (congrArg some (by kernel_rfl)),
  f49 := ⟨Tryz.f155.name, by decide, Tryz.func155.trans (congrArg some (by kernel_rfl))⟩,
  f50 := ⟨Tryz.f156.name, by decide, Tryz.func156.trans (congrArg some (by kernel_rfl))⟩,
  f57 := ⟨Tryz.f163.name, by decide, Tryz.func163.trans (congrArg some (by kernel_rfl))⟩,
  t0 := Tryz.underlying0,
  a0 := Tryz.isAgg0,
  z0 := Tryz.sizeOf0,
  v0 := Tryz.zeroValue0,
  t3 := Tryz.underlying3,
  a3 := Tryz.isAgg3,
  z3 := Tryz.sizeOf3,
  v3 := Tryz.zeroValue3,
  t4 := Tryz.underlying4,
  a4 := Tryz.isAgg4,
  z4 := Tryz.sizeOf4,
  v4 := Tryz.zeroValue4,
  t5 := Tryz.underlying5,
  a5 := Tryz.isAgg5,
  z5 := Tryz.sizeOf5,
  v5 := Tryz.zeroValue5,
  t9 := Tryz.underlying9,
  a9 := Tryz.isAgg9,
  z9 := Tryz.sizeOf9,
  v9 := Tryz.zeroValue9,
  t22 := Tryz.underlying34,
  a22 := Tryz.isAgg34,
  z22 := Tryz.sizeOf34,
  v22 := Tryz.zeroValue34,
  t25 := Tryz.underlying93,
  a25 := Tryz.isAgg93,
  z25 := Tryz.sizeOf93,
  v25 := Tryz.zeroValue93,
  t39 := Tryz.underlying125,
  a39 := Tryz.isAgg125,
  z39 := Tryz.sizeOf125,
  v39 := Tryz.zeroValue125,
  t45 := Tryz.underlying149,
  a45 := Tryz.isAgg149,
  z45 := Tryz.sizeOf149,
  v45 := Tryz.zeroValue149,
  t46 := Tryz.underlying150,
  a46 := Tryz.isAgg150,
  z46 := Tryz.sizeOf150,
  v46 := Tryz.zeroValue150,
  t50 := Tryz.underlying154,
  a50 := Tryz.isAgg154,
  z50 := Tryz.sizeOf154,
  v50 := Tryz.zeroValue154,
  t53 := Tryz.underlying157,
  a53 := Tryz.isAgg157,
  z53 := Tryz.sizeOf157,
  v53 := Tryz.zeroValue157,
  t55 := Tryz.underlying144,
  a55 := Tryz.isAgg144,
  z55 := Tryz.sizeOf144,
  v55 := Tryz.zeroValue144,
  t66 := Tryz.underlying164,
  a66 := Tryz.isAgg164,
  z66 := Tryz.sizeOf164,
  v66 := Tryz.zeroValue164,
  t70 := Tryz.underlying168,
  a70 := Tryz.isAgg168,
  z70 := Tryz.sizeOf168,
  v70 := Tryz.zeroValue168,
  t76 := Tryz.underlying172,
  a76 := Tryz.isAgg172,
  z76 := Tryz.sizeOf172,
  v76 := Tryz.zeroValue172,
  t77 := Tryz.underlying173,
  a77 := Tryz.isAgg173,
  z77 := Tryz.sizeOf173,
  v77 := Tryz.zeroValue173 }
end Go.Proofs.YtkgnlloioaobiaaGreat
namespace Go.Proofs.YtkgnlloioaobiaaGreat
open Go.Shelf Go.RowKit Go.Lib Go.Sort
def Good (w : World) (blk n : Nat) (e : CEl) : Prop := e.n = n ∧ IntsAt w e.A e.n e.xs ∧ ∀ b off s, 0 < e.n → e.A = some ⟨b, off, s⟩ → b ≠ blk
abbrev GEl (w : World) (blk n : Nat) := { e : CEl // Good w blk n e }
def encG {w : World} {blk n : Nat} (x : GEl w blk n) : List Value := x.1.cells
def ordG {w : World} {blk n : Nat} (x y : GEl w blk n) : Int := ordC x.1.q x.1.M x.1.xs x.1.K y.1.q y.1.M y.1.xs y.1.K
section
variable {w : World} {blk n : Nat} [Inhabited (GEl w blk n)]
theorem ints_sort {e : CEl} (h : Good w blk n e) (off m : Nat) (dk : Array (GEl w blk n)) (os : Array Obj) : IntsAt (sortWorldK encG 4 w blk off m dk os) e.A e.n e.xs := by
  obtain ⟨_, hI, hne⟩ := h
  refine ⟨hI.len, hI.small, hI.wf, fun hn => ?_⟩
  obtain ⟨b, o, hA, hlt, hc⟩ := hI.cells hn
  exact ⟨b, o, hA, Nat.lt_of_lt_of_le hlt (size_sortWorldK_c ..), fun j hj => (cell?_sortWorldK_other encG 4 w blk off m dk os ⟨b, o + j, none⟩ (hne b o _ hn hA) hlt).trans (hc j hj)⟩
omit [Inhabited (GEl w blk n)] in
theorem order_els (W : World) (a b : CEl) (e : a.n = b.n) (h1 : IntsAt W a.A a.n a.xs) (h2 : IntsAt W b.A b.n b.xs) :
    Calls Tryz.prog 94 (#[.agg a.cells.toArray, .agg b.cells.toArray] ++ #[]) W fun e w' => e = .returned (.int .i64 (ordC a.q a.M a.xs a.K b.q b.M b.xs b.K)) ∧ ∃ q os', w' = grow (W.drewN q) os' := by
  obtain ⟨q, M, A, n1, c, K, xs⟩ := a
  obtain ⟨q', M', A', n2, c', K', ys⟩ := b
  have e : n1 = n2 := e
  subst e
  exact wide_order q M A n1 c K xs q' M' A' c' K' ys W h1 h2
theorem cond_lays (off size : Nat) : CmpLays Tryz.prog 94 #[] (encG (w := w) (blk := blk) (n := n)) 4 ordG blk off size w := by
  intro m os dk hs x y
  exact order_els _ x.1 y.1 (x.2.1.trans y.2.1.symm) (ints_sort x.2 off m dk os) (ints_sort y.2 off m dk os)
theorem key_ord (x y : GEl w blk n) : ordG x y = ordL (keyD x.1.d) (keyD y.1.d) ∧ (keyD x.1.d).length = n + 3 := by
  have hx : x.1.xs.length = n := x.2.2.1.len.trans x.2.1
  have hy : y.1.xs.length = n := y.2.2.1.len.trans y.2.1
  refine ⟨?_, (key_len _).trans (by show x.1.xs.length + 3 = _; rw [hx])⟩
  rw [← ordD_key (a := x.1.d) (b := y.1.d) (by show x.1.xs.length = y.1.xs.length; rw [hx, hy])]
  rfl
theorem ordG_swo : SWO (ltOf (ordG (w := w) (blk := blk) (n := n))) where
  irrefl x := by
    unfold ltOf
    rw [(key_ord x x).1, (lex_zero _ _ rfl).2 rfl]; rfl
  trans x y z h1 h2 := by
    unfold ltOf at *
    rw [(key_ord _ _).1] at *
    have lx := (key_ord x x).2
    have ly := (key_ord y y).2
    have lz := (key_ord z z).2
    generalize keyD x.1.d = a at *
    generalize keyD y.1.d = b at *
    generalize keyD z.1.d = c at *
    have h1 : ordL a b < 0 := of_decide_eq_true h1
    have h2 : ordL b c < 0 := of_decide_eq_true h2
    have h3 := lex_le a b c (by omega) (by omega) (by omega) (by omega)
    refine decide_eq_true ?_
    by_cases h0 : ordL a c = 0
    · have e := (lex_zero a c (by omega)).1 h0
      subst e
      have := lex_swap a b
      omega
    · omega
  ntrans x y z h1 h2 := by
    unfold ltOf at *
    rw [(key_ord _ _).1] at *
    have lx := (key_ord x x).2
    have ly := (key_ord y y).2
    have lz := (key_ord z z).2
    generalize keyD x.1.d = a at *
    generalize keyD y.1.d = b at *
    generalize keyD z.1.d = c at *
    have h1 : ¬ ordL a b < 0 := of_decide_eq_false h1
    have h2 : ¬ ordL b c < 0 := of_decide_eq_false h2
    have s1 := lex_swap a b
    have s2 := lex_swap b c
    have s3 := lex_swap a c
    have h3 := lex_le c b a (by omega) (by omega) (by omega) (by omega)
    exact decide_eq_false (by omega)
theorem cond_sort (off cap : Nat) (d : Array (GEl w blk n)) (hH : HoldsK encG 4 w blk off d) (hblk : blk < w.heap.size) (hsz : d.size < 4611686018427387904) :
    Calls Tryz.prog 93 #[.slice (some ⟨blk, off, none⟩) d.size cap, .func (.func 94) #[] #[]] w fun e w' => e = .returned (.tuple #[]) ∧ ∃ d' k os, PermIn 0 d.size d d' ∧ SortedIn (ltOf ordG) 0 d.size d' ∧ w' = sortWorldK encG 4 w blk off k d' os := by
  have eg : ∀ args w, (callFunc 94 args).run Tryz.prog w = .ok (.enter 94 args) w := enters_of Tryz.func94 (by kernel_rfl) rfl
  exact AnyQ.slices_SortFunc sortCond 4 (fun w => rfl) (fun w => rfl) encG (fun _ => rfl) (fun x v hv => by simp [encG, CEl.cells] at hv; rcases hv with rfl | rfl | rfl | rfl <;> rfl) ordG ordG_swo 94 #[] blk off cap d w eg (cond_lays off d.size) hH hblk hsz
end
end Go.Proofs.YtkgnlloioaobiaaGreat
namespace Go.Proofs.YtkgnlloioaobiaaGreat
open Go.Shelf Go.RowKit Go.Lib Go.Sort
section
variable {w : World} {blk n : Nat} [Inhabited (GEl w blk n)]
theorem sort_data {d d' : Array (GEl w blk n)} (hq : ∀ x ∈ d.toList, x.1.q = 0 ∨ x.1.q = 1 ∨ x.1.q = 2) (hp : PermIn 0 d.size d d') (hs : SortedIn (ltOf ordG) 0 d.size d') :
    d'.size = d.size ∧ d'.toList.Perm d.toList ∧ d'.toList.map (fun x => x.1.d) = sortD (d.toList.map fun x => x.1.d) := by
  obtain ⟨hz, _, hp⟩ := hp
  have hp : d'.toList.Perm d.toList := by
    have e : d'.extract 0 d.size = d' := by rw [← hz]; exact Array.extract_size
    rwa [e, Array.extract_size] at hp
  refine ⟨hz, hp, ?_⟩
  refine sortD_eq (n := n) (fun c hc => ?_) (fun c hc => ?_) (hp.map _) ?_
  · obtain ⟨x, hx, rfl⟩ := List.mem_map.1 hc
    exact hq x hx
  · obtain ⟨x, hx, rfl⟩ := List.mem_map.1 hc
    exact x.2.2.1.len.trans x.2.1
  · rw [List.pairwise_map, List.pairwise_iff_getElem]
    intro i j hi hj hij
    have h := hs i j (Nat.zero_le _) hij (by rw [← hz]; simpa using hj)
    have h1 : d'[j]! = d'.toList[j] := by rw [getElem!_pos d' j (by simpa using hj)]; rfl
    have h2 : d'[i]! = d'.toList[i] := by rw [getElem!_pos d' i (by simpa using hi)]; rfl
    rw [h1, h2] at h
    generalize d'.toList[j] = y at h ⊢
    generalize d'.toList[i] = x at h ⊢
    have h3 : ¬ ordG y x < 0 := of_decide_eq_false h
    rw [(key_ord y x).1] at h3
    have h4 : ordD x.1.d y.1.d = ordG x y := rfl
    rw [h4, (key_ord x y).1]
    have := lex_swap (keyD x.1.d) (keyD y.1.d)
    omega
end
end Go.Proofs.YtkgnlloioaobiaaGreat
namespace Go.Proofs.YtkgnlloioaobiaaGreat
open Go.Shelf Go.RowKit Go.Lib Go.Sort
theorem heap_sort {w : World} {g : Nat} {cur : Array Value} {e : TypeId} {fr : Nat × Nat} (h : w.heap[g]? = some (.cells cur e fr)) (F : Array Value) (q : Nat) (os : Array Obj) :
    (grow (putRow id (Sort.ahead w q) g 0 F) os).heap[g]? = some (.cells (putCells id 0 F cur) e fr) := by
  have hlt := (Array.getElem?_eq_some_iff.1 h).1
  show ((w.heap.modify g (onCells (putCells id 0 F))) ++ os)[g]? = _
  rw [Array.getElem?_append_left (by simpa using hlt), Array.getElem?_modify, if_pos rfl, h]
  rfl
theorem take_put {cur F : Array Value} (h : F.size ≤ cur.size) : (putCells id 0 F cur).toList.take F.size = F.toList := by
  apply List.ext_getElem?
  intro i
  rw [List.getElem?_take]
  by_cases hi : i < F.size
  · rw [if_pos hi, Array.getElem?_toList, Array.getElem?_toList]
    unfold putCells
    rw [Array.getElem?_mapIdx, Array.getElem?_eq_getElem (by omega), Array.getElem?_eq_getElem hi, Option.map_some, if_pos ⟨Nat.zero_le _, by omega⟩, Nat.sub_zero, getElem!_pos F i hi]
    rfl
  · rw [if_neg hi, Array.getElem?_toList, Array.getElem?_eq_none (by omega)]
section
variable {w : World} {blk n : Nat} [Inhabited (GEl w blk n)]
theorem flat_cells (d : Array (GEl w blk n)) : (flatK encG 4 d).toList = ccells (d.toList.map (·.1)) := by
  apply List.ext_getElem?
  intro t
  by_cases ht : t < d.size * 4
  · obtain ⟨q, r, rfl, hr⟩ : ∃ q r, t = q * 4 + r ∧ r < 4 := ⟨t / 4, t % 4, by omega, by omega⟩
    have hq : q < d.size := by omega
    have ha := ccells_at (d.toList.map (·.1)) q d[q].1 (by simp [hq])
    have hg := get_flatK encG 4 d (q * 4 + r) ht
    rw [show (q * 4 + r) / 4 = q by omega, show (q * 4 + r) % 4 = r by omega, getElem!_pos d q hq, getElem!_pos _ (q * 4 + r) (by rw [size_flatK]; exact ht)] at hg
    rw [Array.getElem?_toList, Array.getElem?_eq_getElem (by rw [size_flatK]; exact ht), hg]
    have hr : r = 0 ∨ r = 1 ∨ r = 2 ∨ r = 3 := by omega
    rcases hr with rfl | rfl | rfl | rfl
    · exact ha.1.symm
    · exact ha.2.1.symm
    · exact ha.2.2.1.symm
    · exact ha.2.2.2.symm
  · rw [Array.getElem?_toList, Array.getElem?_eq_none (by rw [size_flatK]; omega), List.getElem?_eq_none (by rw [ccells_len]; simp; omega)]
theorem holds_own {N cap : Nat} {d : Array (GEl w blk n)} (h : w.ownsRow N 56 4 (.slice (some ⟨blk, 0, none⟩) d.size cap) d.size (ccells (d.toList.map (·.1)))) (h0 : 0 < d.size) : HoldsK encG 4 w blk 0 d := by
  intro j hj
  rw [size_flatK] at hj
  have hc := World.ownsRow.cellAt h j hj
  rw [← flat_cells d, Array.getElem?_toList, Array.getElem?_eq_getElem (by rw [size_flatK]; exact hj)] at hc
  refine ⟨?_, ?_⟩
  · rw [getElem!_pos _ j (by rw [size_flatK]; exact hj)]
    simpa using hc
  · rcases h.2 with ⟨_, h1⟩ | ⟨g, c, cur, hv, hb, hh, _⟩
    · omega
    · cases hv
      simp [World.frozen?, hh]
theorem own_sort {N cap : Nat} {d d' : Array (GEl w blk n)} (h : w.ownsRow N 56 4 (.slice (some ⟨blk, 0, none⟩) d.size cap) d.size (ccells (d.toList.map (·.1)))) (h0 : 0 < d.size) (hz : d'.size = d.size) (q : Nat) (os : Array Obj) :
    (sortWorldK encG 4 w blk 0 q d' os).ownsRow N 56 4 (.slice (some ⟨blk, 0, none⟩) d.size cap) d.size (ccells (d'.toList.map (·.1))) := by
  refine ⟨by rw [ccells_len]; simp [hz], .inr ?_⟩
  rcases h.2 with ⟨_, h1⟩ | ⟨g, c, cur, hv, hb, hh, h1, h2, h3, h4⟩
  · omega
  · cases hv
    refine ⟨blk, cap, _, rfl, hb, heap_sort hh (flatK encG 4 d') q os, h1, h2, by simpa [putCells] using h3, ?_⟩
    have hF : (flatK encG 4 d').size = d.size * 4 := by rw [size_flatK, hz]
    rw [← flat_cells d', ← hF]
    exact take_put (by rw [hF, h3]; exact Nat.mul_le_mul_right 4 h1)
end
end Go.Proofs.YtkgnlloioaobiaaGreat
namespace Go.Proofs.YtkgnlloioaobiaaGreat
open Go.Shelf Go.RowKit Go.Lib Go.Sort
theorem other_sort {w : World} {g b : Nat} (hne : g ≠ b) (hb : b < w.heap.size) (F : Array Value) (q : Nat) (os : Array Obj) :
    (grow (putRow id (Sort.ahead w q) g 0 F) os).heap[b]? = w.heap[b]? := by
  show ((w.heap.modify g (onCells (putCells id 0 F))) ++ os)[b]? = _
  rw [Array.getElem?_append_left (by simpa using hb), Array.getElem?_modify, if_neg hne]
theorem below_sort {w : World} {g N : Nat} (hg : N ≤ g) (hN : N ≤ w.heap.size) (F : Array Value) (q : Nat) (os : Array Obj) : RowKit.Below N w (grow (putRow id (Sort.ahead w q) g 0 F) os) := by
  refine ⟨rfl, rfl, rfl, ?_, fun k hk => other_sort (by omega) (by omega) F q os⟩
  show w.heap.size ≤ ((w.heap.modify g (onCells (putCells id 0 F))) ++ os).size
  simp
set_option maxHeartbeats 1000000 in
theorem sort_owned {N0 N : Nat} {w : World} {g m cap n : Nat} {els : List CEl} (h : CL2 N0 N w (.slice (some ⟨g, 0, none⟩) m cap) els) (h0 : 0 < els.length) (hn : ∀ e ∈ els, e.n = n) (hq : ∀ e ∈ els, e.q = 0 ∨ e.q = 1 ∨ e.q = 2) (hN : N ≤ w.heap.size) :
    Calls Tryz.prog 93 #[.slice (some ⟨g, 0, none⟩) m cap, .func (.func 94) #[] #[]] w fun e w' => e = .returned (.tuple #[]) ∧
      ∃ els', CL2 N0 N w' (.slice (some ⟨g, 0, none⟩) m cap) els' ∧ els'.Perm els ∧ els'.map CEl.d = sortD (els.map CEl.d) ∧ RowKit.Below N w w' := by
  obtain ⟨hm, _⟩ := h.conds
  subst hm
  obtain ⟨cur, hgb, hcur⟩ : ∃ cur, N ≤ g ∧ w.heap[g]? = some (.cells cur 56 (0, 0)) := by
    rcases h.own.2 with ⟨hv, _⟩ | ⟨g', c, cur, hv, hb, hh, _⟩
    · cases hv
    · cases hv; exact ⟨cur, hb, hh⟩
  have hlt : g < w.heap.size := (Array.getElem?_eq_some_iff.1 hcur).1
  have hne : ∀ b cur', w.heap[b]? = some (.cells cur' 3 (0, 0)) → g ≠ b := fun b cur' hb e => by
    subst e
    rw [hcur] at hb
    simp at hb
  have H : ∀ e ∈ els, Good w g n e := fun e he => ⟨hn e he, h.ints e he, fun b off s hpos hA => by
    rcases h.rows e he with hz | ⟨b', hA', _, cur', hb', _⟩
    · omega
    · rw [hA'] at hA
      cases hA
      exact (hne _ cur' hb').symm⟩
  obtain ⟨d, hd⟩ : ∃ d : Array (GEl w g n), d.toList.map (·.1) = els := ⟨(els.attachWith _ H).toArray, by simp⟩
  have hds : d.size = els.length := by rw [← hd]; simp
  haveI : Inhabited (GEl w g n) := ⟨d[0]'(by omega)⟩
  have hown := h.own
  rw [← hds] at hown ⊢
  rw [← hd] at hown
  have hf := h.few
  refine (cond_sort 0 cap d (holds_own hown (by omega)) hlt (by omega)).mono ?_
  rintro e w' ⟨rfl, d', k, os, hp, hs, rfl⟩
  obtain ⟨hz, hperm, hdata⟩ := sort_data (fun x hx => hq x.1 (by rw [← hd]; exact List.mem_map.2 ⟨x, hx, rfl⟩)) hp hs
  have hlen : (d'.toList.map (·.1)).length = d.size := by simp [hz]
  refine ⟨rfl, d'.toList.map (·.1), ⟨?_, ?_, ?_, ?_⟩, ?_, ?_, ?_⟩
  · have := own_sort hown (by omega) hz k os
    rw [hlen]
    exact this
  · rw [hlen]; omega
  · intro e he
    obtain ⟨x, _, rfl⟩ := List.mem_map.1 he
    exact ints_sort x.2 0 k d' os
  · intro e he
    have he' : e ∈ els := by rw [← hd]; exact (hperm.map (·.1)).mem_iff.1 he
    rcases h.rows e he' with hz0 | ⟨b, hA, hN0, cur', hb, hsz⟩
    · exact .inl hz0
    · exact .inr ⟨b, hA, hN0, cur', (other_sort (hne b cur' hb) (Array.getElem?_eq_some_iff.1 hb).1 _ k os).trans hb, hsz⟩
  · rw [← hd]; exact hperm.map _
  · rw [List.map_map, ← hd, List.map_map]
    exact hdata
  · exact below_sort hgb hN _ k os
end Go.Proofs.YtkgnlloioaobiaaGreat
namespace Go.Proofs.YtkgnlloioaobiaaGreat
open Go.RowKit
def SettleRet (N0 N : Nat) (w : World) (e : Ending) (w' : World) (n : Nat) (o : Option (List CD)) : Prop :=
  ((o = none ∧ e = .returned (.tuple #[.slice none 0 0, .bool true])) ∨
    ∃ out A l c, o = some out ∧ e = .returned (.tuple #[.slice A l.length c, .bool false]) ∧ CL2 N0 N w' (.slice A l.length c) l ∧ l.map CEl.d = out ∧ ∀ e ∈ l, e.n = n) ∧ Below N w w'
theorem settle_pv {p : List CD} (h : pairVoid (gesD p) = true) : settleD p = none := by unfold settleD; rw [if_pos h]
theorem settle_cl {p : List CD} (h0 : pairVoid (gesD p) = false) (h : clashD (eqsD p) = true) : settleD p = none := by unfold settleD; rw [if_neg (by rw [h0]; decide), if_pos h]
theorem settle_im {p : List CD} (h0 : pairVoid (gesD p) = false) (h1 : clashD (eqsD p) = false) (h : impVoid (eqsD p) (restD (gesD p)) = true) : settleD p = none := by unfold settleD; rw [if_neg (by rw [h0]; decide), if_neg (by rw [h1]; decide), if_pos h]
theorem settle_ok {p : List CD} (h0 : pairVoid (gesD p) = false) (h1 : clashD (eqsD p) = false) (h : impVoid (eqsD p) (restD (gesD p)) = false) : settleD p = some (eqsD p ++ impRest (eqsD p) (restD (gesD p)) ++ comp equalD (kindDv p)) := by unfold settleD; rw [if_neg (by rw [h0]; decide), if_neg (by rw [h1]; decide), if_neg (by rw [h]; decide)]
set_option maxHeartbeats 16000000 in
theorem wide_settled {N0 N n g m c : Nat} {els : List CEl} (w : World) (hL : CL2 N0 N w (.slice (some ⟨g, 0, none⟩) m c) els) (hl : els.length ≤ 1000) (hn : ∀ e ∈ els, e.n = n ∧ NormD n e.d) (hs : Sorted (els.map CEl.d)) (hN : N ≤ w.heap.size) :
    Calls Tryz.prog 95 #[.slice (some ⟨g, 0, none⟩) m c] w fun e w' => SettleRet N0 N w e w' n (settleD (els.map CEl.d)) := by
  have hm := hL.conds.1
  subst hm
  obtain ⟨hmc, hc⟩ := own_capC hL
  have V0 := CV.of_cl hL
  have HN := Lib.hid hn
  have HS := Lib.hid hs
  have HL := Lib.hid hl
  clear hL hn hs
  cases hpv : pairVoid (gesD (els.map CEl.d))
  · have HPV := Lib.hid hpv
    clear hpv
    rcases Nat.eq_zero_or_pos (tightD (gesD (els.map CEl.d))).length with hz | hz
    all_goals have HZ := Lib.hid hz
    all_goals clear hz
    all_goals go_enter Tryz.func95, Tryz.ntmps95
    · go_wp2_with (first | (go_at_call 118; refine (kinds_all _ V0 hmc hc).mono ?_; rintro e w1 ⟨E, G, D, o1, o2, o3, c3, rfl, hc3, ⟨V1, V2, V3⟩, ⟨D21, D23, D13⟩, hdat, hmem, hlen, hb1⟩; have HKP := Lib.hid (kp_of HN.out HS.out HL.out hdat hmem hlen); have hB1 : Below N w w1 := hb1.mono hN; clear hdat hmem hlen hb1; have hg1 : G.length ≤ 9223372036854775807 := (by have := HKP.out.len; omega)) | (go_at_call 119; (with_reducible (show Calls _ _ #[_, .func (.func 120) #[] #[]] _ _)); refine (slope_all _ V2 (Nat.le_refl _) hg1 HKP.out.gN).mono ?_; rintro e w2 ⟨rfl, W2, T2, hk2⟩; have U1 := V1.touch V2 T2 D21; have U3 := V3.touch V2 T2 D23; have hB2 := hB1.trans (T2.below V2.addr (Nat.le_trans hN hB1.size)); have hk9 : (comp sameE G).length ≤ 1000 := (by have := HKP.out.len; omega); clear V1 V2 V3 T2) | (go_at_call 121; refine (paired_no _ W2.conds W2.rows hk9 HKP.out.calm (by rw [HKP.out.g]; exact HPV.out)).mono ?_; rintro e w3 ⟨⟨A5, t, c5, A6, r, c6, rfl, hLt, htd, hLr, hrd, htn, hrn⟩, hb3⟩; have HT := Lib.hid (kp_tight HKP.out htd hrd htn hrn); have HTD := Lib.hid (And.intro htd (And.intro hrd htn)); have htl : t.length = 0 := (by have h := congrArg List.length htd; rw [List.length_map, HKP.out.g] at h; rw [h]; exact HZ.out); have X1 := U1.step hb3; have X3 := U3.step hb3; have VR := CV.of_cl hLr; have VT := CV.of_cl hLt; have DER := Lib.hid (Dis.of_blocks U1 VR); have HGD := Lib.hid (fun (k : Nat) (F : List CEl) (A : Option Addr) (W' : World) (h : CV N0 w2.heap.size W' A k F) => Dis.of_blocks U3 h); have HRD := Lib.hid (show r.map CEl.d = restD (gesD (els.map CEl.d)) by rw [hrd, HKP.out.g]); have hB3 := hB2.trans (hb3.mono (Nat.le_trans hN hB2.size)); have SR := Lib.hid (own_sane hLr); have ST := Lib.hid (own_sane hLt); have CR6 := Lib.hid (own_capC hLr); have hN2 := hb3.size; have HW2 := Lib.hid (Nat.le_trans hN hB2.size); clear hb3 U1 U3 W2 hLr hLt htd hrd htn hrn) | (go_at_call 119; (with_reducible (show Calls _ _ #[_, .func (.func 122) #[] #[]] _ _)); refine (equal_all _ X1 (Nat.le_refl _) (by have := HKP.out.len; omega) (fun e he => (HKP.out.eN e he).1)).mono ?_; rintro e w6 ⟨rfl, CQ, T4, hk4⟩; have CR := VR.touch X1 T4 DER.out; have CD := X3.touch X1 T4 D13; have hB6 := hB3.trans (T4.below X1.addr (Nat.le_trans hN hB3.size)); have DQD := Lib.hid (D13.less hk4 (Nat.le_refl _)); have DQR := Lib.hid (DER.out.less hk4 (Nat.le_refl _)); have HQ := Lib.hid (ep_comp (ep_less HKP.out HZ.out) HN.out HS.out); have SQ := Lib.hid (sane_some (b := g) (o := o1) (c := E.length)); have hcQ : (comp equalE E).length ≤ E.length ∧ E.length ≤ 9223372036854775807 := ⟨hk4, by have := HKP.out.len; omega⟩; have hz2 := Nat.le_trans hN2 T4.size))
      clear X1 X3 VR VT T4 hk4 hB3 htl D21 D23 DER D13 hB1 hB2 hk2 hk9 hg1
      generalize comp equalE E = Q at *
      generalize hA4 : (some ⟨g, o1, none⟩ : Option Addr) = A4 at *
      clear hA4
      generalize hc4 : E.length = c4 at *
      clear hc4
      have hQ5 : Q.length ≤ 1000 := HQ.out.2.2.1
      go_loopw [38] (fun v wr => ∃ i : Nat, i ≤ Q.length ∧ v = .int .i64 i ∧ (∀ j x y, j < i → Q[j]? = some x → Q[j + 1]? = some y → x.xs ≠ y.xs) ∧ Below w6.heap.size w6 wr) (fun v _ => Q.length - (intOf v).toNat)
      case atStart => exact ⟨0, Nat.zero_le _, rfl, (fun j x y h => absurd h (by omega)), Below.refl _ _⟩
      case round =>
        obtain ⟨i, hi, rfl, hnc, hbr⟩ := hrel
        have HNC := Lib.hid hnc
        clear hnc
        have C1 := (CQ.step hbr).conds
        by_cases hlt : i + 1 < Q.length
        · obtain ⟨b, off, x, hA, hblt, hej, hmem, hcs, hin⟩ := C1.at (show i < Q.length by omega)
          obtain ⟨b2, off2, y, hA2, _, hej2, hmem2, hcs2, hin'⟩ := C1.at hlt
          rw [hA] at hA2
          cases hA2
          subst hA
          obtain ⟨x0, x1, x2, x3⟩ := hcs
          obtain ⟨y0, y1, y2, y3⟩ := hcs2
          have na := (HQ.out.2.1 x hmem).1
          have nb := (HQ.out.2.1 y hmem2).1
          obtain ⟨eq, eM, eA, en, ec, eK, exs⟩ := x
          obtain ⟨fq, fM, fA, fn, fc, fK, fxs⟩ := y
          simp only at na nb x0 x1 x2 x3 y0 y1 y2 y3 hin hin'
          obtain rfl : en = fn := na.trans nb.symm
          have HEJ := Lib.hid hej
          have HEJ2 := Lib.hid hej2
          have hq1 : (i : Int) < (Q.length : Int) - 1 := by omega
          have hq2 : (i : Int) < (Q.length : Int) := by omega
          have hq3 : (i : Int) + 1 < (Q.length : Int) := by omega
          have hp0 : (0 : Int) ≤ (i : Int) := by omega
          have hp1 : (0 : Int) ≤ (i : Int) + 1 := by omega
          have hnt : ((i : Int) + 1).toNat = i + 1 := by omega
          have hwr : IntKind.i64.wrap ((i : Int) + 1) = (i : Int) + 1 := IntWalk.i64_in _ (by omega)
          replace hin := hin.step (Below.refl _ wr).drew
          replace hin' := hin'.step (Below.refl _ wr).drew
          have hbd := hbr.drew
          clear hej hej2 hmem hmem2 na nb hbr C1
          by_cases hv : exs = fxs
          · have HV := Lib.hid (show decide (exs = fxs) = true from decide_eq_true hv)
            have HCY := Lib.hid (show clashD (eqsD (els.map CEl.d)) = true from by
              rw [← HQ.out.1]
              exact clash_yes (i := i) (a := ⟨eq, eM, exs, eK⟩) (b := ⟨fq, fM, fxs, fK⟩) (by rw [List.getElem?_map, HEJ.out]; rfl) (by rw [List.getElem?_map, HEJ2.out]; rfl) hv)
            clear hv
            go_wp2
            go_region_held3 (fun W => W.cell? ⟨b, off + i * 4, none⟩ = some (.int .i64 eq) ∧ W.cell? ⟨b, off + i * 4 + 1, none⟩ = some (.int .i64 eM) ∧ W.cell? ⟨b, off + i * 4 + 2, none⟩ = some (.slice eA en ec) ∧ W.cell? ⟨b, off + i * 4 + 3, none⟩ = some (.int .i64 eK) ∧ W.cell? ⟨b, off + (i + 1) * 4, none⟩ = some (.int .i64 fq) ∧ W.cell? ⟨b, off + (i + 1) * 4 + 1, none⟩ = some (.int .i64 fM) ∧ W.cell? ⟨b, off + (i + 1) * 4 + 2, none⟩ = some (.slice fA en fc) ∧ W.cell? ⟨b, off + (i + 1) * 4 + 3, none⟩ = some (.int .i64 fK)) (first | with_reducible exact ⟨x0, x1, x2, x3, y0, y1, y2, y3⟩ | with_reducible exact ⟨z0, z1, z2, z3, z4, z5, z6, z7⟩ | go_keep) (first | (go_at_call 120; refine (same_slope _ _ _ _ _ _ exs _ _ _ _ _ fxs _ hin hin').mono ?_; rintro e w9 ⟨rfl, q9, os9, hw9⟩; have hb : Below wr.drew.heap.size wr.drew w9 := (by rw [hw9]; exact below_grow q9 os9); clear hw9; rw [HV.out]; have hbe := (Below.refl wr.heap.size wr).drew.trans hb; have z0 := (hbe.cell (p := ⟨b, off + i * 4, none⟩) hblt).trans x0; have z1 := (hbe.cell (p := ⟨b, off + i * 4 + 1, none⟩) hblt).trans x1; have z2 := (hbe.cell (p := ⟨b, off + i * 4 + 2, none⟩) hblt).trans x2; have z3 := (hbe.cell (p := ⟨b, off + i * 4 + 3, none⟩) hblt).trans x3; have z4 := (hbe.cell (p := ⟨b, off + (i + 1) * 4, none⟩) hblt).trans y0; have z5 := (hbe.cell (p := ⟨b, off + (i + 1) * 4 + 1, none⟩) hblt).trans y1; have z6 := (hbe.cell (p := ⟨b, off + (i + 1) * 4 + 2, none⟩) hblt).trans y2; have z7 := (hbe.cell (p := ⟨b, off + (i + 1) * 4 + 3, none⟩) hblt).trans y3; replace hbd := hbd.trans (hb.mono hbd.size)))
            all_goals
              go_wp2
              go_ret2
              exact ⟨.inl ⟨settle_cl HPV.out HCY.out, rfl⟩, hB6.trans (hbd.mono (Nat.le_trans hN hB6.size))⟩
          · have HV := Lib.hid (show decide (exs = fxs) = false from decide_eq_false hv)
            have HNV := Lib.hid hv
            clear hv
            go_wp2
            go_region_held3 (fun W => W.cell? ⟨b, off + i * 4, none⟩ = some (.int .i64 eq) ∧ W.cell? ⟨b, off + i * 4 + 1, none⟩ = some (.int .i64 eM) ∧ W.cell? ⟨b, off + i * 4 + 2, none⟩ = some (.slice eA en ec) ∧ W.cell? ⟨b, off + i * 4 + 3, none⟩ = some (.int .i64 eK) ∧ W.cell? ⟨b, off + (i + 1) * 4, none⟩ = some (.int .i64 fq) ∧ W.cell? ⟨b, off + (i + 1) * 4 + 1, none⟩ = some (.int .i64 fM) ∧ W.cell? ⟨b, off + (i + 1) * 4 + 2, none⟩ = some (.slice fA en fc) ∧ W.cell? ⟨b, off + (i + 1) * 4 + 3, none⟩ = some (.int .i64 fK)) (first | with_reducible exact ⟨x0, x1, x2, x3, y0, y1, y2, y3⟩ | with_reducible exact ⟨z0, z1, z2, z3, z4, z5, z6, z7⟩ | go_keep) (first | (go_at_call 120; refine (same_slope _ _ _ _ _ _ exs _ _ _ _ _ fxs _ hin hin').mono ?_; rintro e w9 ⟨rfl, q9, os9, hw9⟩; have hb : Below wr.drew.heap.size wr.drew w9 := (by rw [hw9]; exact below_grow q9 os9); clear hw9; rw [HV.out]; have hbe := (Below.refl wr.heap.size wr).drew.trans hb; have z0 := (hbe.cell (p := ⟨b, off + i * 4, none⟩) hblt).trans x0; have z1 := (hbe.cell (p := ⟨b, off + i * 4 + 1, none⟩) hblt).trans x1; have z2 := (hbe.cell (p := ⟨b, off + i * 4 + 2, none⟩) hblt).trans x2; have z3 := (hbe.cell (p := ⟨b, off + i * 4 + 3, none⟩) hblt).trans x3; have z4 := (hbe.cell (p := ⟨b, off + (i + 1) * 4, none⟩) hblt).trans y0; have z5 := (hbe.cell (p := ⟨b, off + (i + 1) * 4 + 1, none⟩) hblt).trans y1; have z6 := (hbe.cell (p := ⟨b, off + (i + 1) * 4 + 2, none⟩) hblt).trans y2; have z7 := (hbe.cell (p := ⟨b, off + (i + 1) * 4 + 3, none⟩) hblt).trans y3; replace hbd := hbd.trans (hb.mono hbd.size)))
            all_goals
              go_wp2
              go_roundw
              case rel => exact ⟨i + 1, by omega, by go_num, (fun j x y hj hx hy => by
                rcases Nat.lt_or_eq_of_le (Nat.le_of_lt_succ hj) with h | rfl
                · exact HNC.out j x y h hx hy
                · rw [HEJ.out] at hx; rw [HEJ2.out] at hy; cases hx; cases hy; exact HNV.out), hbd⟩
              case measure => simp [intOf]; omega
        · have hcl : clashD (eqsD (els.map CEl.d)) = false := by
            rw [← HQ.out.1]
            refine clash_none fun j a b hj ha hb => ?_
            rw [List.length_map] at hj
            rw [List.getElem?_map] at ha hb
            obtain ⟨x, hx, rfl⟩ := Option.map_eq_some_iff.1 ha
            obtain ⟨y, hy, rfl⟩ := Option.map_eq_some_iff.1 hb
            exact HNC.out j x y (by omega) hx hy
          have HCL := Lib.hid hcl
          have HCA := Lib.hid (HQ.out.2.2.2 hcl)
          have hge : ¬ ((i : Int) < (Q.length : Int) - 1) := by omega
          have CR8 := CR.step hbr
          have CD8 := CD.step hbr
          have CQ8 := CQ.step hbr
          have hB8 := hB6.trans (hbr.mono (Nat.le_trans hN hB6.size))
          have hz8 := Nat.le_trans hz2 hbr.size
          have hrl : r.length ≤ 1000 := by have := HT.out.1.2; have := HKP.out.len; omega
          clear hcl C1 HNC hbr
          cases him : impVoid (eqsD (els.map CEl.d)) (restD (gesD (els.map CEl.d)))
          · have HIM := Lib.hid (show impVoid (Q.map CEl.d) (r.map CEl.d) = false by rw [HQ.out.1, HRD.out]; exact him)
            have HIV := Lib.hid him
            clear him
            go_wp2_with (first
              | (go_at_call 123; refine (unimp_no _ CQ8.conds HCA.out hQ5 CR8 HT.out.2.2 hz8 hrl CR6.out.1 CR6.out.2 SR.out HIM.out).mono ?_; rintro e w9 ⟨⟨A7, c7, r7, rfl, C7, S7, hd7, hn7⟩, hb9⟩; have HD7 := Lib.hid (And.intro hd7 hn7); have HS7 := Lib.hid S7; have CQ9 := CQ8.step hb9; have CD9 := CD8.step hb9; have hB9 := hB8.trans (hb9.mono (Nat.le_trans hN hB8.size)); have hr7 : r7.length ≤ 1000 := (by have h := congrArg List.length hd7; have h2 := imp_len (Q.map CEl.d) (r.map CEl.d); simp only [List.length_map] at h h2; omega); clear hd7 hn7 S7 hb9)
              | (go_at_call 119; refine (equal_all _ CD9 hc3.1 hc3.2 HKP.out.dN).mono ?_; rintro e w10 ⟨rfl, CD10, T10, hk10⟩; have CQ10 := CQ9.touch CD9 T10 DQD.out.symm; have C10 := C7.touch CD9 T10 (HGD.out _ _ _ _ C7); have hB10 := hB9.trans (T10.below CD9.addr (Nat.le_trans hN hB9.size)); have hd10 : (comp equalE D).length ≤ 1000 := (by have := HKP.out.len; omega); clear CQ9 CD9 T10 C7)
              | (go_at_call 52; refine (concat_three w10 CQ10 SQ.out C10 HS7.out CD10 sane_some (by omega)).mono ?_; rintro e w11 ⟨A11, n11, c11, l11, rfl, hL11, hl11, hb11⟩; have HL11 := Lib.hid (And.intro hL11 hl11); have hn11 := Lib.hid hL11.conds.1; have hB11 := hB10.trans (hb11.mono (Nat.le_trans hN hB10.size)); have hz11 := Nat.le_trans hN hB10.size; clear hL11 hl11))
            go_ret2
            refine ⟨.inr ⟨_, A11, l11, c11, settle_ok HPV.out HCL.out HIV.out, by rw [hn11.out]; rfl, by have := HL11.out.1.mono (Nat.le_refl N0) hz11; rwa [hn11.out] at this, ?_, ?_⟩, hB11⟩
            · rw [HL11.out.2, List.map_append, List.map_append, HQ.out.1, HD7.out.1, HQ.out.1, HRD.out, comp_map equalE CEl.d equalD (fun a b => rfl), HKP.out.v]
            · intro e he
              rw [HL11.out.2] at he
              rcases List.mem_append.1 he with h | h
              · rcases List.mem_append.1 h with h | h
                · exact (HQ.out.2.1 e h).1
                · exact HD7.out.2 e h
              · exact HKP.out.dN e (comp_mem h)
          · have HIM := Lib.hid (show impVoid (Q.map CEl.d) (r.map CEl.d) = true by rw [HQ.out.1, HRD.out]; exact him)
            have HIV := Lib.hid him
            clear him
            go_wp2_with (go_at_call 123; refine (unimp_yes _ CQ8.conds HCA.out hQ5 CR8 HT.out.2.2 hz8 hrl CR6.out.1 CR6.out.2 SR.out HIM.out).mono ?_; rintro e w9 ⟨rfl, hb9⟩)
            go_ret2
            exact ⟨.inl ⟨settle_im HPV.out HCL.out HIV.out, rfl⟩, hB8.trans (hb9.mono (Nat.le_trans hN hB8.size))⟩
    · go_wp2_with (first | (go_at_call 118; refine (kinds_all _ V0 hmc hc).mono ?_; rintro e w1 ⟨E, G, D, o1, o2, o3, c3, rfl, hc3, ⟨V1, V2, V3⟩, ⟨D21, D23, D13⟩, hdat, hmem, hlen, hb1⟩; have HKP := Lib.hid (kp_of HN.out HS.out HL.out hdat hmem hlen); have hB1 : Below N w w1 := hb1.mono hN; clear hdat hmem hlen hb1; have hg1 : G.length ≤ 9223372036854775807 := (by have := HKP.out.len; omega)) | (go_at_call 119; (with_reducible (show Calls _ _ #[_, .func (.func 120) #[] #[]] _ _)); refine (slope_all _ V2 (Nat.le_refl _) hg1 HKP.out.gN).mono ?_; rintro e w2 ⟨rfl, W2, T2, hk2⟩; have U1 := V1.touch V2 T2 D21; have U3 := V3.touch V2 T2 D23; have hB2 := hB1.trans (T2.below V2.addr (Nat.le_trans hN hB1.size)); have hk9 : (comp sameE G).length ≤ 1000 := (by have := HKP.out.len; omega); clear V1 V2 V3 T2) | (go_at_call 121; refine (paired_no _ W2.conds W2.rows hk9 HKP.out.calm (by rw [HKP.out.g]; exact HPV.out)).mono ?_; rintro e w3 ⟨⟨A5, t, c5, A6, r, c6, rfl, hLt, htd, hLr, hrd, htn, hrn⟩, hb3⟩; have HT := Lib.hid (kp_tight HKP.out htd hrd htn hrn); have HTD := Lib.hid (And.intro htd (And.intro hrd htn)); have htl : 0 < t.length := (by have h := congrArg List.length htd; rw [List.length_map, HKP.out.g] at h; rw [h]; exact HZ.out); have X1 := U1.step hb3; have X3 := U3.step hb3; have VR := CV.of_cl hLr; have VT := CV.of_cl hLt; have DER := Lib.hid (Dis.of_blocks U1 VR); have HGD := Lib.hid (fun (k : Nat) (F : List CEl) (A : Option Addr) (W' : World) (h : CV N0 w2.heap.size W' A k F) => Dis.of_blocks U3 h); have HRD := Lib.hid (show r.map CEl.d = restD (gesD (els.map CEl.d)) by rw [hrd, HKP.out.g]); have hB3 := hB2.trans (hb3.mono (Nat.le_trans hN hB2.size)); have SR := Lib.hid (own_sane hLr); have ST := Lib.hid (own_sane hLt); have CR6 := Lib.hid (own_capC hLr); have hN2 := hb3.size; have HW2 := Lib.hid (Nat.le_trans hN hB2.size); clear hb3 U1 U3 W2 hLr hLt htd hrd htn hrn) | (go_at_call 52; refine (concat_two (n1 := E.length) (c1 := E.length) w3 X1 sane_some VT ST.out (by have := HKP.out.len; have := HT.out.1.1; omega)).mono ?_; rintro e w4 ⟨A4, n4, c4, l4, rfl, hL4, hl4, hb4⟩; have HL4 := Lib.hid hl4; have HNL4 := Lib.hid hL4.conds.1; clear hl4; have HP4 := Lib.hid (show 0 < l4.length by rw [HL4.out, List.length_append]; omega); obtain ⟨g4, rfl⟩ := own_addr hL4 (by have := HP4.out; have := HNL4.out; omega); have HMQ := Lib.hid (show ∀ e ∈ l4, (e.q = 0 ∨ e.q = 1 ∨ e.q = 2) ∧ e.n = n from fun e he => (by rw [HL4.out] at he; rcases List.mem_append.1 he with h | h; exact ⟨(HKP.out.eN e h).2.q, (HKP.out.eN e h).1⟩; exact ⟨(HT.out.2.1 e h).2.q, (HT.out.2.1 e h).1⟩))) | (go_at_call 93; refine (sort_owned hL4 HP4.out (fun e he => (HMQ.out e he).2) (fun e he => (HMQ.out e he).1) hb4.size).mono ?_; rintro e w5 ⟨rfl, E2, hL5, hperm, hdat5, hb5⟩; have hb35 := hb4.trans hb5; have HN5 := Lib.hid hL5.conds.1; have hcap5 := own_capC hL5; have V5 := CV.of_cl hL5; have Z1 := VR.step hb35; have Z3 := X3.step hb35; have D5D := Lib.hid (Dis.of_blocks X3 V5).symm; have D5R := Lib.hid (Dis.of_blocks VR V5).symm; have hB5 := hB3.trans (hb35.mono (Nat.le_trans hN hB3.size)); have HEP := Lib.hid (ep_more (E2 := E2) HKP.out HTD.out.1 HTD.out.2.2 (by rw [← HL4.out]; exact hperm) (by rw [← HL4.out]; exact hdat5) HZ.out); have S5 := Lib.hid (sane_some (b := g4) (o := 0) (c := c4)); have hz5 := Nat.le_trans hN2 hb35.size; have V5N : CV N0 N w5 (some ⟨g4, 0, none⟩) n4 E2 := V5.mono (Nat.le_refl _) (Nat.le_trans hN hB3.size); clear hL4 hL5 hb4 hb5 hb35 hperm hdat5 X1 X3 VR VT V5 hB3) | (go_at_call 119; (with_reducible (show Calls _ _ #[_, .func (.func 122) #[] #[]] _ _)); refine (equal_all _ V5N (by have := HN5.out; omega) hcap5.2 HEP.out.n).mono ?_; rintro e w6 ⟨rfl, CQ, T4, hk4⟩; have CR := Z1.touch V5N T4 D5R.out; have CD := Z3.touch V5N T4 D5D.out; have hB6 := hB5.trans (T4.below V5N.addr (Nat.le_trans hN hB5.size)); have DQD := Lib.hid (D5D.out.less hk4 (Nat.le_refl _)); have DQR := Lib.hid (D5R.out.less hk4 (Nat.le_refl _)); have HQ := Lib.hid (ep_comp HEP.out HN.out HS.out); have SQ := S5; have hcQ : (comp equalE E2).length ≤ c4 ∧ c4 ≤ 9223372036854775807 := ⟨by have := HN5.out; omega, hcap5.2⟩; have hz2 := Nat.le_trans hz5 T4.size))
      clear V5N Z1 Z3 T4 hk4 htl D21 D23 DER D13 hB1 hB2 hB5 hk2 hk9 hg1 D5D D5R
      generalize comp equalE E2 = Q at *
      generalize hA4 : (some ⟨g4, 0, none⟩ : Option Addr) = A4 at *
      clear hA4
      have hQ5 : Q.length ≤ 1000 := HQ.out.2.2.1
      go_loopw [38] (fun v wr => ∃ i : Nat, i ≤ Q.length ∧ v = .int .i64 i ∧ (∀ j x y, j < i → Q[j]? = some x → Q[j + 1]? = some y → x.xs ≠ y.xs) ∧ Below w6.heap.size w6 wr) (fun v _ => Q.length - (intOf v).toNat)
      case atStart => exact ⟨0, Nat.zero_le _, rfl, (fun j x y h => absurd h (by omega)), Below.refl _ _⟩
      case round =>
        obtain ⟨i, hi, rfl, hnc, hbr⟩ := hrel
        have HNC := Lib.hid hnc
        clear hnc
        have C1 := (CQ.step hbr).conds
        by_cases hlt : i + 1 < Q.length
        · obtain ⟨b, off, x, hA, hblt, hej, hmem, hcs, hin⟩ := C1.at (show i < Q.length by omega)
          obtain ⟨b2, off2, y, hA2, _, hej2, hmem2, hcs2, hin'⟩ := C1.at hlt
          rw [hA] at hA2
          cases hA2
          subst hA
          obtain ⟨x0, x1, x2, x3⟩ := hcs
          obtain ⟨y0, y1, y2, y3⟩ := hcs2
          have na := (HQ.out.2.1 x hmem).1
          have nb := (HQ.out.2.1 y hmem2).1
          obtain ⟨eq, eM, eA, en, ec, eK, exs⟩ := x
          obtain ⟨fq, fM, fA, fn, fc, fK, fxs⟩ := y
          simp only at na nb x0 x1 x2 x3 y0 y1 y2 y3 hin hin'
          obtain rfl : en = fn := na.trans nb.symm
          have HEJ := Lib.hid hej
          have HEJ2 := Lib.hid hej2
          have hq1 : (i : Int) < (Q.length : Int) - 1 := by omega
          have hq2 : (i : Int) < (Q.length : Int) := by omega
          have hq3 : (i : Int) + 1 < (Q.length : Int) := by omega
          have hp0 : (0 : Int) ≤ (i : Int) := by omega
          have hp1 : (0 : Int) ≤ (i : Int) + 1 := by omega
          have hnt : ((i : Int) + 1).toNat = i + 1 := by omega
          have hwr : IntKind.i64.wrap ((i : Int) + 1) = (i : Int) + 1 := IntWalk.i64_in _ (by omega)
          replace hin := hin.step (Below.refl _ wr).drew
          replace hin' := hin'.step (Below.refl _ wr).drew
          have hbd := hbr.drew
          clear hej hej2 hmem hmem2 na nb hbr C1
          by_cases hv : exs = fxs
          · have HV := Lib.hid (show decide (exs = fxs) = true from decide_eq_true hv)
            have HCY := Lib.hid (show clashD (eqsD (els.map CEl.d)) = true from by
              rw [← HQ.out.1]
              exact clash_yes (i := i) (a := ⟨eq, eM, exs, eK⟩) (b := ⟨fq, fM, fxs, fK⟩) (by rw [List.getElem?_map, HEJ.out]; rfl) (by rw [List.getElem?_map, HEJ2.out]; rfl) hv)
            clear hv
            go_wp2
            go_region_held3 (fun W => W.cell? ⟨b, off + i * 4, none⟩ = some (.int .i64 eq) ∧ W.cell? ⟨b, off + i * 4 + 1, none⟩ = some (.int .i64 eM) ∧ W.cell? ⟨b, off + i * 4 + 2, none⟩ = some (.slice eA en ec) ∧ W.cell? ⟨b, off + i * 4 + 3, none⟩ = some (.int .i64 eK) ∧ W.cell? ⟨b, off + (i + 1) * 4, none⟩ = some (.int .i64 fq) ∧ W.cell? ⟨b, off + (i + 1) * 4 + 1, none⟩ = some (.int .i64 fM) ∧ W.cell? ⟨b, off + (i + 1) * 4 + 2, none⟩ = some (.slice fA en fc) ∧ W.cell? ⟨b, off + (i + 1) * 4 + 3, none⟩ = some (.int .i64 fK)) (first | with_reducible exact ⟨x0, x1, x2, x3, y0, y1, y2, y3⟩ | with_reducible exact ⟨z0, z1, z2, z3, z4, z5, z6, z7⟩ | go_keep) (first | (go_at_call 120; refine (same_slope _ _ _ _ _ _ exs _ _ _ _ _ fxs _ hin hin').mono ?_; rintro e w9 ⟨rfl, q9, os9, hw9⟩; have hb : Below wr.drew.heap.size wr.drew w9 := (by rw [hw9]; exact below_grow q9 os9); clear hw9; rw [HV.out]; have hbe := (Below.refl wr.heap.size wr).drew.trans hb; have z0 := (hbe.cell (p := ⟨b, off + i * 4, none⟩) hblt).trans x0; have z1 := (hbe.cell (p := ⟨b, off + i * 4 + 1, none⟩) hblt).trans x1; have z2 := (hbe.cell (p := ⟨b, off + i * 4 + 2, none⟩) hblt).trans x2; have z3 := (hbe.cell (p := ⟨b, off + i * 4 + 3, none⟩) hblt).trans x3; have z4 := (hbe.cell (p := ⟨b, off + (i + 1) * 4, none⟩) hblt).trans y0; have z5 := (hbe.cell (p := ⟨b, off + (i + 1) * 4 + 1, none⟩) hblt).trans y1; have z6 := (hbe.cell (p := ⟨b, off + (i + 1) * 4 + 2, none⟩) hblt).trans y2; have z7 := (hbe.cell (p := ⟨b, off + (i + 1) * 4 + 3, none⟩) hblt).trans y3; replace hbd := hbd.trans (hb.mono hbd.size)))
            all_goals
              go_wp2
              go_ret2
              exact ⟨.inl ⟨settle_cl HPV.out HCY.out, rfl⟩, hB6.trans (hbd.mono (Nat.le_trans hN hB6.size))⟩
          · have HV := Lib.hid (show decide (exs = fxs) = false from decide_eq_false hv)
            have HNV := Lib.hid hv
            clear hv
            go_wp2
            go_region_held3 (fun W => W.cell? ⟨b, off + i * 4, none⟩ = some (.int .i64 eq) ∧ W.cell? ⟨b, off + i * 4 + 1, none⟩ = some (.int .i64 eM) ∧ W.cell? ⟨b, off + i * 4 + 2, none⟩ = some (.slice eA en ec) ∧ W.cell? ⟨b, off + i * 4 + 3, none⟩ = some (.int .i64 eK) ∧ W.cell? ⟨b, off + (i + 1) * 4, none⟩ = some (.int .i64 fq) ∧ W.cell? ⟨b, off + (i + 1) * 4 + 1, none⟩ = some (.int .i64 fM) ∧ W.cell? ⟨b, off + (i + 1) * 4 + 2, none⟩ = some (.slice fA en fc) ∧ W.cell? ⟨b, off + (i + 1) * 4 + 3, none⟩ = some (.int .i64 fK)) (first | with_reducible exact ⟨x0, x1, x2, x3, y0, y1, y2, y3⟩ | with_reducible exact ⟨z0, z1, z2, z3, z4, z5, z6, z7⟩ | go_keep) (first | (go_at_call 120; refine (same_slope _ _ _ _ _ _ exs _ _ _ _ _ fxs _ hin hin').mono ?_; rintro e w9 ⟨rfl, q9, os9, hw9⟩; have hb : Below wr.drew.heap.size wr.drew w9 := (by rw [hw9]; exact below_grow q9 os9); clear hw9; rw [HV.out]; have hbe := (Below.refl wr.heap.size wr).drew.trans hb; have z0 := (hbe.cell (p := ⟨b, off + i * 4, none⟩) hblt).trans x0; have z1 := (hbe.cell (p := ⟨b, off + i * 4 + 1, none⟩) hblt).trans x1; have z2 := (hbe.cell (p := ⟨b, off + i * 4 + 2, none⟩) hblt).trans x2; have z3 := (hbe.cell (p := ⟨b, off + i * 4 + 3, none⟩) hblt).trans x3; have z4 := (hbe.cell (p := ⟨b, off + (i + 1) * 4, none⟩) hblt).trans y0; have z5 := (hbe.cell (p := ⟨b, off + (i + 1) * 4 + 1, none⟩) hblt).trans y1; have z6 := (hbe.cell (p := ⟨b, off + (i + 1) * 4 + 2, none⟩) hblt).trans y2; have z7 := (hbe.cell (p := ⟨b, off + (i + 1) * 4 + 3, none⟩) hblt).trans y3; replace hbd := hbd.trans (hb.mono hbd.size)))
            all_goals
              go_wp2
              go_roundw
              case rel => exact ⟨i + 1, by omega, by go_num, (fun j x y hj hx hy => by
                rcases Nat.lt_or_eq_of_le (Nat.le_of_lt_succ hj) with h | rfl
                · exact HNC.out j x y h hx hy
                · rw [HEJ.out] at hx; rw [HEJ2.out] at hy; cases hx; cases hy; exact HNV.out), hbd⟩
              case measure => simp [intOf]; omega
        · have hcl : clashD (eqsD (els.map CEl.d)) = false := by
            rw [← HQ.out.1]
            refine clash_none fun j a b hj ha hb => ?_
            rw [List.length_map] at hj
            rw [List.getElem?_map] at ha hb
            obtain ⟨x, hx, rfl⟩ := Option.map_eq_some_iff.1 ha
            obtain ⟨y, hy, rfl⟩ := Option.map_eq_some_iff.1 hb
            exact HNC.out j x y (by omega) hx hy
          have HCL := Lib.hid hcl
          have HCA := Lib.hid (HQ.out.2.2.2 hcl)
          have hge : ¬ ((i : Int) < (Q.length : Int) - 1) := by omega
          have CR8 := CR.step hbr
          have CD8 := CD.step hbr
          have CQ8 := CQ.step hbr
          have hB8 := hB6.trans (hbr.mono (Nat.le_trans hN hB6.size))
          have hz8 := Nat.le_trans hz2 hbr.size
          have hrl : r.length ≤ 1000 := by have := HT.out.1.2; have := HKP.out.len; omega
          clear hcl C1 HNC hbr
          cases him : impVoid (eqsD (els.map CEl.d)) (restD (gesD (els.map CEl.d)))
          · have HIM := Lib.hid (show impVoid (Q.map CEl.d) (r.map CEl.d) = false by rw [HQ.out.1, HRD.out]; exact him)
            have HIV := Lib.hid him
            clear him
            go_wp2_with (first
              | (go_at_call 123; refine (unimp_no _ CQ8.conds HCA.out hQ5 CR8 HT.out.2.2 hz8 hrl CR6.out.1 CR6.out.2 SR.out HIM.out).mono ?_; rintro e w9 ⟨⟨A7, c7, r7, rfl, C7, S7, hd7, hn7⟩, hb9⟩; have HD7 := Lib.hid (And.intro hd7 hn7); have HS7 := Lib.hid S7; have CQ9 := CQ8.step hb9; have CD9 := CD8.step hb9; have hB9 := hB8.trans (hb9.mono (Nat.le_trans hN hB8.size)); have hr7 : r7.length ≤ 1000 := (by have h := congrArg List.length hd7; have h2 := imp_len (Q.map CEl.d) (r.map CEl.d); simp only [List.length_map] at h h2; omega); clear hd7 hn7 S7 hb9)
              | (go_at_call 119; refine (equal_all _ CD9 hc3.1 hc3.2 HKP.out.dN).mono ?_; rintro e w10 ⟨rfl, CD10, T10, hk10⟩; have CQ10 := CQ9.touch CD9 T10 DQD.out.symm; have C10 := C7.touch CD9 T10 (HGD.out _ _ _ _ C7); have hB10 := hB9.trans (T10.below CD9.addr (Nat.le_trans hN hB9.size)); have hd10 : (comp equalE D).length ≤ 1000 := (by have := HKP.out.len; omega); clear CQ9 CD9 T10 C7)
              | (go_at_call 52; refine (concat_three w10 CQ10 SQ.out C10 HS7.out CD10 sane_some (by omega)).mono ?_; rintro e w11 ⟨A11, n11, c11, l11, rfl, hL11, hl11, hb11⟩; have HL11 := Lib.hid (And.intro hL11 hl11); have hn11 := Lib.hid hL11.conds.1; have hB11 := hB10.trans (hb11.mono (Nat.le_trans hN hB10.size)); have hz11 := Nat.le_trans hN hB10.size; clear hL11 hl11))
            go_ret2
            refine ⟨.inr ⟨_, A11, l11, c11, settle_ok HPV.out HCL.out HIV.out, by rw [hn11.out]; rfl, by have := HL11.out.1.mono (Nat.le_refl N0) hz11; rwa [hn11.out] at this, ?_, ?_⟩, hB11⟩
            · rw [HL11.out.2, List.map_append, List.map_append, HQ.out.1, HD7.out.1, HQ.out.1, HRD.out, comp_map equalE CEl.d equalD (fun a b => rfl), HKP.out.v]
            · intro e he
              rw [HL11.out.2] at he
              rcases List.mem_append.1 he with h | h
              · rcases List.mem_append.1 h with h | h
                · exact (HQ.out.2.1 e h).1
                · exact HD7.out.2 e h
              · exact HKP.out.dN e (comp_mem h)
          · have HIM := Lib.hid (show impVoid (Q.map CEl.d) (r.map CEl.d) = true by rw [HQ.out.1, HRD.out]; exact him)
            have HIV := Lib.hid him
            clear him
            go_wp2_with (go_at_call 123; refine (unimp_yes _ CQ8.conds HCA.out hQ5 CR8 HT.out.2.2 hz8 hrl CR6.out.1 CR6.out.2 SR.out HIM.out).mono ?_; rintro e w9 ⟨rfl, hb9⟩)
            go_ret2
            exact ⟨.inl ⟨settle_im HPV.out HCL.out HIV.out, rfl⟩, hB8.trans (hb9.mono (Nat.le_trans hN hB8.size))⟩
  · have HPV := Lib.hid hpv
    clear hpv
    go_enter Tryz.func95, Tryz.ntmps95
    go_wp2_with (first | (go_at_call 118; refine (kinds_all _ V0 hmc hc).mono ?_; rintro e w1 ⟨E, G, D, o1, o2, o3, c3, rfl, hc3, ⟨V1, V2, V3⟩, ⟨D21, D23, D13⟩, hdat, hmem, hlen, hb1⟩; have HKP := Lib.hid (kp_of HN.out HS.out HL.out hdat hmem hlen); have hB1 : Below N w w1 := hb1.mono hN; clear hdat hmem hlen hb1; have hg1 : G.length ≤ 9223372036854775807 := (by have := HKP.out.len; omega)) | (go_at_call 119; (with_reducible (show Calls _ _ #[_, .func (.func 120) #[] #[]] _ _)); refine (slope_all _ V2 (Nat.le_refl _) hg1 HKP.out.gN).mono ?_; rintro e w2 ⟨rfl, W2, T2, hk2⟩; have U1 := V1.touch V2 T2 D21; have U3 := V3.touch V2 T2 D23; have hB2 := hB1.trans (T2.below V2.addr (Nat.le_trans hN hB1.size)); have hk9 : (comp sameE G).length ≤ 1000 := (by have := HKP.out.len; omega); clear V1 V2 V3 T2) | (go_at_call 121; refine (paired_yes _ W2.conds W2.rows hk9 HKP.out.calm (by rw [HKP.out.g]; exact HPV.out)).mono ?_; rintro e w3 ⟨rfl, hb3⟩))
    go_ret2
    exact ⟨.inl ⟨settle_pv HPV.out, rfl⟩, hB2.trans (hb3.mono (Nat.le_trans hN hB2.size))⟩
end Go.Proofs.YtkgnlloioaobiaaGreat
namespace Go.Proofs.YtkgnlloioaobiaaGreat
open Go.RowKit
def PreC (n : Nat) (e : CEl) : Prop := e.n = n ∧ KindOk e.q e.M ∧ (-4611686018427387904 ≤ e.K ∧ e.K ≤ 4611686018427387904) ∧ ∀ x ∈ e.xs, -4611686018427387904 ≤ x ∧ x ≤ 4611686018427387904
def NormalsRet (w : World) (e : Ending) (w' : World) (n : Nat) (ds : List CD) : Prop :=
  ((normVoid n ds = true ∧ e = .returned (.tuple #[.slice none 0 0, .bool false, .bool true])) ∨
    (normVoid n ds = false ∧ ∃ g l c, e = .returned (.tuple #[.slice (some ⟨g, 0, none⟩) l.length c, .bool (normFits n ds), .bool false]) ∧ CL w.heap.size w' (.slice (some ⟨g, 0, none⟩) l.length c) l ∧ l.map CEl.d = normOut n ds ∧ ∀ e ∈ l, e.n = n)) ∧ Below w.heap.size w w'
theorem never_yes {n : Nat} {ds : List CD} {i : Nat} {d : CD} (h : ds[i]? = some d) (hs : neverD n d = true) : normVoid n ds = true := by
  unfold normVoid
  rw [List.any_eq_true]
  exact ⟨d, List.mem_of_getElem? h, hs⟩
theorem never_no {n : Nat} {ds : List CD} (h : ∀ j d, j < ds.length → ds[j]? = some d → neverD n d = false) : normVoid n ds = false := any_none h
theorem fits_snoc {n i : Nat} {ds : List CD} {d : CD} (h : ds[i]? = some d) : normFits n (ds.take (i + 1)) = (normFits n (ds.take i) && (openD n d).all fitD) := by
  unfold normFits normOut
  rw [flat_snoc (openD n) h, List.all_append]
set_option maxHeartbeats 8000000 in
theorem wide_normals {n : Nat} {A : Option Addr} {m c : Nat} {els0 : List CEl} (w : World) (C0 : CondsAt w A m els0) (hpre : ∀ e ∈ els0, PreC n e) (hm : m ≤ 1000) :
    Calls Tryz.prog 92 #[.slice A m c] w fun e w' => NormalsRet w e w' n (els0.map CEl.d) := by
  obtain ⟨i0, hi0, hz0, hz1, hz2⟩ := info_parts infoCond
  have HL := Lib.hid C0.len
  have HP := Lib.hid hpre
  obtain ⟨ds, hds⟩ : ∃ ds, els0.map CEl.d = ds := ⟨_, rfl⟩
  rw [hds]
  have HD := Lib.hid hds
  have HDL := Lib.hid (show ds.length = m by rw [← hds, List.length_map]; exact C0.len)
  clear hpre hds
  go_enter Tryz.func92, Tryz.ntmps92
  go_wp2_with (refine wpList_make_own _ rfl _ _ 34 rfl w.heap.size 56 i0 (.agg #[.int .i64 0, .int .i64 0, .slice none 0 0, .int .i64 0]) 4 Tryz.underlying34 hi0 hz0 hz1 .i64 .i64 (m : Int) m rfl rfl rfl (by rw [hz2]; omega) (by unfold maxLen; omega) (Nat.le_refl _) ?_; intro w2 hown2 hgr2)
  have hB2 : Below w.heap.size w w2 := (Below.refl _ w).grown hgr2 (Nat.le_refl _) (fun k e => nomatch e)
  have hL2 : CL w.heap.size w2 (.slice (some ⟨w.heap.size, 0, none⟩) ([] : List CEl).length m) [] := ⟨hown2, by simp, (fun e h => nomatch h), (fun e h => nomatch h)⟩
  clear hown2 hgr2
  go_loopw [2, 3, 14] (fun u f v wr => ∃ (i : Nat) (g' : Nat) (els : List CEl) (cap : Nat), i ≤ m ∧ v = .int .i64 i ∧ u = .slice (some ⟨g', 0, none⟩) els.length cap ∧ f = .bool (normFits n (ds.take i)) ∧ CL w.heap.size wr (.slice (some ⟨g', 0, none⟩) els.length cap) els ∧ els.map CEl.d = normOut n (ds.take i) ∧ (∀ e ∈ els, e.n = n) ∧ els.length ≤ i ∧ (∀ j d, j < i → ds[j]? = some d → neverD n d = false) ∧ Below w.heap.size w wr) (fun _ _ v _ => m - (intOf v).toNat)
  case atStart => exact ⟨0, w.heap.size, [], m, Nat.zero_le _, rfl, rfl, rfl, hL2, rfl, (fun e h => nomatch h), Nat.zero_le _, (fun j d h => absurd h (by omega)), hB2⟩
  clear hL2 hB2
  case round =>
    obtain ⟨i, g', els, cap, hi, rfl, rfl, rfl, hL, hd, hn, hel, hnv, hbr⟩ := hrel
    have HD3 := Lib.hid (And.intro hd (And.intro hn hnv))
    have C1 := C0.step hbr
    have hNs := hbr.size
    obtain ⟨fb, hfb⟩ : ∃ fb, normFits n (ds.take i) = fb := ⟨_, rfl⟩
    have HFB := Lib.hid hfb
    rw [hfb]
    clear hd hn hnv hfb
    generalize hk9 : els.length = k9 at *
    have HK9 := Lib.hid hk9
    clear hk9
    by_cases hlt : i < m
    · obtain ⟨b, off, e, rfl, hblt, hej, hmem, hcs, hin⟩ := C1.at hlt
      obtain ⟨x0, x1, x2, x3⟩ := hcs
      obtain ⟨ok0, ok1, ok2, ok3⟩ := HP.out e hmem
      have ok4 := (C0.ints e hmem).len
      obtain ⟨eq, eM, eA, en, ec, eK, exs⟩ := e
      simp only at x0 x1 x2 x3 hin ok0 ok1 ok2 ok3 ok4
      subst ok0
      have hdj : ds[i]? = some ⟨eq, eM, exs, eK⟩ := by rw [← HD.out, List.getElem?_map, hej]; rfl
      have HJ := Lib.hid hdj
      have hq1 : (i : Int) < m := by omega
      have HN := Lib.hid (fun W (h : IntsAt W eA en exs) => wide_normal eq eM eA en ec eK exs ok1 ok2 ok3 W h)
      have hst := nf_state (K := eK) ok4 ok1
      have hbd : neverD en ⟨eq, eM, exs, eK⟩ = decide ((nf eq eM en exs eK).2.2.2.2 = -1) := rfl
      have hone : openD en ⟨eq, eM, exs, eK⟩ = if (nf eq eM en exs eK).2.2.2.2 = 0 then [⟨(nf eq eM en exs eK).1, (nf eq eM en exs eK).2.1, (nf eq eM en exs eK).2.2.1, (nf eq eM en exs eK).2.2.2.1⟩] else [] := rfl
      obtain ⟨r, hr⟩ : ∃ r, nf eq eM en exs eK = r := ⟨_, rfl⟩
      rw [hr] at HN hst hbd hone
      have b1 := below_alloc wr (.cells #[.int .i64 eq, .int .i64 eM, .slice eA en ec, .int .i64 eK] 56)
      have y1 := hin.step b1
      have L1 := hL.step b1
      have S2 := CBox.new wr eq eM eA en ec eK
      have s0 := S2.c0
      have s1 := S2.c1
      have s2 := S2.c2
      have s3 := S2.c3
      have hbr1 := hbr.trans (b1.mono hNs)
      clear hdj hr ok1 ok2 ok3 ok4 hej hmem hin hL b1
      rcases hst with ⟨hs, hX, hM5⟩ | hs | hs
      · rw [if_pos hs] at hone
        rw [hs] at hbd
        obtain ⟨vb, hvb⟩ : ∃ vb, validB r.2.2.1 r.2.2.2.1 = vb := ⟨_, rfl⟩
        have HV5 := Lib.hid hvb
        have HB := Lib.hid (And.intro hone hbd)
        have HF := Lib.hid (show normFits en (ds.take (i + 1)) = (fb && vb) by rw [fits_snoc HJ.out, HFB.out, hone, ← hvb]; simp [fitD])
        clear hone hbd hvb
        cases fb
        all_goals
          go_wp2_with (first
            | (go_at_call 100; refine (HN.out _ y1).mono ?_; rintro e w4 ⟨A4, n4, c4, rfl, I4, hb4, O4⟩; obtain rfl : n4 = en := I4.len.symm.trans hX; have b5 := below_alloc w4 (.cells #[.int .i64 r.1, .int .i64 r.2.1, .slice A4 n4 c4, .int .i64 r.2.2.2.1] 56); have R4 := ((FreshRow.ok O4 hbr1.size).step b5); replace I4 := I4.step b5; have X7 := CBox.new w4 r.1 r.2.1 A4 n4 c4 r.2.2.2.1; have d0 := X7.c0; have d1 := X7.c1; have d2 := X7.c2; have d3 := X7.c3; have L5 := (L1.step hb4).step b5; have hbr5 := (hbr1.trans (hb4.mono hbr1.size)).trans (b5.mono (Nat.le_trans hbr1.size hb4.size)); have b7 := below_alloc (w4.alloc (.cells #[.int .i64 r.1, .int .i64 r.2.1, .slice A4 n4 c4, .int .i64 r.2.2.2.1] 56)) (.cells #[.int .i64 r.1, .int .i64 r.2.1, .slice A4 n4 c4, .int .i64 r.2.2.2.1] 56); have L7 := L5.step b7; have I7 := I4.step b7; have R7 := R4.step b7; have G7 := heap_alloc_new (w4.alloc (.cells #[.int .i64 r.1, .int .i64 r.2.1, .slice A4 n4 c4, .int .i64 r.2.2.2.1] 56)) (.cells #[.int .i64 r.1, .int .i64 r.2.1, .slice A4 n4 c4, .int .i64 r.2.2.2.1] 56); rw [World.size_alloc] at G7; have hbr7 := hbr5.trans (b7.mono hbr5.size); have hN7 := hbr7.size)
            | (go_at_call 101; refine (wide_fits _ _ _ _ _ _ _ hM5 _ I4).mono ?_; rintro e w5 ⟨rfl, hb6⟩; rw [HV5.out]; replace b7 := below_alloc w5 (.cells #[.int .i64 r.1, .int .i64 r.2.1, .slice A4 n4 c4, .int .i64 r.2.2.2.1] 56); replace G7 := heap_alloc_new w5 (.cells #[.int .i64 r.1, .int .i64 r.2.1, .slice A4 n4 c4, .int .i64 r.2.2.2.1] 56); replace hbr7 := hbr5.trans (hb6.mono hbr5.size); replace hbr7 := hbr7.trans (b7.mono hbr7.size); replace L7 := (L5.step hb6).step b7; replace I7 := (I4.step hb6).step b7; replace R7 := (R4.step hb6).step b7; replace X7 := X7.step hb6; have d0 := X7.c0; have d1 := X7.c1; have d2 := X7.c2; have d3 := X7.c3; replace hN7 := hbr7.size)
            | (at_builtin; refine wpList_append_cond rfl _ _ 34 rfl rfl rfl L7 _ ⟨r.1, r.2.1, A4, n4, c4, r.2.2.2.1, r.2.2.1⟩ rfl G7 I7 R7 (by have := HK9.out; omega) hN7 ?_; intro g8 cap8 w8 L8 gr8 hb8; replace hbr7 := hbr7.trans hb8))
          go_roundw
          case rel => exact ⟨i + 1, g8, els ++ [⟨r.1, r.2.1, A4, n4, c4, r.2.2.2.1, r.2.2.1⟩], cap8, by omega, by go_num, by rw [List.length_append]; rfl, by rw [HF.out]; simp, by rw [List.length_append]; exact L8, by unfold normOut; rw [flat_snoc _ HJ.out, HB.out.1, List.map_append, HD3.out.1]; rfl, (fun e he => by
            rcases List.mem_append.1 he with h | h
            · exact HD3.out.2.1 e h
            · rw [List.mem_singleton.1 h]), by rw [List.length_append]; have := HK9.out; simp; omega, (fun j d hj hjd => by
            rcases Nat.lt_or_eq_of_le (Nat.le_of_lt_succ hj) with h | rfl
            · exact HD3.out.2.2 j d h hjd
            · rw [HJ.out] at hjd; cases hjd; rw [HB.out.2]; decide), hbr7⟩
          case measure => simp [intOf]; omega
      · rw [if_neg (by rw [hs]; decide)] at hone
        rw [hs] at hbd
        have HB := Lib.hid (And.intro hone hbd)
        have HF := Lib.hid (show normFits en (ds.take (i + 1)) = fb by rw [fits_snoc HJ.out, HFB.out, hone]; simp)
        clear hone hbd
        go_wp2_with (go_at_call 100; refine (HN.out _ y1).mono ?_; rintro e w4 ⟨A4, n4, c4, rfl, I4, hb4, O4⟩; have b5 := below_alloc w4 (.cells #[.int .i64 r.1, .int .i64 r.2.1, .slice A4 n4 c4, .int .i64 r.2.2.2.1] 56); have L5 := (L1.step hb4).step b5; have hbr5 := (hbr1.trans (hb4.mono hbr1.size)).trans (b5.mono (Nat.le_trans hbr1.size hb4.size)))
        go_roundw
        case rel => exact ⟨i + 1, g', els, cap, by omega, by go_num, by rw [HK9.out], by rw [HF.out], by rw [HK9.out]; exact L5, by unfold normOut; rw [flat_snoc _ HJ.out, HB.out.1, List.append_nil]; exact HD3.out.1, HD3.out.2.1, by have := HK9.out; omega, (fun j d hj hjd => by
          rcases Nat.lt_or_eq_of_le (Nat.le_of_lt_succ hj) with h | rfl
          · exact HD3.out.2.2 j d h hjd
          · rw [HJ.out] at hjd; cases hjd; rw [HB.out.2]; decide), hbr5⟩
        case measure => simp [intOf]; omega
      · rw [hs] at hbd
        have HNV := Lib.hid (never_yes HJ.out (by rw [hbd]; decide))
        clear hone hbd
        go_wp2_with (go_at_call 100; refine (HN.out _ y1).mono ?_; rintro e w4 ⟨A4, n4, c4, rfl, I4, hb4, O4⟩; have b5 := below_alloc w4 (.cells #[.int .i64 r.1, .int .i64 r.2.1, .slice A4 n4 c4, .int .i64 r.2.2.2.1] 56); have hbr5 := (hbr1.trans (hb4.mono hbr1.size)).trans (b5.mono (Nat.le_trans hbr1.size hb4.size)))
        go_ret3
        exact ⟨.inl ⟨HNV.out, rfl⟩, hbr5⟩
    · obtain rfl : i = m := by omega
      have hall : ds.take i = ds := List.take_of_length_le (by rw [HDL.out]; exact Nat.le_refl _)
      have HV := Lib.hid (never_no (n := n) (ds := ds) (fun j d hj hd => HD3.out.2.2 j d (by rw [← HDL.out]; exact hj) hd))
      have HE := Lib.hid (show els.map CEl.d = normOut n ds by have := HD3.out.1; rw [hall] at this; exact this)
      have HFF := Lib.hid (show normFits n ds = fb by rw [← HFB.out, hall])
      have hge : ¬ ((i : Int) < i) := by omega
      clear hall
      go_wp2
      go_ret3
      exact ⟨.inr ⟨HV.out, g', els, cap, by rw [HK9.out, HFF.out]; rfl, by rw [HK9.out]; exact hL, HE.out, HD3.out.2.1⟩, hbr⟩
end Go.Proofs.YtkgnlloioaobiaaGreat
namespace Go.Proofs.YtkgnlloioaobiaaGreat
open Go.Shelf Go.RowKit Go.Lib Go.Sort
theorem insertion_none (p : Option Addr) (cap : Nat) (fv : Value) (w : World) :
    Calls Tryz.prog 134 #[.slice p 0 cap, .int .i64 0, .int .i64 0, fv] w fun e w' => e = .returned (.tuple #[]) ∧ w' = w := by
  go_enter Tryz.func134, Tryz.ntmps134
  go_wp2
  refine wp_loop_rounds 1 ?_
  rw [rounds_succ]
  go_wp2
  go_end0
  exact ⟨rfl, rfl⟩
set_option maxHeartbeats 2000000 in
theorem pdq_none (p : Option Addr) (cap : Nat) (lim : Int) (fv : Value) (w : World) :
    Calls Tryz.prog 113 #[.slice p 0 cap, .int .i64 0, .int .i64 0, .int .i64 lim, fv] w fun e w' => e = .returned (.tuple #[]) ∧ w' = w := by
  go_enter Tryz.func113, Tryz.ntmps113
  go_wp2
  refine wp_loop_rounds 1 ?_
  rw [rounds_succ]
  go_wp2_with (go_at_call 134; refine (insertion_none p cap fv _).mono ?_; rintro e w' ⟨rfl, rfl⟩)
  (try simp only [Exit.inBlock, Exit.then]); refine bodyPost_ret (results_none rfl _ _ _) rfl ?_
  exact ⟨rfl, rfl⟩
theorem bits_zero (W : World) : Calls Tryz.prog 114 #[.int .u64 0] W fun e w' => e = .returned (.int .i64 (Lib.bitLen 0 : Nat)) ∧ w' = W :=
  Any.bits_Len (SlLaysF0.n15.bits { sortCond with }) 0 W (by omega) (by omega)
set_option maxHeartbeats 2000000 in
theorem sort_none (p : Option Addr) (cap : Nat) (fv : Value) (w : World) :
    Calls Tryz.prog 93 #[.slice p 0 cap, fv] w fun e w' => e = .returned (.tuple #[]) ∧ w' = w := by
  go_enter Tryz.func93, Tryz.ntmps93
  go_wp2_with (first | (go_at_call 114; refine (bits_zero _).mono ?_; rintro e w' ⟨rfl, rfl⟩) | (go_at_call 113; refine (pdq_none p cap _ fv _).mono ?_; rintro e w' ⟨rfl, rfl⟩))
  go_end0
  exact ⟨rfl, rfl⟩
end Go.Proofs.YtkgnlloioaobiaaGreat
namespace Go.Proofs.YtkgnlloioaobiaaGreat
open Go.RowKit
theorem sort_any {N0 N : Nat} {w : World} {g m cap n : Nat} {els : List CEl} (h : CL2 N0 N w (.slice (some ⟨g, 0, none⟩) m cap) els) (hn : ∀ e ∈ els, e.n = n) (hq : ∀ e ∈ els, e.q = 0 ∨ e.q = 1 ∨ e.q = 2) (hN : N ≤ w.heap.size) :
    Calls Tryz.prog 93 #[.slice (some ⟨g, 0, none⟩) m cap, .func (.func 94) #[] #[]] w fun e w' => e = .returned (.tuple #[]) ∧
      ∃ els', CL2 N0 N w' (.slice (some ⟨g, 0, none⟩) m cap) els' ∧ els'.Perm els ∧ els'.map CEl.d = sortD (els.map CEl.d) ∧ Below N w w' := by
  rcases Nat.eq_zero_or_pos els.length with h0 | h0
  · have hm := h.conds.1
    rw [h0] at hm
    subst hm
    obtain rfl : els = [] := List.length_eq_zero_iff.1 h0
    refine (sort_none _ _ _ _).mono ?_
    rintro e w' ⟨rfl, rfl⟩
    exact ⟨rfl, [], h, List.Perm.refl _, rfl, Below.refl _ _⟩
  · exact sort_owned h h0 hn hq hN
def PreB (n : Nat) (e : CEl) : Prop := e.n = n ∧ KindOk e.q e.M ∧ (-2305843009213693952 ≤ e.K ∧ e.K ≤ 2305843009213693952) ∧ ∀ x ∈ e.xs, -2305843009213693952 ≤ x ∧ x ≤ 2305843009213693952
theorem PreB.c {n : Nat} {e : CEl} (h : PreB n e) : PreC n e := ⟨h.1, h.2.1, by have := h.2.2.1; omega, fun x hx => by have := h.2.2.2 x hx; omega⟩
theorem abs_le {x y : Int} {B : Int} (hx : -B ≤ x ∧ x ≤ B) (h : y.natAbs ≤ x.natAbs) : -B ≤ y ∧ y ≤ B := by omega
theorem tdiv_abs (x d : Int) : (x.tdiv d).natAbs ≤ x.natAbs := by
  rw [Int.natAbs_tdiv]
  exact Nat.div_le_self _ _
theorem tab_mem {n : Nat} {f : Nat → Int} {z : Int} (h : z ∈ (List.range n).map f) : ∃ j, j < n ∧ z = f j := by
  obtain ⟨j, hj, rfl⟩ := List.mem_map.1 h
  exact ⟨j, List.mem_range.1 hj, rfl⟩
theorem norm_one {n : Nat} {d : CD} (hl : d.xs.length = n) (hq : KindOk d.q d.M) (hk : -2305843009213693952 ≤ d.K ∧ d.K ≤ 2305843009213693952) (hx : ∀ x ∈ d.xs, -2305843009213693952 ≤ x ∧ x ≤ 2305843009213693952) : ∀ z ∈ openD n d, NormD n z := by
  obtain ⟨q, M, xs, K⟩ := d
  simp only at hl hq hk hx
  have hxj : ∀ j : Nat, -2305843009213693952 ≤ xs[j]?.getD 0 ∧ xs[j]?.getD 0 ≤ 2305843009213693952 := fun j => by
    by_cases hj : j < xs.length
    · exact hx _ (getD_mem hj)
    · have : xs[j]?.getD 0 = 0 := by simp [hj]
      omega
  intro z hz
  unfold openD at hz
  split at hz
  · rename_i h0
    rw [List.mem_singleton] at hz
    subst hz
    unfold nfD nf at h0 ⊢
    simp only at h0 ⊢
    rcases hq with rfl | rfl | ⟨rfl, hM⟩
    · rw [if_pos rfl] at h0 ⊢
      by_cases hg : gcdA 0 xs = 0
      · rw [if_pos hg] at h0
        simp only at h0
        split at h0 <;> omega
      · rw [if_neg hg] at h0 ⊢
        refine ⟨.inl rfl, fun _ => rfl, by simp [quoL], fun y hy => ?_, ?_, ?_⟩
        · obtain ⟨j, hj, rfl⟩ := tab_mem hy
          exact abs_le (hxj j) (tdiv_abs _ _)
        · exact abs_le hk (floor_abs K _ (by omega))
        · exact ⟨show (0 : Int) ≤ 0 by decide, show (0 : Int) ≤ 512 by decide⟩
    · rw [if_neg (by decide), if_pos rfl] at h0 ⊢
      by_cases hg : gcdA 0 xs = 0
      · rw [if_pos hg] at h0
        simp only at h0
        split at h0 <;> omega
      · rw [if_neg hg] at h0 ⊢
        by_cases hr : K.tmod (gcdA 0 xs : Nat) ≠ 0
        · rw [if_pos hr] at h0
          simp at h0
        · rw [if_neg hr]
          refine ⟨.inr (.inl rfl), fun _ => rfl, by simp [quoL], fun y hy => ?_, ?_, ⟨show (0 : Int) ≤ 0 by decide, show (0 : Int) ≤ 512 by decide⟩⟩
          · obtain ⟨j, hj, rfl⟩ := tab_mem hy
            exact abs_le (hxj j) (tdiv_abs _ _)
          · exact abs_le hk (tdiv_abs _ _)
    · rw [if_neg (by decide), if_neg (by decide)] at h0 ⊢
      by_cases hr : (K % M) % (gcdA M.natAbs xs : Int) ≠ 0
      · rw [if_pos hr] at h0
        simp at h0
      · rw [if_neg hr] at h0 ⊢
        by_cases he : (gcdA M.natAbs xs : Int) = M
        · rw [if_pos he] at h0
          simp at h0
        · rw [if_neg he]
          have hdiv : ∀ a : Int, 0 ≤ a → a < M → -2305843009213693952 ≤ a / (gcdA M.natAbs xs : Int) ∧ a / (gcdA M.natAbs xs : Int) ≤ 2305843009213693952 := fun a ha hb => by
            have h1 : 0 ≤ a / (gcdA M.natAbs xs : Int) := Int.ediv_nonneg ha (Int.natCast_nonneg _)
            have h2 : a / (gcdA M.natAbs xs : Int) ≤ a := Int.ediv_le_self _ ha
            omega
          refine ⟨.inr (.inr rfl), fun h => absurd rfl h, by simp [remL], fun y hy => ?_, ?_, ⟨Int.ediv_nonneg (by omega) (Int.natCast_nonneg _), Int.le_trans (Int.ediv_le_self _ (by omega)) hM.2⟩⟩
          · obtain ⟨j, hj, rfl⟩ := tab_mem hy
            exact hdiv _ (Int.emod_nonneg _ (by omega)) (Int.emod_lt_of_pos _ (by omega))
          · exact hdiv _ (Int.emod_nonneg _ (by omega)) (Int.emod_lt_of_pos _ (by omega))
  · cases hz
theorem norm_all {n : Nat} {els : List CEl} {w : World} (hi : ∀ e ∈ els, IntsAt w e.A e.n e.xs) (hp : ∀ e ∈ els, PreB n e) : ∀ z ∈ normOut n (els.map CEl.d), NormD n z := fun z hz => by
  unfold normOut at hz
  obtain ⟨d, hd, hz⟩ := List.mem_flatMap.1 hz
  obtain ⟨e, he, rfl⟩ := List.mem_map.1 hd
  obtain ⟨h0, h1, h2, h3⟩ := hp e he
  exact norm_one ((hi e he).len.trans h0) h1 h2 h3 z hz
theorem normals_yes {n : Nat} {A : Option Addr} {m c : Nat} {els0 : List CEl} (w : World) (C0 : CondsAt w A m els0) (hpre : ∀ e ∈ els0, PreC n e) (hm : m ≤ 1000) (hv : normVoid n (els0.map CEl.d) = true) :
    Calls Tryz.prog 92 #[.slice A m c] w fun e w' => e = .returned (.tuple #[.slice none 0 0, .bool false, .bool true]) ∧ Below w.heap.size w w' := by
  refine (wide_normals w C0 hpre hm).mono ?_
  rintro e w' ⟨⟨_, rfl⟩ | ⟨h, _⟩, hb⟩
  · exact ⟨rfl, hb⟩
  · rw [hv] at h; cases h
theorem normals_no {n : Nat} {A : Option Addr} {m c : Nat} {els0 : List CEl} (w : World) (C0 : CondsAt w A m els0) (hpre : ∀ e ∈ els0, PreC n e) (hm : m ≤ 1000) (hv : normVoid n (els0.map CEl.d) = false) :
    Calls Tryz.prog 92 #[.slice A m c] w fun e w' => (∃ g l k c, e = .returned (.tuple #[.slice (some ⟨g, 0, none⟩) k c, .bool (normFits n (els0.map CEl.d)), .bool false]) ∧ CL w.heap.size w' (.slice (some ⟨g, 0, none⟩) k c) l ∧ l.map CEl.d = normOut n (els0.map CEl.d) ∧ ∀ e ∈ l, e.n = n) ∧ Below w.heap.size w w' := by
  refine (wide_normals w C0 hpre hm).mono ?_
  rintro e w' ⟨⟨h, _⟩ | ⟨_, g, l, c', rfl, h1, h2, h3⟩, hb⟩
  · rw [hv] at h; cases h
  · exact ⟨⟨g, l, _, c', rfl, h1, h2, h3⟩, hb⟩
theorem settled_none {N0 N n g m c : Nat} {els : List CEl} (w : World) (hL : CL2 N0 N w (.slice (some ⟨g, 0, none⟩) m c) els) (hl : els.length ≤ 1000) (hn : ∀ e ∈ els, e.n = n ∧ NormD n e.d) (hs : Sorted (els.map CEl.d)) (hN : N ≤ w.heap.size) (hv : settleD (els.map CEl.d) = none) :
    Calls Tryz.prog 95 #[.slice (some ⟨g, 0, none⟩) m c] w fun e w' => e = .returned (.tuple #[.slice none 0 0, .bool true]) ∧ Below N w w' := by
  refine (wide_settled w hL hl hn hs hN).mono ?_
  rintro e w' ⟨⟨_, rfl⟩ | ⟨out, A, l, c', h, _⟩, hb⟩
  · exact ⟨rfl, hb⟩
  · rw [hv] at h; cases h
theorem settled_some {N0 N n g m c : Nat} {els : List CEl} {out : List CD} (w : World) (hL : CL2 N0 N w (.slice (some ⟨g, 0, none⟩) m c) els) (hl : els.length ≤ 1000) (hn : ∀ e ∈ els, e.n = n ∧ NormD n e.d) (hs : Sorted (els.map CEl.d)) (hN : N ≤ w.heap.size) (hv : settleD (els.map CEl.d) = some out) :
    Calls Tryz.prog 95 #[.slice (some ⟨g, 0, none⟩) m c] w fun e w' => (∃ A k c' l, e = .returned (.tuple #[.slice A k c', .bool false]) ∧ CL2 N0 N w' (.slice A k c') l ∧ l.map CEl.d = out ∧ ∀ e ∈ l, e.n = n) ∧ Below N w w' := by
  refine (wide_settled w hL hl hn hs hN).mono ?_
  rintro e w' ⟨⟨h, _⟩ | ⟨out', A, l, c', h, rfl, h1, h2, h3⟩, hb⟩
  · rw [hv] at h; cases h
  · rw [hv] at h
    cases h
    exact ⟨⟨A, _, c', l, rfl, h1, h2, h3⟩, hb⟩
def PieceRet (w : World) (e : Ending) (w' : World) (n : Nat) (r : List CD × Bool × Int) : Prop :=
  ∃ A k c l, e = .returned (.tuple #[.slice A k c, .bool r.2.1, .int .i64 r.2.2]) ∧ CL w.heap.size w' (.slice A k c) l ∧ l.map CEl.d = r.1 ∧ (∀ e ∈ l, e.n = n) ∧ Below w.heap.size w w'
theorem piece_norm {n : Nat} {ds : List CD} (h : ∀ z ∈ normOut n ds, NormD n z) : (∀ d ∈ (pieceD n ds).1, NormD n d) ∧ (pieceD n ds).1.length ≤ 96 := by
  unfold pieceD
  split
  · exact ⟨(fun d hd => nomatch hd), by simp⟩
  · split
    · exact ⟨(fun d hd => nomatch hd), by simp⟩
    · rename_i out hout
      split
      · exact ⟨(fun d hd => nomatch hd), by simp⟩
      · rename_i hb
        refine ⟨settle_norm (fun d hd => h d ((sortL_perm leD _).mem_iff.1 hd)) hout, ?_⟩
        rcases Nat.lt_or_ge 96 out.length with h1 | h1
        · exact absurd (.inr h1) hb
        · exact h1
set_option maxHeartbeats 8000000 in
theorem wide_piece {n : Nat} {A : Option Addr} {m c : Nat} {els0 : List CEl} (w : World) (C0 : CondsAt w A m els0) (hpre : ∀ e ∈ els0, PreB n e) (hm : m ≤ 1000) :
    Calls Tryz.prog 71 #[.slice A m c] w fun e w' => PieceRet w e w' n (pieceD n (els0.map CEl.d)) := by
  have HP := Lib.hid (fun e he => (hpre e he).c)
  have HNA := Lib.hid (norm_all C0.ints hpre)
  have HML := Lib.hid C0.len
  obtain ⟨ds, hds⟩ : ∃ ds, els0.map CEl.d = ds := ⟨_, rfl⟩
  rw [hds] at HNA ⊢
  have HD := Lib.hid hds
  have hdl : ds.length = m := by rw [← hds, List.length_map]; exact C0.len
  have HOL := Lib.hid (show (normOut n ds).length ≤ 1000 by
    have : ∀ l : List CD, (normOut n l).length ≤ l.length := by
      intro l
      induction l with
      | nil => exact Nat.le_refl _
      | cons a l ih =>
        have : (openD n a).length ≤ 1 := by unfold openD; split <;> simp
        unfold normOut at ih ⊢
        simp only [List.flatMap_cons, List.length_append, List.length_cons]
        omega
    have := this ds
    omega)
  clear hpre hdl
  cases hv : normVoid n ds
  · have HV := Lib.hid (show normVoid n (els0.map CEl.d) = false by rw [hds]; exact hv)
    obtain ⟨fb, hfb⟩ : ∃ fb, normFits n ds = fb := ⟨_, rfl⟩
    have HFE := Lib.hid (show normFits n (els0.map CEl.d) = fb by rw [hds, hfb])
    have HOE := Lib.hid (show normOut n (els0.map CEl.d) = normOut n ds by rw [hds])
    have HSO := Lib.hid (sorted_sort (n := n) (l := normOut n ds) (fun d hd => (HNA.out d hd).len))
    cases hst : settleD (sortD (normOut n ds)) with
    | none =>
      have HST := Lib.hid hst
      have HPD := Lib.hid (show pieceD n ds = ([], true, 0) by unfold pieceD; rw [if_neg (by rw [hv]; decide), hst])
      clear hv hds hst
      go_enter Tryz.func71, Tryz.ntmps71
      go_wp2_with (first | (go_at_call 92; refine (normals_no w C0 HP.out hm HV.out).mono ?_; rintro e w2 ⟨⟨g2, l2, k2, c2, rfl, hL2, hd2, hn2⟩, hb2⟩; rw [HFE.out]; rw [HOE.out] at hd2; have HD2 := Lib.hid (And.intro hd2 hn2); have HN2 := Lib.hid (show ∀ e ∈ l2, e.n = n ∧ NormD n e.d from fun e he => ⟨hn2 e he, HNA.out e.d (by rw [← hd2]; exact List.mem_map.2 ⟨e, he, rfl⟩)⟩); have HL2 := Lib.hid (show l2.length ≤ 1000 by have h := congrArg List.length hd2; rw [List.length_map] at h; rw [h]; exact HOL.out); clear hd2 hn2) | (go_at_call 93; refine (sort_any hL2 HD2.out.2 (fun e he => (HN2.out e he).2.q) hb2.size).mono ?_; rintro e w3 ⟨rfl, l3, hL3, hp3, hd3, hbs⟩; rw [HD2.out.1] at hd3; have hN3 : ∀ e ∈ l3, e.n = n ∧ NormD n e.d := (fun e he => HN2.out e (hp3.mem_iff.1 he)); have hl3 : l3.length ≤ 1000 := (by rw [hp3.length_eq]; exact HL2.out); have hb3 := hb2.trans hbs; clear hL2 hp3 hbs hb2) | (go_at_call 95; refine (settled_none w3 hL3 hl3 hN3 (by rw [hd3]; exact HSO.out) hb3.size (by rw [hd3]; exact HST.out)).mono ?_; rintro e w4 ⟨rfl, hb4⟩))
      go_ret3
      rw [HPD.out]
      exact ⟨none, 0, 0, [], rfl, CL.nil _ _, rfl, (fun e h => nomatch h), hb3.trans hb4⟩
    | some out =>
      have HST := Lib.hid hst
      cases fb
      · have HPD := Lib.hid (show pieceD n ds = ([], false, 3) by unfold pieceD; rw [if_neg (by rw [hv]; decide), hst]; exact if_pos (.inl hfb))
        clear hv hds hst hfb
        go_enter Tryz.func71, Tryz.ntmps71
        go_wp2_with (first | (go_at_call 92; refine (normals_no w C0 HP.out hm HV.out).mono ?_; rintro e w2 ⟨⟨g2, l2, k2, c2, rfl, hL2, hd2, hn2⟩, hb2⟩; rw [HFE.out]; rw [HOE.out] at hd2; have HD2 := Lib.hid (And.intro hd2 hn2); have HN2 := Lib.hid (show ∀ e ∈ l2, e.n = n ∧ NormD n e.d from fun e he => ⟨hn2 e he, HNA.out e.d (by rw [← hd2]; exact List.mem_map.2 ⟨e, he, rfl⟩)⟩); have HL2 := Lib.hid (show l2.length ≤ 1000 by have h := congrArg List.length hd2; rw [List.length_map] at h; rw [h]; exact HOL.out); clear hd2 hn2) | (go_at_call 93; refine (sort_any hL2 HD2.out.2 (fun e he => (HN2.out e he).2.q) hb2.size).mono ?_; rintro e w3 ⟨rfl, l3, hL3, hp3, hd3, hbs⟩; rw [HD2.out.1] at hd3; have hN3 : ∀ e ∈ l3, e.n = n ∧ NormD n e.d := (fun e he => HN2.out e (hp3.mem_iff.1 he)); have hl3 : l3.length ≤ 1000 := (by rw [hp3.length_eq]; exact HL2.out); have hb3 := hb2.trans hbs; clear hL2 hp3 hbs hb2) | (go_at_call 95; refine (settled_some w3 hL3 hl3 hN3 (by rw [hd3]; exact HSO.out) hb3.size (by rw [hd3]; exact HST.out)).mono ?_; rintro e w4 ⟨⟨A4, k4, c4, l4, rfl, hL4, hd4, hn4⟩, hbx⟩; have hb4 := hb3.trans hbx; have HK4 := Lib.hid (show k4 = out.length by rw [← hd4, List.length_map]; exact hL4.conds.1); have HL4 := Lib.hid (And.intro hL4 (And.intro hd4 hn4)); clear hL4 hd4 hn4 hbx))
        go_ret3
        rw [HPD.out]
        exact ⟨none, 0, 0, [], rfl, CL.nil _ _, rfl, (fun e h => nomatch h), hb4⟩
      · by_cases hlen : 96 < out.length
        · have HPD := Lib.hid (show pieceD n ds = ([], false, 3) by unfold pieceD; rw [if_neg (by rw [hv]; decide), hst]; exact if_pos (.inr hlen))
          have HLEN := Lib.hid hlen
          clear hv hds hst hfb hlen
          go_enter Tryz.func71, Tryz.ntmps71
          go_wp2_with (first | (go_at_call 92; refine (normals_no w C0 HP.out hm HV.out).mono ?_; rintro e w2 ⟨⟨g2, l2, k2, c2, rfl, hL2, hd2, hn2⟩, hb2⟩; rw [HFE.out]; rw [HOE.out] at hd2; have HD2 := Lib.hid (And.intro hd2 hn2); have HN2 := Lib.hid (show ∀ e ∈ l2, e.n = n ∧ NormD n e.d from fun e he => ⟨hn2 e he, HNA.out e.d (by rw [← hd2]; exact List.mem_map.2 ⟨e, he, rfl⟩)⟩); have HL2 := Lib.hid (show l2.length ≤ 1000 by have h := congrArg List.length hd2; rw [List.length_map] at h; rw [h]; exact HOL.out); clear hd2 hn2) | (go_at_call 93; refine (sort_any hL2 HD2.out.2 (fun e he => (HN2.out e he).2.q) hb2.size).mono ?_; rintro e w3 ⟨rfl, l3, hL3, hp3, hd3, hbs⟩; rw [HD2.out.1] at hd3; have hN3 : ∀ e ∈ l3, e.n = n ∧ NormD n e.d := (fun e he => HN2.out e (hp3.mem_iff.1 he)); have hl3 : l3.length ≤ 1000 := (by rw [hp3.length_eq]; exact HL2.out); have hb3 := hb2.trans hbs; clear hL2 hp3 hbs hb2) | ((go_at_call 95; refine (settled_some w3 hL3 hl3 hN3 (by rw [hd3]; exact HSO.out) hb3.size (by rw [hd3]; exact HST.out)).mono ?_; rintro e w4 ⟨⟨A4, k4, c4, l4, rfl, hL4, hd4, hn4⟩, hbx⟩; have hb4 := hb3.trans hbx; have HK4 := Lib.hid (show k4 = out.length by rw [← hd4, List.length_map]; exact hL4.conds.1); have HL4 := Lib.hid (And.intro hL4 (And.intro hd4 hn4)); clear hL4 hd4 hn4 hbx); have hk96 : (96 : Int) < (k4 : Int) := (by have := HK4.out; have := HLEN.out; omega)))
          go_ret3
          rw [HPD.out]
          exact ⟨none, 0, 0, [], rfl, CL.nil _ _, rfl, (fun e h => nomatch h), hb4⟩
        · have HPD := Lib.hid (show pieceD n ds = (out, false, 0) by unfold pieceD; rw [if_neg (by rw [hv]; decide), hst]; exact if_neg (by rw [hfb]; simpa using hlen))
          have HLEN := Lib.hid hlen
          clear hv hds hst hfb hlen
          go_enter Tryz.func71, Tryz.ntmps71
          go_wp2_with (first | (go_at_call 92; refine (normals_no w C0 HP.out hm HV.out).mono ?_; rintro e w2 ⟨⟨g2, l2, k2, c2, rfl, hL2, hd2, hn2⟩, hb2⟩; rw [HFE.out]; rw [HOE.out] at hd2; have HD2 := Lib.hid (And.intro hd2 hn2); have HN2 := Lib.hid (show ∀ e ∈ l2, e.n = n ∧ NormD n e.d from fun e he => ⟨hn2 e he, HNA.out e.d (by rw [← hd2]; exact List.mem_map.2 ⟨e, he, rfl⟩)⟩); have HL2 := Lib.hid (show l2.length ≤ 1000 by have h := congrArg List.length hd2; rw [List.length_map] at h; rw [h]; exact HOL.out); clear hd2 hn2) | (go_at_call 93; refine (sort_any hL2 HD2.out.2 (fun e he => (HN2.out e he).2.q) hb2.size).mono ?_; rintro e w3 ⟨rfl, l3, hL3, hp3, hd3, hbs⟩; rw [HD2.out.1] at hd3; have hN3 : ∀ e ∈ l3, e.n = n ∧ NormD n e.d := (fun e he => HN2.out e (hp3.mem_iff.1 he)); have hl3 : l3.length ≤ 1000 := (by rw [hp3.length_eq]; exact HL2.out); have hb3 := hb2.trans hbs; clear hL2 hp3 hbs hb2) | ((go_at_call 95; refine (settled_some w3 hL3 hl3 hN3 (by rw [hd3]; exact HSO.out) hb3.size (by rw [hd3]; exact HST.out)).mono ?_; rintro e w4 ⟨⟨A4, k4, c4, l4, rfl, hL4, hd4, hn4⟩, hbx⟩; have hb4 := hb3.trans hbx; have HK4 := Lib.hid (show k4 = out.length by rw [← hd4, List.length_map]; exact hL4.conds.1); have HL4 := Lib.hid (And.intro hL4 (And.intro hd4 hn4)); clear hL4 hd4 hn4 hbx); have hk96 : ¬ ((96 : Int) < (k4 : Int)) := (by have := HK4.out; have := HLEN.out; omega)))
          go_ret3
          rw [HPD.out]
          exact ⟨A4, k4, c4, l4, rfl, HL4.out.1, HL4.out.2.1, HL4.out.2.2, hb4⟩
  · have HV := Lib.hid (show normVoid n (els0.map CEl.d) = true by rw [hds]; exact hv)
    have HPD := Lib.hid (show pieceD n ds = ([], true, 0) by unfold pieceD; rw [if_pos hv])
    clear hv hds
    go_enter Tryz.func71, Tryz.ntmps71
    go_wp2_with (go_at_call 92; refine (normals_yes w C0 HP.out hm HV.out).mono ?_; rintro e w2 ⟨rfl, hb2⟩)
    go_ret3
    rw [HPD.out]
    exact ⟨none, 0, 0, [], rfl, CL.nil _ _, rfl, (fun e h => nomatch h), hb2⟩
end Go.Proofs.YtkgnlloioaobiaaGreat
namespace Go.Proofs.YtkgnlloioaobiaaGreat
open Go.ChangeShapes Go.WideShapes Go.ChangeAt Go.RowKit Go.Maps
theorem infoPc : (Tryz.prog.info? 34).map (fun i => (i.zero, i.size, i.bytes)) = some (some (.slice none 0 0), 1, 24) := by kernel_rfl
section
variable {n N : Nat} {w w1 w2 w3 : World} {b : Nat} {u v : Value} {r : Nat} {ps : List PEl}
theorem UN.mapped (h : UN n N w b u r ps) (hg : w.grownBy w1 (some r)) (hN : N ≤ w.heap.size) : w1.heap[b]? = some (.cells #[u, .map (some r)] 111 (0, 0)) ∧ w1.ownsRow N 34 1 u ps.length (ps.map PEl.v) ∧ KeepUR r w w1 ∧ Below N w w1 := by
  obtain ⟨D, ⟨es, clock, hm, _⟩, _⟩ := h.map
  have hne : ∀ (k : Nat) (cs : Array Value) (t : TypeId) (fz : Nat × Nat), w.heap[k]? = some (.cells cs t fz) → w1.heap[k]? = some (.cells cs t fz) := fun k cs t fz e => (hg.block k (Array.getElem?_eq_some_iff.1 e).1 fun e' => by
    cases e'
    rw [hm] at e
    cases e).trans e
  refine ⟨hne _ _ _ _ h.box, ⟨h.own.1, ?_⟩, ⟨⟨hg.size, fun k cs t fz e _ => hne k cs t fz e⟩, fun k ob hk e _ => (hg.block k (Array.getElem?_eq_some_iff.1 e).1 fun e' => hk (by cases e'; rfl)).trans e, fun k cs fz e => hne k cs _ fz e⟩, (Below.refl N w).grown hg hN fun k e => by cases e; exact h.hr⟩
  rcases h.own.2 with h0 | ⟨g, cap, cur, hv, hgN, hc, rest⟩
  · exact .inl h0
  · exact .inr ⟨g, cap, cur, hv, hgN, hne _ _ _ _ hc, rest⟩
theorem UN.appended {p : PEl} (hbox : w2.heap[b]? = some (.cells #[u, .map (some r)] 111 (0, 0))) (hown : w2.ownsRow N 34 1 u ps.length (ps.map PEl.v)) {D : DataW Unit} {k : Nat} (hmap : w2.ownsMap Tryz.prog 9 (plainElem Tryz.prog 4) r k D) (hown3 : w3.ownsRow N 34 1 v (ps.length + 1) (ps.map PEl.v ++ [p.v])) (hg : w2.grownBy w3 u.ownBlock) (hN : N ≤ w2.heap.size) (hb : N ≤ b) :
    w3.heap[b]? = some (.cells #[u, .map (some r)] 111 (0, 0)) ∧ (w3.setCell ⟨b, 0, none⟩ v).heap[b]? = some (.cells #[v, .map (some r)] 111 (0, 0)) ∧ (w3.setCell ⟨b, 0, none⟩ v).ownsRow N 34 1 v (ps.length + 1) (ps.map PEl.v ++ [p.v]) ∧ (w3.setCell ⟨b, 0, none⟩ v).ownsMap Tryz.prog 9 (plainElem Tryz.prog 4) r k D ∧ KeepUR r w2 (w3.setCell ⟨b, 0, none⟩ v) ∧ Below N w2 (w3.setCell ⟨b, 0, none⟩ v) := by
  have hrow : ∀ j, u.ownBlock = some j → N ≤ j ∧ ∃ cur, w2.heap[j]? = some (.cells cur 34 (0, 0)) := fun j e => by
    rcases hown.2 with ⟨hv, _⟩ | ⟨g, cap, cur, hv, hgN, hc, _⟩
    · rw [hv] at e; cases e
    · rw [hv] at e; cases e; exact ⟨hgN, cur, hc⟩
  have hkeep : ∀ (j : Nat) (o : Obj), w2.heap[j]? = some o → (∀ cur, o ≠ .cells cur 34 (0, 0)) → w3.heap[j]? = some o := fun j o e ho => (hg.block j (Array.getElem?_eq_some_iff.1 e).1 fun e' => by
    obtain ⟨_, cur, hc⟩ := hrow j e'.symm
    rw [e] at hc
    cases hc
    exact ho cur rfl).trans e
  have hb3 := hkeep b _ hbox (fun cur h => by simp at h)
  have hoth : ∀ j, j ≠ b → (w3.setCell ⟨b, 0, none⟩ v).heap[j]? = w3.heap[j]? := fun j hj => by
    simp only [World.setCell]
    rw [Array.getElem?_modify, if_neg fun e => hj e.symm]
  have hb4 : (w3.setCell ⟨b, 0, none⟩ v).heap[b]? = some (.cells #[v, .map (some r)] 111 (0, 0)) := by
    simp only [World.setCell]
    rw [Array.getElem?_modify, if_pos rfl, hb3]
    rfl
  have hsz : (w3.setCell ⟨b, 0, none⟩ v).heap.size = w3.heap.size := by simp [World.setCell]
  refine ⟨hb3, hb4, ⟨hown3.1, ?_⟩, ?_, ⟨⟨by rw [hsz]; exact hg.size, fun j cs t fz e ht => ?_⟩, fun j ob _ e ho => ?_, fun j cs fz e => ?_⟩, ((Below.refl N w2).grown hg hN fun j e => (hrow j e).1).setCell (p := ⟨b, 0, none⟩) hb v⟩
  · rcases hown3.2 with h0 | ⟨g, cap, cur, hv, hgN, hc, rest⟩
    · exact .inl h0
    · refine .inr ⟨g, cap, cur, hv, hgN, (hoth g fun e => ?_).trans hc, rest⟩
      rw [e, hb3] at hc
      simp at hc
  · obtain ⟨es, clock, hm, rest⟩ := hmap
    have hm3 := hkeep r _ hm (fun cur h => by cases h)
    refine ⟨es, clock, (hoth r fun e => ?_).trans hm3, rest⟩
    rw [e, hb3] at hm3
    cases hm3
  · have e3 := hkeep j _ e (fun cur h => by
      simp only [Obj.cells.injEq] at h
      rcases ht with rfl | rfl | rfl
      · exact absurd h.2.1 (by decide)
      · exact absurd h.2.1 (by decide)
      · exact absurd h.2.1 (by decide))
    refine (hoth j fun e' => ?_).trans e3
    rw [e', hb3] at e3
    simp only [Option.some.injEq, Obj.cells.injEq] at e3
    rcases ht with rfl | rfl | rfl
    · exact absurd e3.2.1 (by decide)
    · exact absurd e3.2.1 (by decide)
    · exact absurd e3.2.1 (by decide)
  · have e3 := hkeep j ob e (fun cur h => by rw [h] at ho; cases ho)
    refine (hoth j fun e' => ?_).trans e3
    rw [e', hb3] at e3
    cases e3
    cases ho
  · have e3 := hkeep j _ e (fun cur h => by
      simp only [Obj.cells.injEq] at h
      exact absurd h.2.1 (by decide))
    refine (hoth j fun e' => ?_).trans e3
    rw [e', hb3] at e3
    simp only [Option.some.injEq, Obj.cells.injEq] at e3
    exact absurd e3.2.1 (by decide)
end
theorem own_step {w w' : World} {base : Nat} {e : TypeId} {size n : Nat} {v : Value} {xs : List Value} (h : w.ownsRow base e size v n xs) (hb : Below w.heap.size w w') : w'.ownsRow base e size v n xs := by
  refine ⟨h.1, ?_⟩
  rcases h.2 with h0 | ⟨g, cap, cur, hv, hg, hc, rest⟩
  · exact .inl h0
  · exact .inr ⟨g, cap, cur, hv, hg, (hb.block g (Array.getElem?_eq_some_iff.1 hc).1).trans hc, rest⟩
theorem one_cell {w : World} {g : Nat} {v : Value} {t : TypeId} (h : w.heap[g]? = some (.cells #[v] t (0, 0))) : ∀ (j : Nat) u, [v][j]? = some u → w.cell? ((⟨g, 0, none⟩ : Addr).add j) = some u := fun j u hu => by
  match j, hu with
  | 0, hu =>
    simp at hu
    subst hu
    rw [add_plain, cell_of_row w g _ _ _ (0, 0) h]
    rfl
  | j + 1, hu => simp at hu
theorem keep_known {ps : List PEl} {p : PEl} (h : ∃ q ∈ ps, q.key = p.key) : keepP ps p = (0, ps) := by unfold keepP; rw [if_pos h]
theorem keep_full {ps : List PEl} {p : PEl} (h : ¬ ∃ q ∈ ps, q.key = p.key) (h2 : ps.length = 400) : keepP ps p = (3, ps) := by unfold keepP; rw [if_neg h, if_pos h2]
theorem keep_new {ps : List PEl} {p : PEl} (h : ¬ ∃ q ∈ ps, q.key = p.key) (h2 : ps.length ≠ 400) : keepP ps p = (0, ps ++ [p]) := by unfold keepP; rw [if_neg h, if_neg h2]
theorem key_few {n : Nat} {w : World} {p : PEl} (hn : n ≤ 100) (h : PieceOk n w p) : p.key.length ≤ maxLen := by
  have h1 := keys_len hn p.els (fun e he => ⟨h.2.1 e he, by rw [(h.1.ints e he).len]; exact (h.2.1 e he).2.1⟩)
  have h2 := h.1.len
  have h3 := h.2.2.1
  have h4 : p.els.length * 1100 ≤ 1000 * 1100 := Nat.mul_le_mul_right _ (by omega)
  unfold PEl.key keyU maxLen
  rw [List.length_map]
  omega
set_option maxHeartbeats 4000000 in
theorem union_keep {n N : Nat} {b : Nat} {u : Value} {r : Nat} {ps : List PEl} (hn : n ≤ 100) (w : World) (h : UN n N w b u r ps) (p : PEl) (hp : PieceOk n w p) (hN : N ≤ w.heap.size) :
    Calls Tryz.prog 79 #[.pointer (some ⟨b, 0, none⟩), p.v] w fun e w' => KeepRet n N w e w' b r (keepP ps p) := by
  obtain ⟨A, m, c, els⟩ := p
  have HK := Lib.hid (fun W (hW : CondsAt W A m els) => wide_key (n := n) (c := c) W hW hp.2.1 hp.2.2.1 hn)
  have hkf := key_few hn hp
  have hC := hp.1.conds
  have HP := Lib.hid hp
  obtain ⟨uA, uc, rfl⟩ := h.slice
  show Calls Tryz.prog 79 #[.pointer (some ⟨b, 0, none⟩), .slice A m c] w _
  by_cases hk : ∃ q ∈ ps, q.key = (⟨A, m, c, els⟩ : PEl).key
  · have HE := Lib.hid (keep_known hk)
    have HKN := Lib.hid hk
    clear hk hp
    go_enter Tryz.func79, Tryz.ntmps79
    go_wp2_with (go_at_call 98; refine (HK.out _ hC).mono ?_; rintro e w1 ⟨rfl, hb1⟩; have U1 := h.step hb1; have c0 := U1.c0; have c1 := U1.c1; have hl : (Instr.lookup 109 (.map (some r)) (.string (keyS (els.map CEl.d))) false).run Tryz.prog w1 = .ok (.bool true) w1 := (by have h9 := U1.look _ hkf; rw [decide_eq_true HKN.out] at h9; exact h9))
    go_ret
    rw [HE.out]
    exact ⟨⟨_, rfl, U1⟩, hb1.mono hN, .of_below hb1⟩
  · by_cases hf : ps.length = 400
    · have HE := Lib.hid (keep_full hk hf)
      have HKN := Lib.hid hk
      have hq : ((ps.length : Int) == 400) = true := by simp [hf]
      have HF := Lib.hid hf
      clear hk hp hf
      generalize ps.length = pl at *
      go_enter Tryz.func79, Tryz.ntmps79
      go_wp2_with (go_at_call 98; refine (HK.out _ hC).mono ?_; rintro e w1 ⟨rfl, hb1⟩; have U1 := h.step hb1; have c0 := U1.c0; have c1 := U1.c1; have hl : (Instr.lookup 109 (.map (some r)) (.string (keyS (els.map CEl.d))) false).run Tryz.prog w1 = .ok (.bool false) w1 := (by have h9 := U1.look _ hkf; rw [decide_eq_false HKN.out] at h9; exact h9))
      go_ret
      rw [HE.out]
      exact ⟨⟨_, rfl, U1⟩, hb1.mono hN, .of_below hb1⟩
    · have HE := Lib.hid (keep_new hk hf)
      have HKN := Lib.hid hk
      have hq : ((ps.length : Int) == 400) = false := by simp; omega
      have HF := Lib.hid hf
      have hfew := h.few
      obtain ⟨i0, hi0, hz0, hz1, hz2⟩ := info_parts infoPc
      clear hk hp hf
      go_enter Tryz.func79, Tryz.ntmps79
      go_wp2_with (first
        | (go_at_call 98; refine (HK.out _ hC).mono ?_; rintro e w1 ⟨rfl, hb1⟩; have U1 := h.step hb1; have c0 := U1.c0; have c1 := U1.c1; have hl : (Instr.lookup 109 (.map (some r)) (.string (keyS (els.map CEl.d))) false).run Tryz.prog w1 = .ok (.bool false) w1 := (by have h9 := U1.look _ hkf; rw [decide_eq_false HKN.out] at h9; exact h9))
        | (at_mapUpdate; obtain ⟨D, hm, hD⟩ := U1.map; refine wpList_mapUpdate_own _ rfl _ _ _ 109 rfl 9 4 str_key Tryz.underlying109 (plainElem Tryz.prog 4) r ps.length D rfl hm (by unfold maxLen; omega) _ (.bool true) (.string _) rfl rfl (keyOf_str _ hkf) (.lit (.bool true)) [] (plainElem_bool Tryz.underlying4 true) ?_; intro w2 hm2 hg2; obtain ⟨hbox2, hown2, hku2, hb2⟩ := U1.mapped hg2 (Nat.le_trans hN hb1.size); have e0 : w2.cell? ⟨b, 0, none⟩ = some (.slice uA ps.length uc) := (by rw [cell_of_row w2 b 0 _ _ (0, 0) hbox2]; rfl); have b3 := below_alloc w2 (.cells #[.slice A m c] 34); have hbox3 := (b3.block b (Array.getElem?_eq_some_iff.1 hbox2).1).trans hbox2; have hown3 := own_step hown2 b3; have hm3 := hm2.alloc (.cells #[.slice A m c] 34); have hN2 := Nat.le_trans (Nat.le_trans hN hb1.size) hb2.size; have hN3 := Nat.le_trans hN2 b3.size; have HDD := Lib.hid (And.intro hm.isMap hD); have HB := Lib.hid (And.intro hku2 hb2); have hG := heap_alloc_new w2 (.cells #[.slice A m c] 34); clear hm hD hm2 hg2 hku2 hb2 hown2 hbox2)
        | (at_builtin; refine wpList_append_own _ rfl _ _ 22 rfl N 34 i0 (.slice none 0 0) 1 24 Tryz.underlying22 hi0 hz0 hz1 hz2 rfl (by decide) _ ps.length (ps.map PEl.v) rfl hown3 ⟨w2.heap.size, 0, none⟩ 1 1 [.slice A m c] rfl rfl (one_cell hG) (fun v hv => (by rw [List.mem_singleton.1 hv]; rfl)) (by unfold maxLen; omega) (by omega) hN3 ?_; intro v4 w4 hown4 hg4 _; obtain ⟨A5, c5, rfl⟩ := own_slice hown4; obtain ⟨k1, k2, k3, k4, k5, k6⟩ := UN.appended (p := ⟨A, m, c, els⟩) hbox3 hown3 hm3 hown4 hg4 hN3 h.hb; have d0 : w4.cell? ⟨b, 0, none⟩ = some (.slice uA ps.length uc) := (by rw [cell_of_row w4 b 0 _ _ (0, 0) k1]; rfl); have f0 : w4.frozen? ⟨b, 0, none⟩ = false := (by simp [World.frozen?, k1]); have HKK := Lib.hid (And.intro k2 (And.intro k3 (And.intro k4 (And.intro k5 k6)))); have HB3 := Lib.hid (KeepUR.of_below (r := r) b3); have HB4 := Lib.hid (b3.mono hN2); clear k1 k2 k3 k4 k5 k6 hown4 hg4 hbox3 hown3 hm3 hG b3))
      go_ret
      rw [HE.out]
      have hU : UN n N (w4.setCell ⟨b, 0, none⟩ (.slice A5 (ps.length + 1) c5)) b (.slice A5 (ps.length + 1) c5) r (ps ++ [⟨A, m, c, els⟩]) := by
        have hkeep := (((KeepUR.of_below hb1).trans HB.out.1).trans (HB3.out.trans HKK.out.2.2.2.1)).u
        refine ⟨HKK.out.1, by rw [List.length_append, List.map_append]; exact HKK.out.2.1, ⟨_, by rw [List.length_append]; exact HKK.out.2.2.1, fun s => ?_⟩, by rw [List.length_append]; have := HF.out; simp; omega, h.hb, h.hr, fun q hq => ?_⟩
        · by_cases hs : s = (⟨A, m, c, els⟩ : PEl).key
          · subst hs
            refine Eq.trans (atKey_put_same (k := .string (⟨A, m, c, els⟩ : PEl).key) HDD.out.1 (str_key.key (keyOf_str _ hkf)) _ _) ?_
            rw [decide_eq_true ⟨_, List.mem_append_right _ (List.mem_singleton_self _), rfl⟩]
          · refine Eq.trans (atKey_put_other (k := .string (⟨A, m, c, els⟩ : PEl).key) (fun e => hs (by cases e; rfl)) _ _) ?_
            rw [HDD.out.2 s]
            congr 2
            rw [decide_eq_decide]
            constructor
            · rintro ⟨q, hq, e⟩; exact ⟨q, List.mem_append_left _ hq, e⟩
            · rintro ⟨q, hq, e⟩
              rcases List.mem_append.1 hq with hq | hq
              · exact ⟨q, hq, e⟩
              · rw [List.mem_singleton.1 hq] at e; exact absurd e.symm hs
        · rcases List.mem_append.1 hq with hq | hq
          · exact (h.ok q hq).keep hkeep
          · rw [List.mem_singleton.1 hq]; exact HP.out.keep hkeep
      exact ⟨⟨_, rfl, hU⟩, (hb1.mono hN).trans (HB.out.2.trans (HB4.out.trans HKK.out.2.2.2.2)), ((KeepUR.of_below hb1).trans HB.out.1).trans (HB3.out.trans HKK.out.2.2.2.1)⟩
end Go.Proofs.YtkgnlloioaobiaaGreat
namespace Go.Proofs.YtkgnlloioaobiaaGreat
open Go.ChangeShapes Go.WideShapes Go.ChangeAt Go.RowKit Go.Maps
theorem atKey_none (s : List UInt8) (z : DataW Unit) : (DataW.map [] : DataW Unit).atKey (.string s) z = z := rfl
theorem union_new (n : Nat) (w : World) : Calls Tryz.prog 73 #[] w fun e w' => (∃ b r, e = .returned (.pointer (some ⟨b, 0, none⟩)) ∧ UN n w.heap.size w' b (.slice none 0 0) r []) ∧ Below w.heap.size w w' := by
  have hmm := @run_makeMap Tryz.prog
  have hm := World.ownsMap_made (H := Unit) w Tryz.prog 9 (plainElem Tryz.prog 4)
  have b1 := below_alloc w (.map #[] 0)
  have b2 := below_alloc (w.alloc (.map #[] 0)) (.cells #[.slice none 0 0, .map (some w.heap.size)] 111)
  have hG := heap_alloc_new (w.alloc (.map #[] 0)) (.cells #[.slice none 0 0, .map (some w.heap.size)] 111)
  have hm2 := hm.alloc (.cells #[.slice none 0 0, .map (some w.heap.size)] 111)
  have hU : UN n w.heap.size ((w.alloc (.map #[] 0)).alloc (.cells #[.slice none 0 0, .map (some w.heap.size)] 111)) (w.heap.size + 1) (.slice none 0 0) w.heap.size [] := by
    rw [World.size_alloc] at hG
    exact ⟨hG, World.ownsRow_nil _ _ _ _, ⟨_, hm2, fun s => by rw [atKey_none]; simp⟩, by simp, by omega, Nat.le_refl _, (fun p hp => nomatch hp)⟩
  have HU := Lib.hid (And.intro hU (below_step b1 b2))
  clear hm hm2 hG hU b1 b2
  go_enter Tryz.func73, Tryz.ntmps73
  go_wp2
  go_ret
  exact ⟨⟨_, _, rfl, HU.out.1⟩, HU.out.2⟩
theorem union_pieces {n N : Nat} {b : Nat} {u : Value} {r : Nat} {ps : List PEl} (w : World) (h : UN n N w b u r ps) :
    Calls Tryz.prog 75 #[.pointer (some ⟨b, 0, none⟩)] w fun e w' => e = .returned u ∧ w = w' := by
  have c0 := h.c0
  obtain ⟨A, c, rfl⟩ := h.slice
  go_enter Tryz.func75, Tryz.ntmps75
  go_wp2
  go_ret
  exact ⟨rfl, rfl⟩
theorem piece_ok {n : Nat} {w w' : World} {A : Option Addr} {k c : Nat} {l : List CEl} {ds : List CD} (hL : CL w.heap.size w' (.slice A k c) l) (hd : l.map CEl.d = ds) (hn : ∀ e ∈ l, e.n = n) (hN : ∀ d ∈ ds, NormD n d) (hl : ds.length ≤ 96) : PieceOk n w' ⟨A, k, c, l⟩ := by
  have hk := hL.conds.1
  have hlen := congrArg List.length hd
  rw [List.length_map] at hlen
  refine ⟨(CV.of_cl hL).mono (Nat.zero_le _) (Nat.zero_le _), fun e he => ?_, by show k ≤ 1000; omega, ?_⟩
  · have h := hN e.d (by rw [← hd]; exact List.mem_map.2 ⟨e, he, rfl⟩)
    have h1 := h.m
    exact ⟨h.q, hn e he, ⟨by have : e.d.M = e.M := rfl; omega, by have : e.d.M = e.M := rfl; omega⟩, h.k, h.x⟩
  · rcases hL.own.2 with ⟨hv, _⟩ | ⟨g, cap, cur, hv, _, _, hcap, _⟩
    · cases hv
      exact ⟨⟨fun _ => rfl, (fun ad h => nomatch h)⟩, Nat.zero_le _⟩
    · cases hv
      exact ⟨⟨(fun h => nomatch h), fun ad h => by cases h; rfl⟩, hcap⟩
def addP (ps : List PEl) (q : List CD × Bool × Int) (p : PEl) : Int × List PEl := if q.2.2 ≠ 0 ∨ q.2.1 = true then (q.2.2, ps) else keepP ps p
def AddRet (n N : Nat) (w : World) (e : Ending) (w' : World) (b r : Nat) (ps : List PEl) (q : List CD × Bool × Int) : Prop := ∃ p : PEl, p.els.map CEl.d = q.1 ∧ KeepRet n N w e w' b r (addP ps q p)
set_option maxHeartbeats 4000000 in
theorem union_add {n N : Nat} {b : Nat} {u : Value} {r : Nat} {ps : List PEl} (hn : n ≤ 100) (w : World) (h : UN n N w b u r ps) {A : Option Addr} {m c : Nat} {els : List CEl} (C0 : CondsAt w A m els) (hpre : ∀ e ∈ els, PreB n e) (hm : m ≤ 1000) (hN : N ≤ w.heap.size) :
    Calls Tryz.prog 74 #[.pointer (some ⟨b, 0, none⟩), .slice A m c] w fun e w' => AddRet n N w e w' b r ps (pieceD n (els.map CEl.d)) := by
  have HP := Lib.hid (wide_piece (c := c) w C0 hpre hm)
  have HQ := Lib.hid (piece_norm (norm_all C0.ints hpre))
  obtain ⟨q, hq⟩ : ∃ q, pieceD n (els.map CEl.d) = q := ⟨_, rfl⟩
  rw [hq] at HP HQ ⊢
  obtain ⟨l, vd, er⟩ := q
  simp only at HP HQ
  clear hq C0 hpre
  by_cases hbad : er ≠ 0 ∨ vd = true
  · have HE := Lib.hid (fun p => (show addP ps (l, vd, er) p = (er, ps) from if_pos hbad))
    rcases (show er ≠ 0 ∨ (er = 0 ∧ vd = true) by by_cases h9 : er = 0; exact .inr ⟨h9, hbad.resolve_left (fun h => h h9)⟩; exact .inl h9) with h1 | ⟨rfl, rfl⟩
    · have q1 : (er != 0) = true := by simpa using h1
      have q2 : (er == 0) = false := by simpa using h1
      clear hbad h1
      go_enter Tryz.func74, Tryz.ntmps74
      go_wp2_with (go_at_call 71; refine HP.out.mono ?_; rintro e w1 ⟨A1, k1, c1, l1, rfl, hL1, hd1, hn1, hb1⟩)
      go_ret
      exact ⟨⟨A1, k1, c1, l1⟩, hd1, by rw [HE.out]; exact ⟨⟨_, rfl, h.step hb1⟩, hb1.mono hN, .of_below hb1⟩⟩
    · clear hbad
      go_enter Tryz.func74, Tryz.ntmps74
      go_wp2_with (go_at_call 71; refine HP.out.mono ?_; rintro e w1 ⟨A1, k1, c1, l1, rfl, hL1, hd1, hn1, hb1⟩)
      go_ret
      exact ⟨⟨A1, k1, c1, l1⟩, hd1, by rw [HE.out]; exact ⟨⟨_, rfl, h.step hb1⟩, hb1.mono hN, .of_below hb1⟩⟩
  · obtain rfl : er = 0 := by
      by_cases h9 : er = 0
      · exact h9
      · exact absurd (.inl h9) hbad
    obtain rfl : vd = false := by
      cases vd
      · rfl
      · exact absurd (.inr rfl) hbad
    have HE := Lib.hid (fun p => (show addP ps (l, false, 0) p = keepP ps p from if_neg hbad))
    clear hbad
    go_enter Tryz.func74, Tryz.ntmps74
    go_wp2_with (first
      | (go_at_call 71; refine HP.out.mono ?_; rintro e w1 ⟨A1, k1, c1, l1, rfl, hL1, hd1, hn1, hb1⟩; have U1 := h.step hb1; have HOK := Lib.hid (piece_ok hL1 hd1 hn1 HQ.out.1 HQ.out.2); have HD1 := Lib.hid hd1; have HB1 := Lib.hid hb1; have hN1 := Nat.le_trans hN hb1.size; clear hL1 hd1 hn1 hb1)
      | (go_at_call 79; refine (union_keep hn _ U1 ⟨A1, k1, c1, l1⟩ HOK.out hN1).mono ?_; rintro e w2 ⟨⟨u2, rfl, U2⟩, hb2, hk2⟩))
    go_ret
    exact ⟨⟨A1, k1, c1, l1⟩, HD1.out, by rw [HE.out]; exact ⟨⟨_, rfl, U2⟩, (HB1.out.mono hN).trans hb2, (KeepUR.of_below HB1.out).trans hk2⟩⟩
end Go.Proofs.YtkgnlloioaobiaaGreat
namespace Go.Proofs.YtkgnlloioaobiaaGreat
open Go.RowKit Go.Shelf
attribute [local go_sem] Oper.semAt_some
abbrev PAt (ps : List PEl) : Type := { p : PEl // p ∈ ps }
def pEnc (ps : List PEl) (p : PAt ps) : Array Value := #[.slice p.1.A p.1.n p.1.c]
theorem att_hit {ps : List PEl} {k : Nat} {x : PAt ps} (h : ps.attach[k]? = some x) : ps.attach.take (k + 1) = ps.attach.take k ++ [x] := by rw [List.take_add_one, h]; rfl
set_option maxRecDepth 100000 in
set_option maxHeartbeats 2000000 in
theorem values1_in (F : Fence) (N : Nat) (hf : F.fn 76) (hro : F.round = none) (hN : 1 ≤ N) (l Bs n₀ : Nat) (A : Option Addr) (n c : Nat) (ps : List PEl) (J Jx : List (PAt ps) → World → Prop)
    (hY : ∀ pre x W, J pre W → pre.length < n → YieldAt F (N - 1) Tryz.prog l (pEnc ps x) W fun e W' =>
      (e = .returned (.bool true) ∧ J (pre ++ [x]) W' ∧ Below n₀ W W') ∨ (e = .returned (.bool false) ∧ Jx (pre ++ [x]) W'))
    (W : World) (hBs : W.cell? ⟨Bs, 0, none⟩ = some (.slice A n c)) (hl : ps.length = n) (hsm : n ≤ 17592186044416)
    (hI : 0 < n → ∃ b off, A = some ⟨b, off, none⟩ ∧ b < n₀ ∧ ∀ j p, ps[j]? = some p → W.cell? ⟨b, off + j, none⟩ = some (.slice p.A p.n p.c)) (h0 : J [] W) :
    CallsIn F N Tryz.prog 76 #[.func (.yield l) #[] #[], .pointer (some ⟨Bs, 0, none⟩)] W fun e W' => (∃ v, e = .returned v) ∧
      ((∃ ys, ys = ps.attach ∧ J ys W') ∨ (∃ pre, (∃ k, k ≤ n ∧ pre = ps.attach.take k) ∧ Jx pre W')) := by
  have HL := Lib.hid hl
  refine callsIn_of_wp Tryz.func76 rfl hf ?_ hro
  simp only [Tryz.ntmps76, List.size_toArray, List.length_cons, List.length_nil, Nat.reduceAdd, Nat.reduceSub, Array.replicate_succ, Array.replicate_zero, List.push_toArray, List.append_toArray, List.nil_append, List.cons_append]
  clear hl
  gi_wp2
  gi_loopw [7] (fun i wr => ∃ k : Nat, k ≤ n ∧ i = .int .i64 k ∧ J (ps.attach.take k) wr ∧ Below n₀ W wr) (fun i _ => n - (intOf i).toNat)
  case atStart => exact ⟨0, Nat.zero_le _, rfl, h0, Below.refl _ _⟩
  case round =>
    obtain ⟨k, hk, rfl, hJs, hnx⟩ := hrel
    by_cases hlt : k < n
    · obtain ⟨b, off, rfl, hb, hc⟩ := hI (by omega)
      have hkl : k < ps.attach.length := by rw [List.length_attach, HL.out]; exact hlt
      obtain ⟨x, hx⟩ : ∃ x : PAt ps, ps.attach[k]? = some x := ⟨_, List.getElem?_eq_getElem hkl⟩
      have hx1 : ps[k]? = some x.1 := by
        have := congrArg (Option.map Subtype.val) hx
        rw [← List.getElem?_map, List.attach_map_subtype_val] at this
        exact this
      have hcx : wr.cell? ⟨b, off + k, none⟩ = some (.slice x.1.A x.1.n x.1.c) := (hnx.cell (p := ⟨b, off + k, none⟩) hb).trans (hc k _ hx1)
      have HM := Lib.hid (att_hit hx)
      obtain ⟨fn, tmps, assign, body, hy, hR⟩ := hY _ x wr hJs (by rw [List.length_take]; omega)
      dsimp only [pEnc] at hy
      have hq1 : (k : Int) < n := by omega
      clear hc hx1 hx hkl
      gi_wp2
      refine hR.mono ?_
      rintro e W3 (⟨rfl, hJ3, hk3⟩ | ⟨rfl, hJx3⟩)
      · gi_wp2
        go_roundw
        case rel => exact ⟨k + 1, by omega, by simp, by rw [HM.out]; exact hJ3, hnx.trans hk3⟩
        case measure => simp [intOf]; omega
      · gi_wp2
        refine bodyPost_ret (results_none rfl _ _ _) rfl ?_
        exact ⟨⟨_, rfl⟩, .inr ⟨_, ⟨k + 1, by omega, HM.out.symm⟩, hJx3⟩⟩
    · obtain rfl : k = n := by omega
      gi_wp2
      go_end0
      refine ⟨⟨_, rfl⟩, .inl ⟨_, rfl, ?_⟩⟩
      rw [List.take_of_length_le (by rw [List.length_attach, HL.out]; exact Nat.le_refl _)] at hJs
      exact hJs
theorem values (A : Option Addr) (n c : Nat) (w : World) :
    Calls Tryz.prog 45 #[.slice A n c] w fun e w' => e = .returned (.func (.func 76) #[] #[.pointer (some ⟨w.heap.size, 0, none⟩)]) ∧ w' = w.alloc (.cells #[.slice A n c] 22) := by
  go_enter Tryz.func45, Tryz.ntmps45
  go_wp2
  go_ret
  exact ⟨rfl, rfl⟩
theorem values_stops (F : Fence) (N : Nat) (hf : F.fn 76) (hro : F.round = none) (hN : 1 ≤ N) (Bs n₀ : Nat) (A : Option Addr) (n c : Nat) (ps : List PEl) (w : World) (hBs : Bs < w.heap.size)
    (hc : w.cell? ⟨Bs, 0, none⟩ = some (.slice A n c)) (hl : ps.length = n) (hsm : n ≤ 17592186044416) (hn₀ : n₀ ≤ w.heap.size)
    (hI : 0 < n → ∃ b off, A = some ⟨b, off, none⟩ ∧ b < n₀ ∧ ∀ j p, ps[j]? = some p → w.cell? ⟨b, off + j, none⟩ = some (.slice p.A p.n p.c)) :
    SeqStopsK F N Tryz.prog 76 #[.pointer (some ⟨Bs, 0, none⟩)] (pEnc ps) (Below n₀) (fun ys => ys = ps.attach) (fun pre => ∃ k, k ≤ n ∧ pre = ps.attach.take k) n w := fun l J Jx W hW _ _ hY h0 => by
  refine values1_in F N hf hro hN l Bs n₀ A n c ps J Jx hY W ((hW.cell (p := ⟨Bs, 0, none⟩) hBs).trans hc) hl hsm (fun h => ?_) h0
  obtain ⟨b, off, hA, hb, hcc⟩ := hI h
  exact ⟨b, off, hA, hb, fun j p hp => (hW.cell (p := ⟨b, off + j, none⟩) (Nat.lt_of_lt_of_le hb hn₀)).trans (hcc j p hp)⟩
end Go.Proofs.YtkgnlloioaobiaaGreat
namespace Go.Proofs.YtkgnlloioaobiaaGreat
open Go.ChangeShapes Go.WideShapes Go.ChangeAt Go.RowKit Go.Maps
def PEl.dat (p : PEl) : List CD := p.els.map CEl.d
def keepD (us : List (List CD)) (d : List CD) : Int × List (List CD) := if ∃ q ∈ us, keyU q = keyU d then (0, us) else if us.length = 400 then (3, us) else (0, us ++ [d])
def addD (n : Nat) (us : List (List CD)) (ds : List CD) : Int × List (List CD) :=
  if (pieceD n ds).2.2 ≠ 0 ∨ (pieceD n ds).2.1 = true then ((pieceD n ds).2.2, us) else keepD us (pieceD n ds).1
def gatD (n : Nat) (r : Int × List (List CD)) (ds : List CD) : Int × List (List CD) := if r.1 ≠ 0 then r else addD n r.2 ds
def gatherD (n : Nat) (l : List (List CD)) : Int × List (List CD) := l.foldl (gatD n) (0, [])
theorem gat_stuck {n : Nat} {r : Int × List (List CD)} (h : r.1 ≠ 0) : ∀ l : List (List CD), l.foldl (gatD n) r = r
  | [] => rfl
  | d :: l => by
    rw [List.foldl_cons, show gatD n r d = r from if_pos h]
    exact gat_stuck h l
theorem gather_stuck {n : Nat} {l l' : List (List CD)} (h : (gatherD n l).1 ≠ 0) : gatherD n (l ++ l') = gatherD n l := by
  unfold gatherD at h ⊢
  rw [List.foldl_append]
  exact gat_stuck h l'
theorem gather_next {n : Nat} {l : List (List CD)} {us : List (List CD)} (h : gatherD n l = (0, us)) (d : List CD) : gatherD n (l ++ [d]) = addD n us d := by
  unfold gatherD at h ⊢
  rw [List.foldl_append, h]
  show gatD n (0, us) d = _
  unfold gatD
  exact if_neg (show ¬ ((0 : Int) ≠ 0) by decide)
theorem keep_dat (ps : List PEl) (p : PEl) : ((keepP ps p).1, (keepP ps p).2.map PEl.dat) = keepD (ps.map PEl.dat) p.dat := by
  have hk : (∃ q ∈ ps, q.key = p.key) ↔ ∃ q ∈ ps.map PEl.dat, keyU q = keyU p.dat := by
    simp only [List.mem_map]
    constructor
    · rintro ⟨q, hq, e⟩; exact ⟨_, ⟨q, hq, rfl⟩, e⟩
    · rintro ⟨_, ⟨q, hq, rfl⟩, e⟩; exact ⟨q, hq, e⟩
  unfold keepP keepD
  by_cases h : ∃ q ∈ ps, q.key = p.key
  · rw [if_pos h, if_pos (hk.1 h)]
  · rw [if_neg h, if_neg (fun h' => h (hk.2 h')), List.length_map]
    split
    · rfl
    · simp
theorem add_dat {n : Nat} {ps : List PEl} {ds : List CD} {p : PEl} (hp : p.els.map CEl.d = (pieceD n ds).1) : ((addP ps (pieceD n ds) p).1, (addP ps (pieceD n ds) p).2.map PEl.dat) = addD n (ps.map PEl.dat) ds := by
  unfold addP addD
  split
  · rfl
  · rw [keep_dat, show p.dat = _ from hp]
section
variable {n N : Nat} {w w' : World} {b : Nat} {u : Value} {r : Nat} {ps : List PEl}
theorem UN.kept (h : UN n N w b u r ps) (hs : w.heap.size ≤ w'.heap.size) (hc : ∀ (k : Nat) (cs : Array Value) (t : TypeId) (fz : Nat × Nat), w.heap[k]? = some (.cells cs t fz) → w'.heap[k]? = some (.cells cs t fz)) (hr : w'.heap[r]? = w.heap[r]?) : UN n N w' b u r ps := by
  refine ⟨hc _ _ _ _ h.box, ⟨h.own.1, ?_⟩, ?_, h.few, h.hb, h.hr, fun p hp => (h.ok p hp).keep ⟨hs, fun k cs t fz e _ => hc k cs t fz e⟩⟩
  · rcases h.own.2 with h0 | ⟨g, cap, cur, hv, hg, hcc, rest⟩
    · exact .inl h0
    · exact .inr ⟨g, cap, cur, hv, hg, hc _ _ _ _ hcc, rest⟩
  · obtain ⟨D, ⟨es, clock, hm, rest⟩, hD⟩ := h.map
    exact ⟨D, ⟨es, clock, hr.trans hm, rest⟩, hD⟩
theorem UN.lt (h : UN n N w b u r ps) : r < w.heap.size := by
  obtain ⟨D, ⟨es, clock, hm, rest⟩, hD⟩ := h.map
  exact (Array.getElem?_eq_some_iff.1 hm).1
theorem UN.turn (h : UN n N w b u r ps) {B : Nat} {row : Option Nat} (hB : r < B) (hg : w.grownBy w' row) (hr : ∀ j, row = some j → B ≤ j ∧ ∃ o : Obj, w.heap[j]? = some o ∧ o.isCells = false) : UN n N w' b u r ps := by
  refine h.kept hg.size (fun k cs t fz e => (hg.block k (Array.getElem?_eq_some_iff.1 e).1 fun e' => ?_).trans e) (hg.block r h.lt fun e' => ?_)
  · obtain ⟨_, o, ho, hf⟩ := hr k e'.symm
    rw [e] at ho
    cases ho
    cases hf
  · have := (hr r e'.symm).1
    omega
theorem UN.set (h : UN n N w b u r ps) {a : Addr} (ha : a.block < N) {cs : Array Value} {t : TypeId} {fz : Nat × Nat} (hc : w.heap[a.block]? = some (.cells cs t fz)) (ht : t ≠ 56) (hti : t ≠ 3) (htu : t ≠ 84) (v : Value) : UN n N (w.setCell a v) b u r ps := by
  have hne : ∀ k, k ≠ a.block → (w.setCell a v).heap[k]? = w.heap[k]? := fun k hk => by
    simp only [World.setCell]
    rw [Array.getElem?_modify, if_neg fun e => hk e.symm]
  have hsz : w.heap.size ≤ (w.setCell a v).heap.size := by simp [World.setCell]
  have hku : KeepU w (w.setCell a v) := ⟨hsz, fun k cs' t' fz' e he => (hne k fun e' => by
    rw [e', hc] at e
    simp only [Option.some.injEq, Obj.cells.injEq] at e
    rcases he with rfl | rfl | rfl
    · exact ht e.2.1
    · exact hti e.2.1
    · exact htu e.2.1).trans e⟩
  refine ⟨(hne b (by have := h.hb; omega)).trans h.box, ⟨h.own.1, ?_⟩, ?_, h.few, h.hb, h.hr, fun p hp => (h.ok p hp).keep hku⟩
  · rcases h.own.2 with h0 | ⟨g, cap, cur, hv, hg, hcc, rest⟩
    · exact .inl h0
    · exact .inr ⟨g, cap, cur, hv, hg, (hne g (by omega)).trans hcc, rest⟩
  · obtain ⟨D, ⟨es, clock, hm, rest⟩, hD⟩ := h.map
    exact ⟨D, ⟨es, clock, (hne r (by have := h.hr; omega)).trans hm, rest⟩, hD⟩
theorem UN.pieces (h : UN n N w b u r ps) : ∃ A c, u = .slice A ps.length c ∧ PiecesAt w A ps.length ps ∧ (0 < ps.length → ∃ g o, A = some ⟨g, o, none⟩ ∧ N ≤ g) := by
  have hc : ∀ p ∈ ps, CondsAt w p.A p.n p.els := fun p hp => (h.ok p hp).1.conds
  have hf := h.few
  rcases h.own.2 with ⟨rfl, h0⟩ | ⟨g, cap, cur, rfl, hg, hcc, rest⟩
  · rw [h0]
    exact ⟨none, 0, rfl, ⟨by rw [h0], by omega, fun h' => absurd h' (by omega), hc⟩, fun h' => absurd h' (by omega)⟩
  · refine ⟨_, _, rfl, ⟨rfl, by omega, fun h' => ⟨g, 0, rfl, (Array.getElem?_eq_some_iff.1 hcc).1, fun j p hp => ?_⟩, hc⟩, fun _ => ⟨g, 0, rfl, hg⟩⟩
    have hj : j < ps.length := (List.getElem?_eq_some_iff.1 hp).1
    rw [Nat.zero_add, cell_of_row w g j _ _ (0, 0) hcc]
    have h5 := congrArg (·[j]?) rest.2.2.2
    simp only [List.getElem?_take, List.getElem?_map, hp, Option.map_some] at h5
    rw [if_pos (by omega)] at h5
    simpa [PEl.v] using h5
end
theorem pieces_move {n k : Nat} {w w' : World} {A : Option Addr} {ps : List PEl} (h : PiecesAt w A k ps) (hok : ∀ p ∈ ps, PieceOk n w' p) (hs : w.heap.size ≤ w'.heap.size) (hr : 0 < k → ∀ g o, A = some ⟨g, o, none⟩ → w'.heap[g]? = w.heap[g]?) : PiecesAt w' A k ps := by
  refine ⟨h.len, h.small, fun h0 => ?_, fun p hp => (hok p hp).1.conds⟩
  obtain ⟨b, off, rfl, hb, hc⟩ := h.cells h0
  exact ⟨b, off, rfl, Nat.lt_of_lt_of_le hb hs, fun j p hp => (World.cell?_of_block (a := ⟨b, off + j, none⟩) (hr h0 b off rfl)).trans (hc j p hp)⟩
end Go.Proofs.YtkgnlloioaobiaaGreat
