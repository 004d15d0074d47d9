/-
  Part 5 of the texts that the laws stand on.
-/
import Derived.Test.YtkgnlloioaobiaaGreatJd
set_option linter.unusedVariables false
set_option linter.unusedSimpArgs false
set_option maxRecDepth 100000
set_option linter.unusedSectionVars false
namespace Go.Proofs.YtkgnlloioaobiaaGreat
open Go.RowKit
def SortedRet (N0 : Nat) (w : World) (e : Ending) (w' : World) (els : List CEl) : Prop := ∃ A k c out, e = .returned (.slice A k c) ∧ CL2 N0 w.heap.size w' (.slice A k c) out ∧ out.map CEl.d = sortS (els.map CEl.d) ∧ (∀ e ∈ out, e ∈ els) ∧ Below w.heap.size w w'
theorem cl_empty (N0 : Nat) {N : Nat} {w : World} {g : Nat} (hN : N ≤ g) (hg : w.heap[g]? = some (.cells #[] 56 (0, 0))) : CL2 N0 N w (.slice (some ⟨g, 0, none⟩) 0 0) [] :=
  ⟨⟨rfl, .inr ⟨g, 0, #[], rfl, hN, hg, by simp, by decide, by simp, by simp [ccells]⟩⟩, by simp, (fun e h => nomatch h), (fun e h => nomatch h)⟩
theorem cl_shape {N0 N : Nat} {W : World} {A : Option Addr} {k c : Nat} {els : List CEl} (h : CL2 N0 N W (.slice A k c) els) : (A = none ∧ c = 0 ∧ els = []) ∨ ∃ g, A = some ⟨g, 0, none⟩ ∧ N ≤ g ∧ els.length ≤ c := by
  rcases h.own.2 with ⟨hv, h0⟩ | ⟨g, cap, cur, hv, hg, _, hcap, _⟩
  · cases hv
    exact .inl ⟨rfl, rfl, List.length_eq_zero_iff.1 h0⟩
  · cases hv
    exact .inr ⟨g, rfl, hg, hcap⟩
theorem cmp_els {n : Nat} (hn : n ≤ 12) {W : World} {f e : CEl} (hf : f.n = n ∧ NormD n f.d) (he : e.n = n ∧ NormD n e.d) (h1 : IntsAt W f.A f.n f.xs) (h2 : IntsAt W e.A e.n e.xs) :
    Calls Tryz.prog 107 #[condV f.q f.M f.A f.n f.c f.K, condV e.q e.M e.A e.n e.c e.K] W fun x w' => x = .returned (.int .i64 (ordD f.d e.d)) ∧ Below W.heap.size W w' := by
  have a1 := hf.2.m
  have a2 := he.2.m
  have b1 := hf.2.k
  have b2 := he.2.k
  have c1 : f.d.M = f.M := rfl
  have c2 : e.d.M = e.M := rfl
  have d1 : f.d.K = f.K := rfl
  have d2 : e.d.K = e.K := rfl
  exact rcond_cmp f.q f.M f.A f.n f.c f.K f.xs e.q e.M e.A e.n e.c e.K e.xs W h1 h2 (by rw [hf.1, he.1]) (by omega) (by omega) (by omega) (by omega) (by omega)
theorem same_d {f e : CEl} : sameC f.q f.M f.xs f.K e.q e.M e.xs e.K = decide (f.d = e.d) := by
  unfold sameC sameB
  rw [Bool.eq_iff_iff]
  simp [CEl.d]
set_option maxHeartbeats 8000000 in
theorem ref_sorted {N0 n : Nat} (hn12 : n ≤ 12) (A : Option Addr) (m c : Nat) (els : List CEl) (w : World) (C0 : CondsAt w A m els) (hro : ∀ e ∈ els, RowOk N0 w e.A e.n) (hN : ∀ e ∈ els, e.n = n ∧ NormD n e.d) (hm : m ≤ 2000) :
    Calls Tryz.prog 83 #[.slice A m c] w fun e w' => SortedRet N0 w e w' els := by
  have HRO := Lib.hid hro
  have HN := Lib.hid hN
  have HL := Lib.hid C0.len
  clear hro hN
  go_enter Tryz.func83, Tryz.ntmps83
  go_wp2
  go_loopw [3, 10] (fun u v wr => ∃ (i : Nat) (uA : Option Addr) (uc : Nat) (out : List CEl), i ≤ m ∧ v = .int .i64 i ∧ u = .slice uA out.length uc ∧ CL2 N0 w.heap.size wr (.slice uA out.length uc) out ∧ out.length ≤ i ∧ Hid (out.map CEl.d = sortS ((els.map CEl.d).take i)) ∧ Hid (∀ e ∈ out, e ∈ els) ∧ Below w.heap.size w wr) (fun _ v _ => m - (intOf v).toNat)
  case atStart => exact ⟨0, none, 0, [], Nat.zero_le _, rfl, rfl, CL2.nil _ _ _, Nat.le_refl _, Lib.hid rfl, Lib.hid (fun e h => nomatch h), Below.refl _ _⟩
  case round =>
    obtain ⟨i, uA, uc, out, hi, rfl, rfl, hU, hol, HD, HE, hbr⟩ := hrel
    by_cases hlt : i < m
    · obtain ⟨b, off, e, rfl, hblt, hej, hmem, hcs, hin⟩ := (C0.step hbr).at hlt
      obtain ⟨x0, x1, x2, x3⟩ := hcs
      have HEN := Lib.hid (HN.out e hmem)
      have HER := Lib.hid (HRO.out e hmem)
      have HEM := Lib.hid hmem
      have HIN := Lib.hid (fun W (hb : Below w.heap.size w W) => (C0.ints e hmem).step hb)
      have HRN := Lib.hid (fun W (hb : Below w.heap.size w W) => (HRO.out e hmem).step hb)
      have T1 : True := trivial
      have T2 : True := trivial
      have HSN := Lib.hid (sortS_snoc (l := els.map CEl.d) (i := i) (c := e.d) (by rw [List.getElem?_map, hej]; rfl))
      obtain ⟨eq, eM, eA, en, ec, eK, exs⟩ := e
      simp only at x0 x1 x2 x3 hin HIN HRN
      have hq1 : (i : Int) < m := by omega
      have b5 := below_alloc wr (.cells #[.int .i64 eq, .int .i64 eM, .slice eA en ec, .int .i64 eK] 56)
      have X1 := CBox.new wr eq eM eA en ec eK
      have I5 := hin.step b5
      have U5 := hU.step b5
      have hb5 := hbr.trans (b5.mono hbr.size)
      have HW5 := Lib.hid b5.size
      clear b5 hej hmem hin hU
      go_wp2
      generalize wr.alloc (.cells #[.int .i64 eq, .int .i64 eM, .slice eA en ec, .int .i64 eK] 56) = w5 at *
      clear x0 x1 x2 x3
      have HBX := Lib.hid X1.lt
      generalize wr.heap.size = bx at *
      go_loopw [6] (fun v ws => ∃ j : Nat, j ≤ out.length ∧ v = .int .i64 j ∧ Hid (∀ (k : Nat) (a : CD), k < j → (out.map CEl.d)[k]? = some a → ordD a ⟨eq, eM, exs, eK⟩ < 0) ∧ Below w5.heap.size w5 ws) (fun v _ => out.length - (intOf v).toNat)
      case atStart => exact ⟨0, Nat.zero_le _, rfl, Lib.hid (fun k a h => absurd h (by omega)), Below.refl _ _⟩
      case round =>
        obtain ⟨j, hj, rfl, HG, hbs⟩ := hrel
        have X6 := X1.step hbs
        have I6 := I5.step hbs
        have U6 := U5.step hbs
        by_cases hlt2 : j < out.length
        · have hq2 : (j : Int) < (out.length : Nat) := by omega
          obtain ⟨b2, off2, f, hA2, hblt2, hfj, hfm, hcs2, hin2⟩ := (CL2.conds U6).2.at hlt2
          cases hA2
          have HFN := Lib.hid (HN.out f (HE.out f hfm))
          have HFJ := Lib.hid hfj
          obtain ⟨o, ho⟩ : ∃ o, ordD f.d ⟨eq, eM, exs, eK⟩ = o := ⟨_, rfl⟩
          have HCM := Lib.hid (fun W (h1 : IntsAt W f.A f.n f.xs) (h2 : IntsAt W eA en exs) => (cmp_els (e := ⟨eq, eM, eA, en, ec, eK, exs⟩) hn12 HFN.out HEN.out h1 h2).mono fun x w' h => (show x = .returned (.int .i64 o) ∧ Below W.heap.size W w' from ⟨by rw [h.1]; exact congrArg (fun z => Ending.returned (Value.int .i64 z)) ho, h.2⟩))
          have HO := Lib.hid ho
          obtain ⟨fq, fM, fA, fn, fc, fK, fxs⟩ := f
          obtain ⟨y0, y1, y2, y3⟩ := hcs2
          simp only at y0 y1 y2 y3 hin2 HCM
          have c0 := X6.c0
          have c1 := X6.c1
          have c2 := X6.c2
          have c3 := X6.c3
          clear hfj hfm ho
          have HSD := Lib.hid (show (fun W : World => W.cell? ⟨b2, off2 + j * 4, none⟩ = some (.int .i64 fq) ∧ W.cell? ⟨b2, off2 + j * 4 + 1, none⟩ = some (.int .i64 fM) ∧ W.cell? ⟨b2, off2 + j * 4 + 2, none⟩ = some (.slice fA fn fc) ∧ W.cell? ⟨b2, off2 + j * 4 + 3, none⟩ = some (.int .i64 fK) ∧ W.cell? ⟨bx, 0, none⟩ = some (.int .i64 eq) ∧ W.cell? ⟨bx, 1, none⟩ = some (.int .i64 eM) ∧ W.cell? ⟨bx, 2, none⟩ = some (.slice eA en ec) ∧ W.cell? ⟨bx, 3, none⟩ = some (.int .i64 eK)) wr.drew from ⟨by simpa using y0, by simpa using y1, by simpa using y2, by simpa using y3, by simpa using c0, by simpa using c1, by simpa using c2, by simpa using c3⟩)
          by_cases hlo : o < 0
          · go_wp2
            go_region_held3 (fun W => W.cell? ⟨b2, off2 + j * 4, none⟩ = some (.int .i64 fq) ∧ W.cell? ⟨b2, off2 + j * 4 + 1, none⟩ = some (.int .i64 fM) ∧ W.cell? ⟨b2, off2 + j * 4 + 2, none⟩ = some (.slice fA fn fc) ∧ W.cell? ⟨b2, off2 + j * 4 + 3, none⟩ = some (.int .i64 fK) ∧ W.cell? ⟨bx, 0, none⟩ = some (.int .i64 eq) ∧ W.cell? ⟨bx, 1, none⟩ = some (.int .i64 eM) ∧ W.cell? ⟨bx, 2, none⟩ = some (.slice eA en ec) ∧ W.cell? ⟨bx, 3, none⟩ = some (.int .i64 eK)) (first | with_reducible exact ⟨y0, y1, y2, y3, c0, c1, c2, c3⟩ | with_reducible exact HSD.out | with_reducible exact ⟨z0, z1, z2, z3, d0, d1, d2, d3⟩ | go_keep)
              (first | (go_at_call 107; refine (HCM.out _ (hin2.step (Below.refl _ _).drew) (I6.step (Below.refl _ _).drew)).mono ?_; rintro x w6 ⟨rfl, hb⟩; have hx := below_step (Below.refl _ wr).drew hb; have X7 := X6.step hx; have U7 := U6.step hx; have I7 := I6.step hx; have K7 := hin2.step hx; have z0 := (hx.cell (p := ⟨b2, off2 + j * 4, none⟩) hblt2).trans y0; have z1 := (hx.cell (p := ⟨b2, off2 + j * 4 + 1, none⟩) hblt2).trans y1; have z2 := (hx.cell (p := ⟨b2, off2 + j * 4 + 2, none⟩) hblt2).trans y2; have z3 := (hx.cell (p := ⟨b2, off2 + j * 4 + 3, none⟩) hblt2).trans y3; have d0 := X7.c0; have d1 := X7.c1; have d2 := X7.c2; have d3 := X7.c3; have HBX2 := Lib.hid (hbs.trans (hx.mono hbs.size)); have hxs := hx.size; have HXW := Lib.hid hx; clear hb y0 y1 y2 y3 c0 c1 c2 c3))
            rename_i hHeld
            clear hHeld
            have HG2 := Lib.hid (show ∀ (k : Nat) (a : CD), k < j + 1 → (out.map CEl.d)[k]? = some a → ordD a ⟨eq, eM, exs, eK⟩ < 0 from fun k a hk ha => by
              rcases Nat.lt_or_eq_of_le (Nat.le_of_lt_succ hk) with h | rfl
              · exact HG.out k a h ha
              · rw [List.getElem?_map, HFJ.out] at ha
                cases ha
                rw [HO.out]; exact hlo)
            go_wp2
            go_roundw
            case rel => exact ⟨j + 1, by omega, by go_num, HG2, HBX2.out⟩
            case measure => simp [intOf]; omega
          · have hlo2 : 0 ≤ o := by omega
            go_wp2
            go_region_held3 (fun W => W.cell? ⟨b2, off2 + j * 4, none⟩ = some (.int .i64 fq) ∧ W.cell? ⟨b2, off2 + j * 4 + 1, none⟩ = some (.int .i64 fM) ∧ W.cell? ⟨b2, off2 + j * 4 + 2, none⟩ = some (.slice fA fn fc) ∧ W.cell? ⟨b2, off2 + j * 4 + 3, none⟩ = some (.int .i64 fK) ∧ W.cell? ⟨bx, 0, none⟩ = some (.int .i64 eq) ∧ W.cell? ⟨bx, 1, none⟩ = some (.int .i64 eM) ∧ W.cell? ⟨bx, 2, none⟩ = some (.slice eA en ec) ∧ W.cell? ⟨bx, 3, none⟩ = some (.int .i64 eK)) (first | with_reducible exact ⟨y0, y1, y2, y3, c0, c1, c2, c3⟩ | with_reducible exact HSD.out | with_reducible exact ⟨z0, z1, z2, z3, d0, d1, d2, d3⟩ | go_keep)
              (first | (go_at_call 107; refine (HCM.out _ (hin2.step (Below.refl _ _).drew) (I6.step (Below.refl _ _).drew)).mono ?_; rintro x w6 ⟨rfl, hb⟩; have hx := below_step (Below.refl _ wr).drew hb; have X7 := X6.step hx; have U7 := U6.step hx; have I7 := I6.step hx; have K7 := hin2.step hx; have z0 := (hx.cell (p := ⟨b2, off2 + j * 4, none⟩) hblt2).trans y0; have z1 := (hx.cell (p := ⟨b2, off2 + j * 4 + 1, none⟩) hblt2).trans y1; have z2 := (hx.cell (p := ⟨b2, off2 + j * 4 + 2, none⟩) hblt2).trans y2; have z3 := (hx.cell (p := ⟨b2, off2 + j * 4 + 3, none⟩) hblt2).trans y3; have d0 := X7.c0; have d1 := X7.c1; have d2 := X7.c2; have d3 := X7.c3; have HBX2 := Lib.hid (hbs.trans (hx.mono hbs.size)); have hxs := hx.size; have HXW := Lib.hid hx; clear hb y0 y1 y2 y3 c0 c1 c2 c3))
            rename_i hHeld
            clear hHeld
            have HSM := Lib.hid (fun W (h1 : IntsAt W fA fn fxs) (h2 : IntsAt W eA en exs) => (cond_same fq fM fA fn fc fK fxs eq eM eA en ec eK exs W h1 h2).mono fun x w' h => (show x = .returned (.bool (decide ((⟨fq, fM, fxs, fK⟩ : CD) = ⟨eq, eM, exs, eK⟩))) ∧ Below W.heap.size W w' from ⟨by rw [h.1]; exact congrArg (fun z => Ending.returned (Value.bool z)) (same_d (f := ⟨fq, fM, fA, fn, fc, fK, fxs⟩) (e := ⟨eq, eM, eA, en, ec, eK, exs⟩)), h.2⟩))
            have HMID := Lib.hid (insS_mid (c := ⟨eq, eM, exs, eK⟩) (l := out.map CEl.d) (i := j) (a := ⟨fq, fM, fxs, fK⟩) HG.out (by rw [List.getElem?_map, HFJ.out]; rfl) (by rw [show ordD (⟨fq, fM, fxs, fK⟩ : CD) ⟨eq, eM, exs, eK⟩ = o from HO.out]; omega))
            by_cases hsm : (⟨fq, fM, fxs, fK⟩ : CD) = ⟨eq, eM, exs, eK⟩
            · have HDC := Lib.hid (decide_eq_true hsm)
              rw [if_pos hsm] at HMID
              have HSQ := Lib.hid (show out.map CEl.d = sortS ((els.map CEl.d).take (i + 1)) by rw [HSN.out, ← HD.out]; exact HMID.out.symm)
              clear hsm
              go_wp2
              go_region_held3 (fun W => W.cell? ⟨b2, off2 + j * 4, none⟩ = some (.int .i64 fq) ∧ W.cell? ⟨b2, off2 + j * 4 + 1, none⟩ = some (.int .i64 fM) ∧ W.cell? ⟨b2, off2 + j * 4 + 2, none⟩ = some (.slice fA fn fc) ∧ W.cell? ⟨b2, off2 + j * 4 + 3, none⟩ = some (.int .i64 fK) ∧ W.cell? ⟨bx, 0, none⟩ = some (.int .i64 eq) ∧ W.cell? ⟨bx, 1, none⟩ = some (.int .i64 eM) ∧ W.cell? ⟨bx, 2, none⟩ = some (.slice eA en ec) ∧ W.cell? ⟨bx, 3, none⟩ = some (.int .i64 eK)) (first | with_reducible exact ⟨z0, z1, z2, z3, d0, d1, d2, d3⟩ | with_reducible exact HSE.out | with_reducible exact ⟨v0, v1, v2, v3, u0, u1, u2, u3⟩ | go_keep)
                (first | (go_at_call 96; refine (HSM.out _ (K7.step (Below.refl _ _).drew) (I7.step (Below.refl _ _).drew)).mono ?_; rintro x w8 ⟨rfl, hb⟩; rw [HDC.out]; have hy := below_step (Below.refl _ w6).drew hb; have X8 := X7.step hy; have U8 := U7.step hy; have v0 := (hy.cell (p := ⟨b2, off2 + j * 4, none⟩) (Nat.lt_of_lt_of_le hblt2 hxs)).trans z0; have v1 := (hy.cell (p := ⟨b2, off2 + j * 4 + 1, none⟩) (Nat.lt_of_lt_of_le hblt2 hxs)).trans z1; have v2 := (hy.cell (p := ⟨b2, off2 + j * 4 + 2, none⟩) (Nat.lt_of_lt_of_le hblt2 hxs)).trans z2; have v3 := (hy.cell (p := ⟨b2, off2 + j * 4 + 3, none⟩) (Nat.lt_of_lt_of_le hblt2 hxs)).trans z3; have u0 := X8.c0; have u1 := X8.c1; have u2 := X8.c2; have u3 := X8.c3; have HB8x := Lib.hid hy; clear hb z0 z1 z2 z3 d0 d1 d2 d3))
              rename_i hHeld
              clear hHeld
              have hol2 : out.length ≤ i + 1 := by omega
              have HZ12 := Lib.hid ((hb5.trans (HBX2.out.mono hb5.size)).trans (HB8x.out.mono (Nat.le_trans hb5.size HBX2.out.size)))
              go_wp2
              go_roundw
              case rel => exact ⟨i + 1, _, uc, out, by omega, by go_num, rfl, U8, hol2, HSQ, HE, HZ12.out⟩
              case measure => simp [intOf]; omega
            · have HDC := Lib.hid (decide_eq_false hsm)
              rw [if_neg hsm] at HMID
              clear hsm
              go_wp2
              go_region_held3 (fun W => W.cell? ⟨b2, off2 + j * 4, none⟩ = some (.int .i64 fq) ∧ W.cell? ⟨b2, off2 + j * 4 + 1, none⟩ = some (.int .i64 fM) ∧ W.cell? ⟨b2, off2 + j * 4 + 2, none⟩ = some (.slice fA fn fc) ∧ W.cell? ⟨b2, off2 + j * 4 + 3, none⟩ = some (.int .i64 fK) ∧ W.cell? ⟨bx, 0, none⟩ = some (.int .i64 eq) ∧ W.cell? ⟨bx, 1, none⟩ = some (.int .i64 eM) ∧ W.cell? ⟨bx, 2, none⟩ = some (.slice eA en ec) ∧ W.cell? ⟨bx, 3, none⟩ = some (.int .i64 eK)) (first | with_reducible exact ⟨z0, z1, z2, z3, d0, d1, d2, d3⟩ | with_reducible exact HSE.out | with_reducible exact ⟨v0, v1, v2, v3, u0, u1, u2, u3⟩ | go_keep)
                (first | (go_at_call 96; refine (HSM.out _ (K7.step (Below.refl _ _).drew) (I7.step (Below.refl _ _).drew)).mono ?_; rintro x w8 ⟨rfl, hb⟩; rw [HDC.out]; have hy := below_step (Below.refl _ w6).drew hb; have X8 := X7.step hy; have U8 := U7.step hy; have v0 := (hy.cell (p := ⟨b2, off2 + j * 4, none⟩) (Nat.lt_of_lt_of_le hblt2 hxs)).trans z0; have v1 := (hy.cell (p := ⟨b2, off2 + j * 4 + 1, none⟩) (Nat.lt_of_lt_of_le hblt2 hxs)).trans z1; have v2 := (hy.cell (p := ⟨b2, off2 + j * 4 + 2, none⟩) (Nat.lt_of_lt_of_le hblt2 hxs)).trans z2; have v3 := (hy.cell (p := ⟨b2, off2 + j * 4 + 3, none⟩) (Nat.lt_of_lt_of_le hblt2 hxs)).trans z3; have u0 := X8.c0; have u1 := X8.c1; have u2 := X8.c2; have u3 := X8.c3; have HB8x := Lib.hid hy; clear hb z0 z1 z2 z3 d0 d1 d2 d3))
              rename_i hHeld
              clear hHeld
              have HSH := Lib.hid (cl_shape U6)
              have hoff : off2 = 0 ∧ out.length ≤ uc := by
                rcases HSH.out with ⟨h, _⟩ | ⟨g, hg, _, hcap⟩
                · cases h
                · cases hg; exact ⟨rfl, hcap⟩
              obtain ⟨rfl, hcap⟩ := hoff
              have hcap1 : ¬ (uc = j) := by omega
              have hcap2 : ((out.length : Nat) : Int) ≤ uc := by omega
              have hcap3 : (j : Int) ≤ uc := by omega
              have hcap4 : (j : Int) ≤ (out.length : Nat) := by omega
              have HBW := Lib.hid (HXW.out.trans (HB8x.out.mono hxs))
              have HB0 := Lib.hid (HBW.out.trans ((below_alloc w8 (.cells #[] 56)).mono HBW.out.size))
              have HL0 := Lib.hid (cl_empty N0 (N := wr.heap.size) HBW.out.size (heap_alloc_new w8 (.cells #[] 56)) : CL2 N0 wr.heap.size (w8.alloc (.cells #[] 56)) (.slice (some ⟨w8.heap.size, 0, none⟩) 0 0) [])
              have HUV0 := (CV.of_cl U6).sub (i := 0) (k := j) (by omega) (A' := some ⟨b2, 0, none⟩) (fun _ g o h => by cases h; rfl)
              have HUW0 := (CV.of_cl U6).sub (i := j) (k := out.length - j) (by omega) (A' := some ⟨b2, j * 4, none⟩) (fun _ g o h => by cases h; simp)
              have HWB := Lib.hid (hb5.trans (hbs.mono hb5.size))
              obtain ⟨V1, hV1⟩ : ∃ V, (out.drop 0).take j = V := ⟨_, rfl⟩
              obtain ⟨V3, hV3⟩ : ∃ V, (out.drop j).take (out.length - j) = V := ⟨_, rfl⟩
              rw [hV1] at HUV0
              rw [hV3] at HUW0
              have HUV := Lib.hid HUV0
              have HUW := Lib.hid HUW0
              have E1 := Lib.hid (show V1 = out.take j by rw [← hV1]; simp)
              have E3 := Lib.hid (show V3 = out.drop j by rw [← hV3]; exact List.take_of_length_le (by simp))
              have hl1 : V1.length = j := HUV0.len
              have hl3 : V3.length = out.length - j := HUW0.len
              have hs1 : ([] : List CEl).length + j ≤ 100000 := by simp <;> omega
              have hs2 : ([] ++ V1).length + 1 ≤ 100000 := by simp <;> omega
              have hs3 : ([] ++ V1 ++ [(⟨eq, eM, eA, en, ec, eK, exs⟩ : CEl)]).length + (out.length - j) ≤ 100000 := by simp <;> omega
              have EF := Lib.hid (show ([] ++ V1 ++ [(⟨eq, eM, eA, en, ec, eK, exs⟩ : CEl)]) ++ V3 = out.take j ++ (⟨eq, eM, eA, en, ec, eK, exs⟩ : CEl) :: out.drop j by rw [E1.out, E3.out]; simp)
              have HL13 := Lib.hid (And.intro hl1 hl3)
              clear HUV0 HUW0 hV1 hV3 hl1 hl3
              have hlF : (out.take j ++ (⟨eq, eM, eA, en, ec, eK, exs⟩ : CEl) :: out.drop j).length = out.length + 1 := by simp; omega
              have HLF := Lib.hid hlF
              clear hlF v0 v1 v2 v3 u0 u1 u2 u3
              have c0 := X8.c0
              have c1 := X8.c1
              have c2 := X8.c2
              have c3 := X8.c3
              go_wp2_with (first | (at_builtin; have t1 := T1; clear T1 t1; refine wpList_append_view rfl _ _ 34 rfl rfl rfl HL0.out rfl (CV.conds (HUV.out.step HB0.out)) (fun h => nomatch h) (fun ad h => (by cases h; rfl)) (HUV.out.step HB0.out).rows hs1 HB0.out.size ?_; intro u7 w7 L7 hb7; have HB7 := Lib.hid (HB0.out.trans hb7); have X7 := X6.step HB7.out; clear c0 c1 c2 c3; have c0 := X7.c0; have c1 := X7.c1; have c2 := X7.c2; have c3 := X7.c3; have HB8 := Lib.hid (HB7.out.trans ((below_alloc w7 (.cells #[.int .i64 eq, .int .i64 eM, .slice eA en ec, .int .i64 eK] 56)).mono HB7.out.size)); have L8 := L7.step (below_alloc w7 (.cells #[.int .i64 eq, .int .i64 eM, .slice eA en ec, .int .i64 eK] 56)); clear L7 hb7) | (at_builtin; have t1 := T2; clear T2 t1; refine wpList_append_cond rfl _ _ 34 rfl rfl rfl L8 w7.heap.size ⟨eq, eM, eA, en, ec, eK, exs⟩ rfl (heap_alloc_new w7 (.cells #[.int .i64 eq, .int .i64 eM, .slice eA en ec, .int .i64 eK] 56)) (HIN.out _ (HWB.out.trans (HB8.out.mono HWB.out.size))) (HRN.out _ (HWB.out.trans (HB8.out.mono HWB.out.size))) hs2 HB8.out.size ?_; intro g9 cap9 w9 L9 hgr9 hb9; have HB9 := Lib.hid (HB8.out.trans hb9); clear hgr9 hb9 L8) | (at_builtin; refine wpList_append_view rfl _ _ 34 rfl rfl rfl L9 rfl (HUW.out.step HB9.out).conds (fun h => nomatch h) (fun ad h => (by cases h; rfl)) (HUW.out.step HB9.out).rows hs3 HB9.out.size ?_; intro u10 w10 L10 hb10; have HB10 := Lib.hid (HB9.out.trans hb10); obtain ⟨A10, c10, hu10⟩ := L10.slice; subst hu10))
              have L11 : CL2 N0 w.heap.size w10 (.slice A10 (out.take j ++ (⟨eq, eM, eA, en, ec, eK, exs⟩ : CEl) :: out.drop j).length c10) (out.take j ++ (⟨eq, eM, eA, en, ec, eK, exs⟩ : CEl) :: out.drop j) := by
                have := L10.mono (Nat.le_refl _) HWB.out.size
                rw [EF.out] at this
                exact this
              have HD11 := Lib.hid (show (out.take j ++ (⟨eq, eM, eA, en, ec, eK, exs⟩ : CEl) :: out.drop j).map CEl.d = sortS ((els.map CEl.d).take (i + 1)) by
                rw [HSN.out, ← HD.out]
                exact Eq.trans (by simp [List.map_take, List.map_drop, CEl.d]) HMID.out.symm)
              have HE11 := Lib.hid (show ∀ x ∈ out.take j ++ (⟨eq, eM, eA, en, ec, eK, exs⟩ : CEl) :: out.drop j, x ∈ els from fun x hx => by
                rcases List.mem_append.1 hx with hx | hx
                · exact HE.out x (List.mem_of_mem_take hx)
                · rcases List.mem_cons.1 hx with rfl | hx
                  · exact HEM.out
                  · exact HE.out x (List.mem_of_mem_drop hx))
              have HZ11 := Lib.hid (HWB.out.trans (HB10.out.mono HWB.out.size))
              have hlen11 : (out.take j ++ (⟨eq, eM, eA, en, ec, eK, exs⟩ : CEl) :: out.drop j).length ≤ i + 1 := by rw [HLF.out]; omega
              go_roundw
              case rel => exact ⟨i + 1, A10, c10, out.take j ++ (⟨eq, eM, eA, en, ec, eK, exs⟩ : CEl) :: out.drop j, by omega, by go_num, by first | rfl | (rw [← EF.out]; simp) | (rw [← EF.out]; simp; omega), L11, hlen11, HD11, HE11, HZ11.out⟩
              case measure => simp [intOf]; omega
        · have hge2 : ¬ (j : Int) < (out.length : Nat) := by omega
          obtain rfl : j = out.length := by omega
          rcases cl_shape U6 with ⟨rfl, rfl, rfl⟩ | ⟨g, rfl, hgN, hcap⟩
          · have c0 := X6.c0
            have c1 := X6.c1
            have c2 := X6.c2
            have c3 := X6.c3
            have HB0 := Lib.hid (fun (k9 : Nat) => (below_of_drewN k9 : Below wr.heap.size wr (wr.drewN k9)).trans ((below_alloc (wr.drewN k9) (.cells #[] 56)).mono (Nat.le_refl _)))
            have HL0 := Lib.hid (fun (k9 : Nat) => (cl_empty N0 (N := wr.heap.size) (Nat.le_refl _) (heap_alloc_new (wr.drewN k9) (.cells #[] 56)) : CL2 N0 wr.heap.size ((wr.drewN k9).alloc (.cells #[] 56)) (.slice (some ⟨wr.heap.size, 0, none⟩) 0 0) []))
            have HUV := Lib.hid (CV.of_cl U6)
            have HWB := Lib.hid (hb5.trans (hbs.mono hb5.size))
            have hs1 : ([] : List CEl).length + ([] : List CEl).length ≤ 100000 := by simp <;> omega
            have hs2 : ([] ++ ([] : List CEl)).length + 1 ≤ 100000 := by simp <;> omega
            go_wp2
            go_quiet (fail)
            go_wp2
            go_quiet (fail)
            have hs3 : ([] ++ ([] : List CEl) ++ [(⟨eq, eM, eA, en, ec, eK, exs⟩ : CEl)]).length + 0 ≤ 100000 := by simp <;> omega
            go_wp2_with (first | (at_builtin; have t1 := T1; clear T1 t1; refine wpList_append_view rfl _ _ 34 rfl rfl rfl (HL0.out _) rfl (CV.conds (HUV.out.step (HB0.out _))) (fun _ => rfl) (fun ad h => nomatch h) (HUV.out.step (HB0.out _)).rows hs1 (HB0.out _).size ?_; intro u7 w7 L7 hb7; have HB7 := Lib.hid ((HB0.out _).trans hb7); have X7 := X6.step HB7.out; clear c0 c1 c2 c3; have c0 := X7.c0; have c1 := X7.c1; have c2 := X7.c2; have c3 := X7.c3; have HB8 := Lib.hid (HB7.out.trans ((below_alloc w7 (.cells #[.int .i64 eq, .int .i64 eM, .slice eA en ec, .int .i64 eK] 56)).mono HB7.out.size)); have L8 := L7.step (below_alloc w7 (.cells #[.int .i64 eq, .int .i64 eM, .slice eA en ec, .int .i64 eK] 56)); clear L7 hb7) | (at_builtin; have t1 := T2; clear T2 t1; refine wpList_append_cond rfl _ _ 34 rfl rfl rfl L8 w7.heap.size ⟨eq, eM, eA, en, ec, eK, exs⟩ rfl (heap_alloc_new w7 (.cells #[.int .i64 eq, .int .i64 eM, .slice eA en ec, .int .i64 eK] 56)) (HIN.out _ (HWB.out.trans (HB8.out.mono HWB.out.size))) (HRN.out _ (HWB.out.trans (HB8.out.mono HWB.out.size))) hs2 HB8.out.size ?_; intro g9 cap9 w9 L9 hgr9 hb9; have HB9 := Lib.hid (HB8.out.trans hb9); clear hgr9 hb9 L8) | (at_builtin; refine wpList_append_view rfl _ _ 34 rfl rfl rfl L9 rfl (conds_nil _ _) (fun _ => rfl) (fun ad h => nomatch h) (fun e h => nomatch h) hs3 HB9.out.size ?_; intro u10 w10 L10 hb10; have HB10 := Lib.hid (HB9.out.trans hb10); obtain ⟨A10, c10, hu10⟩ := L10.slice; subst hu10))
            have L11 : CL2 N0 w.heap.size w10 (.slice A10 (([] : List CEl) ++ [(⟨eq, eM, eA, en, ec, eK, exs⟩ : CEl)]).length c10) (([] : List CEl) ++ [(⟨eq, eM, eA, en, ec, eK, exs⟩ : CEl)]) := by
              have := L10.mono (Nat.le_refl _) HWB.out.size
              simpa using this
            have HD11 := Lib.hid (show (([] : List CEl) ++ [(⟨eq, eM, eA, en, ec, eK, exs⟩ : CEl)]).map CEl.d = sortS ((els.map CEl.d).take (i + 1)) by
              rw [HSN.out, ← HD.out, List.map_append]
              exact (insS_end (c := ⟨eq, eM, exs, eK⟩) (l := ([] : List CEl).map CEl.d) (fun k a hk ha => HG.out k a (by rw [List.length_map] at hk; exact hk) ha)).symm)
            have HE11 := Lib.hid (show ∀ x ∈ ([] : List CEl) ++ [(⟨eq, eM, eA, en, ec, eK, exs⟩ : CEl)], x ∈ els from fun x hx => by
              rcases List.mem_append.1 hx with hx | hx
              · exact HE.out x hx
              · rw [List.mem_singleton.1 hx]; exact HEM.out)
            have HZ11 := Lib.hid (HWB.out.trans (HB10.out.mono HWB.out.size))
            have hlen11 : (([] : List CEl) ++ [(⟨eq, eM, eA, en, ec, eK, exs⟩ : CEl)]).length ≤ i + 1 := by simp <;> omega
            go_roundw
            case rel => exact ⟨i + 1, A10, c10, ([] : List CEl) ++ [⟨eq, eM, eA, en, ec, eK, exs⟩], by omega, by go_num, by simp, L11, hlen11, HD11, HE11, HZ11.out⟩
            case measure => simp [intOf]; omega
          · have hcap2 : ((out.length : Nat) : Int) ≤ uc := by omega
            have c0 := X6.c0
            have c1 := X6.c1
            have c2 := X6.c2
            have c3 := X6.c3
            have HB0 := Lib.hid (fun (k9 : Nat) => (below_of_drewN k9 : Below wr.heap.size wr (wr.drewN k9)).trans ((below_alloc (wr.drewN k9) (.cells #[] 56)).mono (Nat.le_refl _)))
            have HL0 := Lib.hid (fun (k9 : Nat) => (cl_empty N0 (N := wr.heap.size) (Nat.le_refl _) (heap_alloc_new (wr.drewN k9) (.cells #[] 56)) : CL2 N0 wr.heap.size ((wr.drewN k9).alloc (.cells #[] 56)) (.slice (some ⟨wr.heap.size, 0, none⟩) 0 0) []))
            have HUV := Lib.hid (CV.of_cl U6)
            have HWB := Lib.hid (hb5.trans (hbs.mono hb5.size))
            have hs1 : ([] : List CEl).length + out.length ≤ 100000 := by simp <;> omega
            have hs2 : ([] ++ out).length + 1 ≤ 100000 := by simp <;> omega
            go_wp2
            go_quiet (fail)
            go_wp2
            go_quiet (fail)
            have hs3 : ([] ++ out ++ [(⟨eq, eM, eA, en, ec, eK, exs⟩ : CEl)]).length + 0 ≤ 100000 := by simp <;> omega
            go_wp2_with (first | (at_builtin; have t1 := T1; clear T1 t1; refine wpList_append_view rfl _ _ 34 rfl rfl rfl (HL0.out _) rfl (CV.conds (HUV.out.step (HB0.out _))) (fun h => nomatch h) (fun ad h => (by cases h; rfl)) (HUV.out.step (HB0.out _)).rows hs1 (HB0.out _).size ?_; intro u7 w7 L7 hb7; have HB7 := Lib.hid ((HB0.out _).trans hb7); have X7 := X6.step HB7.out; clear c0 c1 c2 c3; have c0 := X7.c0; have c1 := X7.c1; have c2 := X7.c2; have c3 := X7.c3; have HB8 := Lib.hid (HB7.out.trans ((below_alloc w7 (.cells #[.int .i64 eq, .int .i64 eM, .slice eA en ec, .int .i64 eK] 56)).mono HB7.out.size)); have L8 := L7.step (below_alloc w7 (.cells #[.int .i64 eq, .int .i64 eM, .slice eA en ec, .int .i64 eK] 56)); clear L7 hb7) | (at_builtin; have t1 := T2; clear T2 t1; refine wpList_append_cond rfl _ _ 34 rfl rfl rfl L8 w7.heap.size ⟨eq, eM, eA, en, ec, eK, exs⟩ rfl (heap_alloc_new w7 (.cells #[.int .i64 eq, .int .i64 eM, .slice eA en ec, .int .i64 eK] 56)) (HIN.out _ (HWB.out.trans (HB8.out.mono HWB.out.size))) (HRN.out _ (HWB.out.trans (HB8.out.mono HWB.out.size))) hs2 HB8.out.size ?_; intro g9 cap9 w9 L9 hgr9 hb9; have HB9 := Lib.hid (HB8.out.trans hb9); clear hgr9 hb9 L8) | (at_builtin; refine wpList_append_view rfl _ _ 34 rfl rfl rfl L9 rfl (conds_nil _ _) (fun h => (by revert h; split <;> exact fun h => nomatch h)) (fun ad h => (by revert h; split <;> (intro h; cases h; rfl))) (fun e h => nomatch h) hs3 HB9.out.size ?_; intro u10 w10 L10 hb10; have HB10 := Lib.hid (HB9.out.trans hb10); obtain ⟨A10, c10, hu10⟩ := L10.slice; subst hu10))
            have L11 : CL2 N0 w.heap.size w10 (.slice A10 (out ++ [(⟨eq, eM, eA, en, ec, eK, exs⟩ : CEl)]).length c10) (out ++ [(⟨eq, eM, eA, en, ec, eK, exs⟩ : CEl)]) := by
              have := L10.mono (Nat.le_refl _) HWB.out.size
              simpa using this
            have HD11 := Lib.hid (show (out ++ [(⟨eq, eM, eA, en, ec, eK, exs⟩ : CEl)]).map CEl.d = sortS ((els.map CEl.d).take (i + 1)) by
              rw [HSN.out, ← HD.out, List.map_append]
              exact (insS_end (c := ⟨eq, eM, exs, eK⟩) (l := out.map CEl.d) (fun k a hk ha => HG.out k a (by rw [List.length_map] at hk; exact hk) ha)).symm)
            have HE11 := Lib.hid (show ∀ x ∈ out ++ [(⟨eq, eM, eA, en, ec, eK, exs⟩ : CEl)], x ∈ els from fun x hx => by
              rcases List.mem_append.1 hx with hx | hx
              · exact HE.out x hx
              · rw [List.mem_singleton.1 hx]; exact HEM.out)
            have HZ11 := Lib.hid (HWB.out.trans (HB10.out.mono HWB.out.size))
            have hlen11 : (out ++ [(⟨eq, eM, eA, en, ec, eK, exs⟩ : CEl)]).length ≤ i + 1 := by simp <;> omega
            go_roundw
            case rel => exact ⟨i + 1, A10, c10, out ++ [⟨eq, eM, eA, en, ec, eK, exs⟩], by omega, by go_num, by simp, L11, hlen11, HD11, HE11, HZ11.out⟩
            case measure => simp [intOf]; omega
    · obtain rfl : i = m := by omega
      have hge : ¬ ((i : Int) < i) := by omega
      have HR := Lib.hid (show out.map CEl.d = sortS (els.map CEl.d) by
        rw [HD.out, List.take_of_length_le (by rw [List.length_map, HL.out]; exact Nat.le_refl _)])
      go_wp2
      go_ret
      exact ⟨uA, _, uc, out, rfl, hU, HR.out, HE.out, hbr⟩
end Go.Proofs.YtkgnlloioaobiaaGreat
namespace Go.Proofs.YtkgnlloioaobiaaGreat
open Go.ChangeShapes Go.WideShapes Go.ChangeAt Go.RowKit
def RowAny (N : Nat) (W : World) (A : Option Addr) (n : Nat) : Prop := (∃ b off, A = some ⟨b, off, none⟩ ∧ b < N) ∨ RowOk 0 W A n
section
variable {N : Nat} {W W' : World} {A : Option Addr} {n : Nat} {xs : List Int}
theorem RowAny.step (h : RowAny N W A n) (hb : Below W.heap.size W W') : RowAny N W' A n := h.imp id fun h => h.step hb
theorem RowAny.mono {N' : Nat} (h : RowAny N W A n) (hN : N ≤ N') : RowAny N' W A n := h.imp (fun ⟨b, off, hA, hb⟩ => ⟨b, off, hA, Nat.lt_of_lt_of_le hb hN⟩) id
theorem RowAny.of_ints (h : IntsAt W A n xs) (hN : W.heap.size ≤ N) : RowAny N W A n := by
  rcases Nat.eq_zero_or_pos n with h0 | h0
  · exact .inr (.inl h0)
  · obtain ⟨b, off, hA, hlt, _⟩ := h.cells h0
    exact .inl ⟨b, off, hA, Nat.lt_of_lt_of_le hlt hN⟩
theorem RowAny.grown {row : Option Nat} (h : RowAny N W A n) (hg : W.grownBy W' row) (hr : ∀ r, row = some r → N ≤ r ∧ ∃ cur fr, W.heap[r]? = some (.cells cur 56 fr)) : RowAny N W' A n :=
  h.imp id fun h => h.grown hg fun r e => (hr r e).2
theorem IntsAt.grown_any {row : Option Nat} (h : IntsAt W A n xs) (ho : RowAny N W A n) (hg : W.grownBy W' row) (hr : ∀ r, row = some r → N ≤ r ∧ ∃ cur fr, W.heap[r]? = some (.cells cur 56 fr)) : IntsAt W' A n xs := by
  rcases ho with ⟨b', off', hA', hb'⟩ | ho
  · refine ⟨h.len, h.small, h.wf, fun hn => ?_⟩
    obtain ⟨b, off, hA, hlt, hc⟩ := h.cells hn
    rw [hA'] at hA
    cases hA
    refine ⟨b', off', hA', Nat.lt_of_lt_of_le hlt hg.size, fun j hj => ?_⟩
    rw [← hc j hj]
    exact World.cell?_of_block (hg.block b' hlt fun e => by have := (hr b' e.symm).1; omega)
  · exact h.grown ho hg fun r e => (hr r e).2
end
structure CL3 (N : Nat) (W : World) (u : Value) (els : List CEl) : Prop where
  own : W.ownsRow N 56 4 u els.length (ccells els)
  few : els.length ≤ 100000
  ints : ∀ e ∈ els, IntsAt W e.A e.n e.xs
  rows : ∀ e ∈ els, RowAny N W e.A e.n
section
variable {N : Nat} {W W' : World} {u : Value} {els : List CEl}
theorem CL3.of_cl {N0 : Nat} (h : CL2 N0 N W u els) : CL3 N W u els := ⟨h.own, h.few, h.ints, fun e he => .inr ((h.rows e he).mono (Nat.zero_le _))⟩
theorem CL3.nil (N : Nat) (W : World) : CL3 N W (.slice none 0 0) [] := .of_cl (CL2.nil 0 N W)
theorem CL3.step (h : CL3 N W u els) (hb : Below W.heap.size W W') : CL3 N W' u els := by
  refine ⟨⟨h.own.1, ?_⟩, h.few, fun e he => (h.ints e he).step hb, fun e he => (h.rows e he).step hb⟩
  rcases h.own.2 with h0 | ⟨g, cap, cur, hv, hg, hc, rest⟩
  · exact .inl h0
  · exact .inr ⟨g, cap, cur, hv, hg, (hb.block g (Array.getElem?_eq_some_iff.1 hc).1).trans hc, rest⟩
theorem CL3.slice (h : CL3 N W u els) : ∃ A c, u = .slice A els.length c := by
  rcases h.own.2 with ⟨rfl, h0⟩ | ⟨g, cap, cur, rfl, _⟩
  · rw [h0]; exact ⟨none, 0, rfl⟩
  · exact ⟨_, _, rfl⟩
theorem CL3.typed (h : CL3 N W u els) : ∀ r, u.ownBlock = some r → N ≤ r ∧ ∃ cur fr, W.heap[r]? = some (.cells cur 56 fr) := fun r e => by
  rcases h.own.2 with ⟨hv, _⟩ | ⟨gl, cap', cur', hv, hgN, hgl, _⟩
  · rw [hv] at e; cases e
  · rw [hv] at e
    simp only [Value.ownBlock, Option.some.injEq] at e
    subst e
    exact ⟨hgN, cur', _, hgl⟩
theorem CL3.conds {A : Option Addr} {m c : Nat} (h : CL3 N W (.slice A m c) els) : m = els.length ∧ CondsAt W A els.length els := by
  have hm : m = els.length := by
    obtain ⟨A', c', e⟩ := h.slice
    cases e; rfl
  subst hm
  have hf := h.few
  refine ⟨rfl, rfl, by omega, ?_, h.ints⟩
  intro h0
  rcases h.own.2 with ⟨_, h1⟩ | ⟨g, cap, cur, hv, hb, hc, h1, h2, h3, h4⟩
  · omega
  · cases hv
    refine ⟨g, 0, rfl, (Array.getElem?_eq_some_iff.1 hc).1, fun j e he => ?_⟩
    obtain ⟨a0, a1, a2, a3⟩ := ccells_at els j e he
    have hj := (List.getElem?_eq_some_iff.1 he).1
    rw [Nat.zero_add]
    refine ⟨?_, ?_, ?_, ?_⟩
    · have := World.ownsRow.cellAt h.own (j * 4) (by omega); rw [this]; exact a0
    · have := World.ownsRow.cellAt h.own (j * 4 + 1) (by omega); rw [this]; exact a1
    · have := World.ownsRow.cellAt h.own (j * 4 + 2) (by omega); rw [this]; exact a2
    · have := World.ownsRow.cellAt h.own (j * 4 + 3) (by omega); rw [this]; exact a3
end
theorem cl3_empty {N : Nat} {w : World} {g : Nat} (hN : N ≤ g) (hg : w.heap[g]? = some (.cells #[] 56 (0, 0))) : CL3 N w (.slice (some ⟨g, 0, none⟩) 0 0) [] := .of_cl (cl_empty 0 hN hg)
section
variable {ops : Array Oper} {o : Oper} {a : Act} {w : World} {Q : Exit → Act → World → Prop}
theorem wpList_append_any {rest : List Oper} (hgd : o.guard = none) (s x : Operand) (t : TypeId) (ho : o.op = .call { callee := .builtin .append, args := #[s, x], argTypes := #[t, t] }) (ht : Tryz.prog.underlying t = some (.slice 56))
    {N : Nat} {u : Value} {els : List CEl} (hs : a.eval s = u) (hL : CL3 N w u els) {A : Option Addr} {n c : Nat} {new : List CEl} (hx : a.eval x = .slice A n c) (hC : CondsAt w A n new) (hnil : A = none → c = 0) (hro : ∀ e ∈ new, RowAny N w e.A e.n) (hm : els.length + n ≤ 100000) (hN : N ≤ w.heap.size)
    (h : ∀ u' w', CL3 N w' u' (els ++ new) → Below N w w' → wpList Tryz.prog ops Q rest (a.put o.dst u') w') : wpList Tryz.prog ops Q (o :: rest) a w := by
  obtain ⟨i0, hi0, hz, hz1, hz2⟩ := info_parts infoCond
  have hl := hC.len
  cases A with
  | none =>
    have hn : n = 0 := by
      rcases Nat.eq_zero_or_pos n with h0 | h0
      · exact h0
      · obtain ⟨b, off, hA, _⟩ := hC.cells h0
        cases hA
    subst hn
    obtain rfl := hnil rfl
    obtain rfl : new = [] := List.length_eq_zero_iff.1 hl
    exact wpList_append_own_none hgd s x t ho N 56 i0 4 ht hi0 u els.length (ccells els) hs hL.own hx (h u w (by rw [List.append_nil]; exact hL) (Below.refl _ _))
  | some ad =>
    have hat : ∀ (j : Nat) (v : Value), (ccells new)[j]? = some v → w.cell? (ad.add j) = some v := fun j v hv => by
      rcases Nat.eq_zero_or_pos n with h0 | h0
      · rw [List.length_eq_zero_iff.1 (hl.trans h0)] at hv
        simp [ccells] at hv
      · obtain ⟨b, off, hA, _⟩ := hC.cells h0
        cases hA
        rw [add_plain]
        exact conds_cell hC hv
    refine wpList_append_own _ hgd s x t ho N 56 i0 (.agg #[.int .i64 0, .int .i64 0, .slice none 0 0, .int .i64 0]) 4 48 ht hi0 hz hz1 hz2 rfl (by decide) u els.length (ccells els) hs hL.own ad n c (ccells new) hx (by rw [ccells_len, hl]) hat (ccells_one new) (by unfold maxLen; omega) (by omega) hN ?_
    intro v' w' hown hgr _
    refine h v' w' ⟨by rw [List.length_append, ccells_app, hl]; exact hown, by rw [List.length_append]; omega, fun e he => ?_, fun e he => ?_⟩ ((Below.refl N w).grown hgr hN fun k e => (hL.typed k e).1)
    · rcases List.mem_append.1 he with he | he
      · exact (hL.ints e he).grown_any (hL.rows e he) hgr hL.typed
      · exact (hC.ints e he).grown_any (hro e he) hgr hL.typed
    · rcases List.mem_append.1 he with he | he
      · exact (hL.rows e he).grown hgr hL.typed
      · exact (hro e he).grown hgr hL.typed
end
end Go.Proofs.YtkgnlloioaobiaaGreat
namespace Go.Proofs.YtkgnlloioaobiaaGreat
open Go.RowKit
structure PL (n N : Nat) (w : World) (u : Value) (ps : List PEl) : Prop where
  own : w.ownsRow N 34 1 u ps.length (ps.map PEl.v)
  few : ps.length ≤ 4000000000
  ok : ∀ p ∈ ps, PieceOk n w p
section
variable {n N : Nat} {w w' : World} {u : Value} {ps : List PEl}
theorem PL.nil (n N : Nat) (w : World) : PL n N w (.slice none 0 0) [] := ⟨World.ownsRow_nil _ _ _ _, by simp, (fun p h => nomatch h)⟩
theorem PL.step (h : PL n N w u ps) (hb : Below w.heap.size w w') : PL n N w' u ps := ⟨own_step h.own hb, h.few, fun p hp => (h.ok p hp).keep (.of_below hb)⟩
theorem PL.slice (h : PL n N w u ps) : ∃ A c, u = .slice A ps.length c := by
  rcases h.own.2 with ⟨rfl, h0⟩ | ⟨g, cap, cur, rfl, _⟩
  · rw [h0]; exact ⟨none, 0, rfl⟩
  · exact ⟨_, _, rfl⟩
theorem PL.pieces (h : PL n N w u ps) : ∃ A c, u = .slice A ps.length c ∧ PiecesAt w A ps.length ps ∧ (0 < ps.length → ∃ g o, A = some ⟨g, o, none⟩ ∧ N ≤ g) := by
  have hc : ∀ p ∈ ps, CondsAt w p.A p.n p.els := fun p hp => (h.ok p hp).1.conds
  have hf := h.few
  rcases h.own.2 with ⟨rfl, h0⟩ | ⟨g, cap, cur, rfl, hg, hcc, rest⟩
  · rw [h0]
    exact ⟨none, 0, rfl, ⟨by rw [h0], by omega, fun h' => absurd h' (by omega), hc⟩, fun h' => absurd h' (by omega)⟩
  · refine ⟨_, _, rfl, ⟨rfl, by omega, fun h' => ⟨g, 0, rfl, (Array.getElem?_eq_some_iff.1 hcc).1, fun j p hp => ?_⟩, hc⟩, fun _ => ⟨g, 0, rfl, hg⟩⟩
    have hj : j < ps.length := (List.getElem?_eq_some_iff.1 hp).1
    rw [Nat.zero_add, cell_of_row w g j _ _ (0, 0) hcc]
    have h5 := congrArg (·[j]?) rest.2.2.2
    simp only [List.getElem?_take, List.getElem?_map, hp, Option.map_some] at h5
    rw [if_pos (by omega)] at h5
    simpa [PEl.v] using h5
theorem PL.at (h : PL n N w u ps) {A : Option Addr} {m c : Nat} (hu : u = .slice A m c) : m = ps.length ∧ PiecesAt w A ps.length ps := by
  obtain ⟨A', c', e, hP, _⟩ := h.pieces
  rw [hu] at e
  cases e
  exact ⟨rfl, hP⟩
theorem PL.typed (h : PL n N w u ps) : ∀ r, u.ownBlock = some r → N ≤ r ∧ ∃ cur, w.heap[r]? = some (.cells cur 34 (0, 0)) := fun r e => by
  rcases h.own.2 with ⟨hv, _⟩ | ⟨g, cap, cur, hv, hgN, hc, _⟩
  · rw [hv] at e; cases e
  · rw [hv] at e; cases e; exact ⟨hgN, cur, hc⟩
theorem keepU_grown {row : Option Nat} (hg : w.grownBy w' row) (hr : ∀ r, row = some r → ∃ cur, w.heap[r]? = some (.cells cur 34 (0, 0))) : KeepU w w' :=
  ⟨hg.size, fun k cs t fz e ht => (hg.block k (Array.getElem?_eq_some_iff.1 e).1 fun e' => by
    obtain ⟨cur, hc⟩ := hr k e'.symm
    rw [e] at hc
    simp only [Option.some.injEq, Obj.cells.injEq] at hc
    rcases ht with rfl | rfl | rfl
    · exact absurd hc.2.1 (by decide)
    · exact absurd hc.2.1 (by decide)
    · exact absurd hc.2.1 (by decide)).trans e⟩
end
section
variable {ops : Array Oper} {o : Oper} {a : Act} {w : World} {Q : Exit → Act → World → Prop}
theorem wpList_append_piece {rest : List Oper} (hgd : o.guard = none) (s x : Operand) (t : TypeId) (ho : o.op = .call { callee := .builtin .append, args := #[s, x], argTypes := #[t, t] }) (ht : Tryz.prog.underlying t = some (.slice 34))
    {n N : Nat} {u : Value} {ps : List PEl} (hs : a.eval s = u) (hL : PL n N w u ps) (g : Nat) (p : PEl) (hx : a.eval x = .slice (some ⟨g, 0, none⟩) 1 1) (hg : w.heap[g]? = some (.cells #[p.v] 34 (0, 0))) (hp : PieceOk n w p) (hm : ps.length + 1 ≤ 4000000000) (hN : N ≤ w.heap.size)
    (h : ∀ A' cap w', PL n N w' (.slice A' (ps.length + 1) cap) (ps ++ [p]) → KeepU w w' → Below N w w' → wpList Tryz.prog ops Q rest (a.put o.dst (.slice A' (ps.length + 1) cap)) w') : wpList Tryz.prog ops Q (o :: rest) a w := by
  obtain ⟨i0, hi0, hz0, hz1, hz2⟩ := info_parts infoPc
  refine wpList_append_own _ hgd s x t ho N 34 i0 (.slice none 0 0) 1 24 ht hi0 hz0 hz1 hz2 rfl (by decide) u ps.length (ps.map PEl.v) hs hL.own ⟨g, 0, none⟩ 1 1 [p.v] hx rfl (one_cell hg) (fun v hv => by rw [List.mem_singleton.1 hv]; rfl) (by unfold maxLen; omega) (by omega) hN ?_
  intro v' w' hown hgr _
  obtain ⟨A', c', rfl⟩ := own_slice hown
  have hk := keepU_grown hgr fun r e => (hL.typed r e).2
  refine h A' c' w' ⟨by rw [List.length_append, List.map_append]; exact hown, by rw [List.length_append]; exact hm, fun q hq => ?_⟩ hk ((Below.refl N w).grown hgr hN fun k e => (hL.typed k e).1)
  rcases List.mem_append.1 hq with hq | hq
  · exact (hL.ok q hq).keep hk
  · rw [List.mem_singleton.1 hq]; exact hp.keep hk
end
end Go.Proofs.YtkgnlloioaobiaaGreat
namespace Go.Proofs.YtkgnlloioaobiaaGreat
open Go.ChangeShapes Go.WideShapes Go.ChangeAt Go.RowKit Go.Joins Go.Deep
def PieceC (p : PEl) : Prop := (p.A = none → p.c = 0) ∧ p.n ≤ p.c ∧ ∀ e ∈ p.els, CapOf e.A e.n e.c
section
variable {H : Type} {enc : TypeId × Value → H} {w : World}
theorem cond_coreC {fuel : Nat} {cs : List Value} {y : DataW H × List MemPlace} (hlt : ∀ x ∈ y.2, x.block < w.heap.size) (hsz : (y.1.weights Tryz.prog 56).all (· ≤ reachBytes) = true)
    (hf : DataW.trod enc Tryz.prog w 0 (fun _ => true) true fuel 56 cs = some y) : ∃ e : CEl, cs = e.cells ∧ IntsAt w e.A e.n e.xs ∧ CapOf e.A e.n e.c := by
  obtain ⟨y0, y1, y2, n, rfl, hlen, h0, h1, h2⟩ := trod_struct3 Tryz.underlying56 hf
  have k0 : Tryz.prog.cellsOf 56 = 4 := by kernel_rfl
  have k1 : Tryz.prog.cellsOf 3 = 1 := by kernel_rfl
  have k2 : Tryz.prog.cellsOf 54 = 2 := by kernel_rfl
  have k3 : Tryz.prog.cellsOf 38 = 1 := by kernel_rfl
  rw [k0] at hlen
  match cs, hlen with
  | [c0, c1, c2, c3], _ =>
    simp only [k1, k2, List.drop_zero, List.take_succ_cons, List.take_zero, List.drop_succ_cons] at h0 h1 h2
    simp only [DataW.weights, Tryz.underlying56, DataW.weightsEach, List.map_cons, List.all_append, Bool.and_eq_true] at hsz
    obtain ⟨q, hv0, hq⟩ := DataW.trod_int Tryz.underlying3 h0
    obtain ⟨M, hv1, hM⟩ := DataW.trod_int Tryz.underlying3 h1
    obtain ⟨z0, z1, m, hx2, _, g0, g1⟩ := trod_struct2 Tryz.underlying54 h2
    simp only [k1, k3, List.drop_zero, List.take_succ_cons, List.take_zero, List.drop_succ_cons] at g0 g1
    subst hx2
    have hsz2 := hsz.2.2.1
    simp only [DataW.weights, Tryz.underlying54, DataW.weightsEach, List.map_cons, List.all_append, Bool.and_eq_true] at hsz2
    obtain ⟨A, l, c, xs, rfl, hI, hC⟩ := ints_coreC Tryz.underlying38 Tryz.underlying3 (by kernel_rfl) (by kernel_rfl) (fun x hx => hlt x (List.mem_append_right _ (List.mem_append_right _ (List.mem_append_left _ hx)))) hsz2.1 g0
    obtain ⟨K, hv3, hK⟩ := DataW.trod_int Tryz.underlying3 g1
    simp only [List.cons.injEq, and_true] at hv0 hv1 hv3
    subst hv0 hv1 hv3
    exact ⟨⟨q, M, A, l, c, K, xs⟩, rfl, hI, hC⟩
theorem conds_coreC {fuel : Nat} {v : Value} {y : DataW H × List MemPlace} (hlt : ∀ x ∈ y.2, x.block < w.heap.size) (hsz : (y.1.weights Tryz.prog 34).all (· ≤ reachBytes) = true)
    (hf : DataW.trod enc Tryz.prog w 0 (fun _ => true) true fuel 34 [v] = some y) : ∃ A n c els, v = .slice A n c ∧ CondsAt w A n els ∧ (A = none → c = 0) ∧ n ≤ c ∧ ∀ e ∈ els, CapOf e.A e.n e.c := by
  have k0 : Tryz.prog.cellsOf 56 = 4 := by kernel_rfl
  have kb : Tryz.prog.bytesOf 56 = 48 := by kernel_rfl
  rcases DataW.trod_slice Tryz.underlying34 hf with ⟨hcs, hx⟩ | ⟨a, len, cap, elems, rest, n, _, hcs, hx, _, hl, hm, hel, hcells, _, _⟩
  · simp only [List.cons.injEq, and_true] at hcs
    exact ⟨none, 0, 0, [], hcs, conds_nil w none, (fun _ => rfl), Nat.le_refl _, (fun e h => nomatch h)⟩
  · simp only [List.cons.injEq, and_true] at hcs
    subst hx
    simp only [DataW.weights, Tryz.underlying34, List.all_cons, List.all_append, Bool.and_eq_true, decide_eq_true_eq, List.length_map, kb] at hsz
    obtain ⟨hreach, hwe, _⟩ := hsz
    have hn : len ≤ 17592186044416 := by unfold reachBytes at hreach; omega
    rw [k0] at hcells
    have hplain : 0 < len → a.spot = none := fun h0 => by
      have h := hcells 0 h0
      rw [List.getElem?_eq_getElem (by omega)] at h
      obtain ⟨cs, hc, _⟩ := Option.bind_eq_some_iff.1 h
      obtain ⟨_, hcl, hcc⟩ := World.cells?_some hc
      have h1 := hcc 0 (by omega)
      rw [List.getElem?_eq_getElem (by omega)] at h1
      simpa [Addr.add] using World.cell?_spot h1
    rcases Nat.eq_zero_or_pos len with h0 | h0
    · subst h0
      exact ⟨some a, 0, cap, [], hcs, conds_nil w _, (fun h => nomatch h), Nat.zero_le _, (fun e h => nomatch h)⟩
    · obtain ⟨b, off, spot⟩ := a
      have hs := hplain h0
      have hs : spot = none := hs
      subst hs
      have hblk : b < w.heap.size := by
        have h := hcells 0 h0
        rw [List.getElem?_eq_getElem (by omega)] at h
        obtain ⟨cs, hc, _⟩ := Option.bind_eq_some_iff.1 h
        exact World.cells?_block hc (by omega)
      obtain ⟨els, hle, hP⟩ := list_of (P := fun i (e : CEl) => CellsOf w b (off + i * 4) e ∧ IntsAt w e.A e.n e.xs ∧ CapOf e.A e.n e.c) len fun i hi => by
        have h := hcells i hi
        have hi' : i < elems.length := by omega
        rw [List.getElem?_eq_getElem hi'] at h
        obtain ⟨cs, hc, ht⟩ := Option.bind_eq_some_iff.1 h
        obtain ⟨_, hcl, hcc⟩ := World.cells?_some hc
        obtain ⟨e, rfl, hI, hCo⟩ := cond_coreC (fun x hx => hlt x (List.mem_append_right _ (List.mem_flatMap.2 ⟨elems[i], List.mem_append_left _ (List.getElem_mem hi'), hx⟩)))
          (weights_mem (List.mem_map.2 ⟨elems[i], List.getElem_mem hi', rfl⟩) hwe) ht
        have ha : ∀ k : Nat, ((⟨b, off, none⟩ : Addr).add (i * 4)).add k = ⟨b, off + i * 4 + k, none⟩ := fun k => by rw [add_plain, add_plain]
        refine ⟨e, ⟨?_, ?_, ?_, ?_⟩, hI, hCo⟩
        · have := hcc 0 (by omega); rw [ha] at this; exact this
        · have := hcc 1 (by omega); rw [ha] at this; exact this
        · have := hcc 2 (by omega); rw [ha] at this; exact this
        · have := hcc 3 (by omega); rw [ha] at this; exact this
      have hall : ∀ e ∈ els, IntsAt w e.A e.n e.xs ∧ CapOf e.A e.n e.c := fun e he => by
        obtain ⟨j, hj, rfl⟩ := List.getElem_of_mem he
        exact (hP j _ (List.getElem?_eq_getElem hj)).2
      exact ⟨some ⟨b, off, none⟩, len, cap, els, hcs, ⟨hle, hn, fun _ => ⟨b, off, rfl, hblk, fun j e he => (hP j e he).1⟩, fun e he => (hall e he).1⟩, (fun h => nomatch h), hl, fun e he => (hall e he).2⟩
theorem pieces_coreC {fuel : Nat} {v : Value} {y : DataW H × List MemPlace} (hlt : ∀ x ∈ y.2, x.block < w.heap.size) (hsz : (y.1.weights Tryz.prog 22).all (· ≤ reachBytes) = true)
    (hf : DataW.trod enc Tryz.prog w 0 (fun _ => true) true fuel 22 [v] = some y) : ∃ A n c ps, v = .slice A n c ∧ PiecesAt w A n ps ∧ (A = none → c = 0) ∧ ∀ p ∈ ps, PieceC p := by
  have k0 : Tryz.prog.cellsOf 34 = 1 := by kernel_rfl
  have kb : Tryz.prog.bytesOf 34 = 24 := by kernel_rfl
  rcases DataW.trod_slice Tryz.underlying22 hf with ⟨hcs, hx⟩ | ⟨a, len, cap, elems, rest, n, _, hcs, hx, _, hl, hm, hel, hcells, _, _⟩
  · simp only [List.cons.injEq, and_true] at hcs
    exact ⟨none, 0, 0, [], hcs, ⟨rfl, by omega, fun h => absurd h (by omega), (fun p h => nomatch h)⟩, (fun _ => rfl), (fun p h => nomatch h)⟩
  · simp only [List.cons.injEq, and_true] at hcs
    subst hx
    simp only [DataW.weights, Tryz.underlying22, List.all_cons, List.all_append, Bool.and_eq_true, decide_eq_true_eq, List.length_map, kb] at hsz
    obtain ⟨hreach, hwe, _⟩ := hsz
    have hn : len ≤ 17592186044416 := by unfold reachBytes at hreach; omega
    rw [k0] at hcells
    rcases Nat.eq_zero_or_pos len with h0 | h0
    · subst h0
      exact ⟨some a, 0, cap, [], hcs, ⟨rfl, by omega, fun h => absurd h (by omega), (fun p h => nomatch h)⟩, (fun h => nomatch h), (fun p h => nomatch h)⟩
    · obtain ⟨b, off, spot⟩ := a
      obtain ⟨hs, hblk⟩ : spot = none ∧ b < w.heap.size := by
        have h := hcells 0 h0
        rw [List.getElem?_eq_getElem (by omega)] at h
        obtain ⟨cs, hc, _⟩ := Option.bind_eq_some_iff.1 h
        obtain ⟨_, hcl, hcc⟩ := World.cells?_some hc
        have h1 := hcc 0 (by omega)
        rw [List.getElem?_eq_getElem (by omega)] at h1
        exact ⟨by simpa [Addr.add] using World.cell?_spot h1, World.cells?_block hc (by omega)⟩
      subst hs
      obtain ⟨ps, hle, hP⟩ := list_of (P := fun i (p : PEl) => w.cell? ⟨b, off + i, none⟩ = some (.slice p.A p.n p.c) ∧ CondsAt w p.A p.n p.els ∧ PieceC p) len fun i hi => by
        have h := hcells i hi
        have hi' : i < elems.length := by omega
        rw [List.getElem?_eq_getElem hi'] at h
        obtain ⟨cs, hc, ht⟩ := Option.bind_eq_some_iff.1 h
        obtain ⟨_, hcl, hcc⟩ := World.cells?_some hc
        match cs, hcl with
        | [v1], _ =>
          obtain ⟨A, m, c, els, rfl, hC, hCn, hCl, hCe⟩ := conds_coreC (fun x hx => hlt x (List.mem_append_right _ (List.mem_flatMap.2 ⟨elems[i], List.mem_append_left _ (List.getElem_mem hi'), hx⟩)))
            (weights_mem (List.mem_map.2 ⟨elems[i], List.getElem_mem hi', rfl⟩) hwe) ht
          refine ⟨⟨A, m, c, els⟩, ?_, hC, hCn, hCl, hCe⟩
          have := hcc 0 (by omega)
          rw [add_plain, add_plain, Nat.mul_one, Nat.add_zero] at this
          exact this
      have hall : ∀ p ∈ ps, CondsAt w p.A p.n p.els ∧ PieceC p := fun p hp => by
        obtain ⟨j, hj, rfl⟩ := List.getElem_of_mem hp
        exact (hP j _ (List.getElem?_eq_getElem hj)).2
      exact ⟨some ⟨b, off, none⟩, len, cap, ps, hcs, ⟨hle, hn, fun _ => ⟨b, off, rfl, hblk, fun j p hp => (hP j p hp).1⟩, fun p hp => (hall p hp).1⟩, (fun h => nomatch h), fun p hp => (hall p hp).2⟩
theorem set_ofC {r : Reach} {b0 : Nat} {v : Value} {d : DataW H} {p : List MemPlace}
    (hok : Value.okWide Tryz.prog w r b0 24 v) (hlt : ∀ x ∈ p, x.block < w.heap.size) (hsz : (d.weights Tryz.prog 24).all (· ≤ reachBytes) = true)
    (h : DataW.Trod enc Tryz.prog w 0 (fun _ => true) true 24 v d p) : ∃ D A n c ps, v = .agg #[.int .i64 D, .slice A n c] ∧ PiecesAt w A n ps ∧ ((A = none → c = 0) ∧ ∀ p ∈ ps, PieceC p) ∧ (-9223372036854775808 ≤ D ∧ D ≤ 9223372036854775807) := by
  obtain ⟨v0, v1, y0, y1, n, rfl, rfl, rfl, h0, h1⟩ := open_agg2 Tryz.underlying24 (by kernel_rfl) (by kernel_rfl) hok h
  simp only [DataW.weights, Tryz.underlying24, DataW.weightsEach, List.map_cons, List.all_append, Bool.and_eq_true] at hsz
  obtain ⟨D, hv, hD⟩ := DataW.trod_int Tryz.underlying3 h0
  obtain ⟨A, m, c, ps, rfl, hP, hN, hC⟩ := pieces_coreC (fun x hx => hlt x (List.mem_append_right _ hx)) (by simpa using hsz.2.1) h1
  simp only [List.cons.injEq, and_true] at hv
  subst hv
  exact ⟨D, A, m, c, ps, rfl, hP, ⟨hN, hC⟩, bounds_i64 hD.2⟩
end
end Go.Proofs.YtkgnlloioaobiaaGreat
namespace Go.Proofs.YtkgnlloioaobiaaGreat
open Go.ChangeShapes Go.WideShapes Go.ChangeAt Go.RowKit
section
variable {N : Nat} {W W' : World} {A : Option Addr} {n : Nat} {xs : List Int} {row : Option Nat} {p : PEl}
def PcRow (N : Nat) (W : World) (row : Option Nat) : Prop := ∀ r, row = some r → N ≤ r ∧ ∃ cur t fr, W.heap[r]? = some (.cells cur t fr) ∧ t ≠ 3 ∧ t ≠ 56
theorem PcRow.ne_int (h : PcRow N W row) {b : Nat} {cur : Array Value} {fz : Nat × Nat} (hc : W.heap[b]? = some (.cells cur 3 fz)) : some b ≠ row := fun e => by
  obtain ⟨_, cur', t, fr, hr, h1, _⟩ := h b e.symm
  rw [hc] at hr
  cases hr
  exact h1 rfl
theorem PcRow.ne_cond (h : PcRow N W row) {b : Nat} {cur : Array Value} {fz : Nat × Nat} (hc : W.heap[b]? = some (.cells cur 56 fz)) : some b ≠ row := fun e => by
  obtain ⟨_, cur', t, fr, hr, _, h1⟩ := h b e.symm
  rw [hc] at hr
  cases hr
  exact h1 rfl
theorem PcRow.ne_low (h : PcRow N W row) {b : Nat} (hb : b < N) : some b ≠ row := fun e => by
  have := (h b e.symm).1
  omega
theorem RowAny.grownP (h : RowAny N W A n) (hg : W.grownBy W' row) (hr : PcRow N W row) : RowAny N W' A n :=
  h.imp id fun h => h.imp id fun ⟨b, a, hb, cur, hc, hn⟩ => ⟨b, a, hb, cur, (hg.block b (Array.getElem?_eq_some_iff.1 hc).1 (hr.ne_int hc)).trans hc, hn⟩
theorem IntsAt.grownP (h : IntsAt W A n xs) (ho : RowAny N W A n) (hg : W.grownBy W' row) (hr : PcRow N W row) : IntsAt W' A n xs := by
  refine ⟨h.len, h.small, h.wf, fun hn => ?_⟩
  obtain ⟨b, off, hA, hlt, hc⟩ := h.cells hn
  have hne : some b ≠ row := by
    rcases ho with ⟨b', off', hA', hb'⟩ | h0 | ⟨b', hA', _, cur, h1, _⟩
    · rw [hA] at hA'; cases hA'; exact hr.ne_low hb'
    · omega
    · rw [hA] at hA'; cases hA'; exact hr.ne_int h1
  exact ⟨b, off, hA, Nat.lt_of_lt_of_le hlt hg.size, fun j hj => by rw [← hc j hj]; exact World.cell?_of_block (hg.block b hlt hne)⟩
structure PieceAny (N : Nat) (w : World) (p : PEl) : Prop where
  conds : CondsAt w p.A p.n p.els
  row : 0 < p.n → ∃ b off, p.A = some ⟨b, off, none⟩ ∧ (b < N ∨ ∃ cur fr, w.heap[b]? = some (.cells cur 56 fr))
  rows : ∀ e ∈ p.els, RowAny N w e.A e.n
theorem PieceAny.step (h : PieceAny N W p) (hb : Below W.heap.size W W') : PieceAny N W' p :=
  ⟨h.conds.step hb, fun h0 => let ⟨b, off, hA, hx⟩ := h.row h0; ⟨b, off, hA, hx.imp id fun ⟨cur, fr, hc⟩ => ⟨cur, fr, (hb.block b (Array.getElem?_eq_some_iff.1 hc).1).trans hc⟩⟩, fun e he => (h.rows e he).step hb⟩
theorem PieceAny.of_conds (h : CondsAt W p.A p.n p.els) (hN : W.heap.size ≤ N) : PieceAny N W p :=
  ⟨h, fun h0 => let ⟨b, off, hA, hlt, _⟩ := h.cells h0; ⟨b, off, hA, .inl (Nat.lt_of_lt_of_le hlt hN)⟩, fun e he => .of_ints (h.ints e he) hN⟩
theorem PieceAny.of_cl3 {N' k c : Nat} {els : List CEl} (h : CL3 N' W (.slice A k c) els) (hr : ∀ e ∈ els, RowAny N W e.A e.n) : PieceAny N W ⟨A, k, c, els⟩ := by
  have hc := h.conds
  refine ⟨by rw [← hc.1] at hc; exact hc.2, fun h0 => ?_, hr⟩
  rcases h.own.2 with ⟨hv, h1⟩ | ⟨g, cap, cur, hv, hg, hcc, _⟩
  · exact absurd h0 (by show ¬ 0 < k; rw [hc.1]; omega)
  · cases hv
    exact ⟨g, 0, rfl, .inr ⟨cur, _, hcc⟩⟩
theorem PieceAny.mono {N' : Nat} (h : PieceAny N W p) (hN : N ≤ N') : PieceAny N' W p :=
  ⟨h.conds, fun h0 => let ⟨b, off, hA, hx⟩ := h.row h0; ⟨b, off, hA, hx.imp (fun h => Nat.lt_of_lt_of_le h hN) id⟩, fun e he => (h.rows e he).mono hN⟩
theorem PieceAny.grown (h : PieceAny N W p) (hg : W.grownBy W' row) (hr : PcRow N W row) : PieceAny N W' p := by
  have hne : 0 < p.n → ∀ b off, p.A = some ⟨b, off, none⟩ → some b ≠ row := fun h0 b off hA => by
    obtain ⟨b', off', hA', hx⟩ := h.row h0
    rw [hA] at hA'
    cases hA'
    rcases hx with hx | ⟨cur, fr, hx⟩
    · exact hr.ne_low hx
    · exact hr.ne_cond hx
  refine ⟨⟨h.conds.len, h.conds.small, fun h0 => ?_, fun e he => (h.conds.ints e he).grownP (h.rows e he) hg hr⟩, fun h0 => ?_, fun e he => (h.rows e he).grownP hg hr⟩
  · obtain ⟨b, off, hA, hlt, hc⟩ := h.conds.cells h0
    have hbk := hg.block b hlt (hne h0 b off hA)
    refine ⟨b, off, hA, Nat.lt_of_lt_of_le hlt hg.size, fun j e he => ?_⟩
    obtain ⟨a0, a1, a2, a3⟩ := hc j e he
    exact ⟨(World.cell?_of_block hbk).trans a0, (World.cell?_of_block hbk).trans a1, (World.cell?_of_block hbk).trans a2, (World.cell?_of_block hbk).trans a3⟩
  · obtain ⟨b, off, hA, hx⟩ := h.row h0
    refine ⟨b, off, hA, hx.imp id fun ⟨cur, fr, hc⟩ => ⟨cur, fr, (hg.block b (Array.getElem?_eq_some_iff.1 hc).1 (hr.ne_cond hc)).trans hc⟩⟩
theorem PieceAny.put {b : Nat} {cs : Array Value} {fz : Nat × Nat} (h : PieceAny N W p) (hb : N ≤ b) (hc : W.heap[b]? = some (.cells cs 24 fz)) (x y : Value) : PieceAny N ((W.setCell ⟨b, 0, none⟩ x).setCell ⟨b, 1, none⟩ y) p := by
  have hg : W.grownBy ((W.setCell ⟨b, 0, none⟩ x).setCell ⟨b, 1, none⟩ y) (some b) :=
    ⟨rfl, rfl, rfl, by simp [World.setCell], fun k _ hk => (Below.heap_setCell _ _ _ k (fun e => hk (by rw [e]))).trans (Below.heap_setCell _ _ _ k (fun e => hk (by rw [e])))⟩
  exact h.grown hg fun r e => by cases e; exact ⟨hb, _, _, _, hc, by decide, by decide⟩
end
structure PL3 (N : Nat) (w : World) (u : Value) (ps : List PEl) : Prop where
  own : w.ownsRow N 34 1 u ps.length (ps.map PEl.v)
  few : ps.length ≤ 4000000000
  ok : ∀ p ∈ ps, PieceAny N w p
section
variable {N : Nat} {w w' : World} {u : Value} {ps : List PEl}
theorem PL3.nil (N : Nat) (w : World) : PL3 N w (.slice none 0 0) [] := ⟨World.ownsRow_nil _ _ _ _, by simp, (fun p h => nomatch h)⟩
theorem PL3.step (h : PL3 N w u ps) (hb : Below w.heap.size w w') : PL3 N w' u ps := ⟨own_step h.own hb, h.few, fun p hp => (h.ok p hp).step hb⟩
theorem PL3.slice (h : PL3 N w u ps) : ∃ A c, u = .slice A ps.length c := by
  rcases h.own.2 with ⟨rfl, h0⟩ | ⟨g, cap, cur, rfl, _⟩
  · rw [h0]; exact ⟨none, 0, rfl⟩
  · exact ⟨_, _, rfl⟩
theorem PL3.pieces (h : PL3 N w u ps) : ∃ A c, u = .slice A ps.length c ∧ PiecesAt w A ps.length ps ∧ (0 < ps.length → ∃ g o, A = some ⟨g, o, none⟩ ∧ N ≤ g) := by
  have hc : ∀ p ∈ ps, CondsAt w p.A p.n p.els := fun p hp => (h.ok p hp).conds
  have hf := h.few
  rcases h.own.2 with ⟨rfl, h0⟩ | ⟨g, cap, cur, rfl, hg, hcc, rest⟩
  · rw [h0]
    exact ⟨none, 0, rfl, ⟨by rw [h0], by omega, fun h' => absurd h' (by omega), hc⟩, fun h' => absurd h' (by omega)⟩
  · refine ⟨_, _, rfl, ⟨rfl, by omega, fun h' => ⟨g, 0, rfl, (Array.getElem?_eq_some_iff.1 hcc).1, fun j p hp => ?_⟩, hc⟩, fun _ => ⟨g, 0, rfl, hg⟩⟩
    have hj : j < ps.length := (List.getElem?_eq_some_iff.1 hp).1
    rw [Nat.zero_add, cell_of_row w g j _ _ (0, 0) hcc]
    have h5 := congrArg (·[j]?) rest.2.2.2
    simp only [List.getElem?_take, List.getElem?_map, hp, Option.map_some] at h5
    rw [if_pos (by omega)] at h5
    simpa [PEl.v] using h5
theorem PL3.typed (h : PL3 N w u ps) : PcRow N w u.ownBlock := fun r e => by
  rcases h.own.2 with ⟨hv, _⟩ | ⟨g, cap, cur, hv, hgN, hc, _⟩
  · rw [hv] at e; cases e
  · rw [hv] at e; cases e; exact ⟨hgN, cur, _, _, hc, by decide, by decide⟩
theorem pl3_empty {g : Nat} (hN : N ≤ g) (hg : w.heap[g]? = some (.cells #[] 34 (0, 0))) : PL3 N w (.slice (some ⟨g, 0, none⟩) 0 0) [] :=
  ⟨⟨rfl, .inr ⟨g, 0, #[], rfl, hN, hg, by simp, by decide, by simp, by simp⟩⟩, by simp, (fun e h => nomatch h)⟩
theorem pieces_of_one {g : Nat} {p : PEl} (hg : w.heap[g]? = some (.cells #[p.v] 34 (0, 0))) (hp : CondsAt w p.A p.n p.els) : PiecesAt w (some ⟨g, 0, none⟩) 1 [p] := by
  refine ⟨rfl, by omega, fun _ => ⟨g, 0, rfl, (Array.getElem?_eq_some_iff.1 hg).1, fun j q hq => ?_⟩, fun q hq => by rw [List.mem_singleton.1 hq]; exact hp⟩
  match j, hq with
  | 0, hq =>
    cases hq
    rw [cell_of_row w g _ _ _ (0, 0) hg]; rfl
  | j + 1, hq => simp at hq
theorem pv_one : ∀ l : List PEl, ∀ u ∈ l.map PEl.v, u.oneCell' = true := fun l u hu => by
  obtain ⟨p, _, rfl⟩ := List.mem_map.1 hu
  rfl
end
section
variable {ops : Array Oper} {o : Oper} {a : Act} {w : World} {Q : Exit → Act → World → Prop}
theorem wpList_append_pieces {rest : List Oper} (hgd : o.guard = none) (s x : Operand) (t : TypeId) (ho : o.op = .call { callee := .builtin .append, args := #[s, x], argTypes := #[t, t] }) (ht : Tryz.prog.underlying t = some (.slice 34))
    {N : Nat} {u : Value} {ps : List PEl} (hs : a.eval s = u) (hL : PL3 N w u ps) {A : Option Addr} {n c : Nat} {new : List PEl} (hx : a.eval x = .slice A n c) (hC : PiecesAt w A n new) (hnil : A = none → c = 0) (hro : ∀ p ∈ new, PieceAny N w p) (hm : ps.length + n ≤ 4000000000) (hN : N ≤ w.heap.size)
    (h : ∀ u' w', PL3 N w' u' (ps ++ new) → Below N w w' → wpList Tryz.prog ops Q rest (a.put o.dst u') w') : wpList Tryz.prog ops Q (o :: rest) a w := by
  obtain ⟨i0, hi0, hz, hz1, hz2⟩ := info_parts infoPc
  have hl := hC.len
  cases A with
  | none =>
    have hn : n = 0 := by
      rcases Nat.eq_zero_or_pos n with h0 | h0
      · exact h0
      · obtain ⟨b, off, hA, _⟩ := hC.cells h0
        cases hA
    subst hn
    obtain rfl := hnil rfl
    obtain rfl : new = [] := List.length_eq_zero_iff.1 hl
    exact wpList_append_own_none hgd s x t ho N 34 i0 1 ht hi0 u ps.length (ps.map PEl.v) hs hL.own hx (h u w (by rw [List.append_nil]; exact hL) (Below.refl _ _))
  | some ad =>
    have hat : ∀ (j : Nat) (v : Value), (new.map PEl.v)[j]? = some v → w.cell? (ad.add j) = some v := fun j v hv => by
      rcases Nat.eq_zero_or_pos n with h0 | h0
      · rw [List.length_eq_zero_iff.1 (hl.trans h0)] at hv
        simp at hv
      · obtain ⟨b, off, hA, _, hc⟩ := hC.cells h0
        cases hA
        rw [add_plain]
        rw [List.getElem?_map] at hv
        obtain ⟨p, hp, rfl⟩ := Option.map_eq_some_iff.1 hv
        exact hc j p hp
    refine wpList_append_own _ hgd s x t ho N 34 i0 (.slice none 0 0) 1 24 ht hi0 hz hz1 hz2 rfl (by decide) u ps.length (ps.map PEl.v) hs hL.own ad n c (new.map PEl.v) hx (by rw [List.length_map, hl, Nat.mul_one]) hat (pv_one new) (by unfold maxLen; omega) (by omega) hN ?_
    intro v' w' hown hgr _
    refine h v' w' ⟨by rw [List.length_append, List.map_append, hl]; exact hown, by rw [List.length_append]; omega, fun p hp => ?_⟩ ((Below.refl N w).grown hgr hN fun k e => (hL.typed k e).1)
    rcases List.mem_append.1 hp with hp | hp
    · exact (hL.ok p hp).grown hgr hL.typed
    · exact (hro p hp).grown hgr hL.typed
end
section
variable {ops : Array Oper} {o : Oper} {a : Act} {w : World} {Q : Exit → Act → World → Prop}
theorem append_pieces (t : TypeId) (ty : TypeId) (ht : Tryz.prog.underlying t = some (.slice 34)) {N : Nat} {u : Value} {ps : List PEl} (hL : PL3 N w u ps) {A : Option Addr} {n c : Nat} {new : List PEl} (hC : PiecesAt w A n new) (hnil : A = none → c = 0) (hro : ∀ p ∈ new, PieceAny N w p) (hm : ps.length + n ≤ 4000000000) (hN : N ≤ w.heap.size) :
    ∃ u' w', (Builtin.append_ #[t, t] ty #[u, .slice A n c]).run Tryz.prog w = .ok u' w' ∧ PL3 N w' u' (ps ++ new) ∧ Below N w w' := by
  obtain ⟨i0, hi0, hz, hz1, hz2⟩ := info_parts infoPc
  have hl := hC.len
  cases A with
  | none =>
    have hn : n = 0 := by
      rcases Nat.eq_zero_or_pos n with h0 | h0
      · exact h0
      · obtain ⟨b, off, hA, _⟩ := hC.cells h0
        cases hA
    subst hn
    obtain rfl := hnil rfl
    obtain rfl : new = [] := List.length_eq_zero_iff.1 hl
    exact ⟨u, w, run_append_owned_none (P := Tryz.prog) (w := w) N t ty 34 i0 1 ht hi0 u ps.length (ps.map PEl.v) hL.own, by rw [List.append_nil]; exact hL, Below.refl _ _⟩
  | some ad =>
    have hat : ∀ (j : Nat) (v : Value), (new.map PEl.v)[j]? = some v → w.cell? (ad.add j) = some v := fun j v hv => by
      rcases Nat.eq_zero_or_pos n with h0 | h0
      · rw [List.length_eq_zero_iff.1 (hl.trans h0)] at hv
        simp at hv
      · obtain ⟨b, off, hA, _, hc⟩ := hC.cells h0
        cases hA
        rw [add_plain]
        rw [List.getElem?_map] at hv
        obtain ⟨p, hp, rfl⟩ := Option.map_eq_some_iff.1 hv
        exact hc j p hp
    obtain ⟨v', w', hr, hown, hgr, _, _⟩ := run_append_own_at (P := Tryz.prog) w N t ty 34 i0 (.slice none 0 0) 1 24 ht hi0 hz hz1 hz2 rfl (by decide) u ps.length (ps.map PEl.v) hL.own ad n c (new.map PEl.v) (by rw [List.length_map, hl, Nat.mul_one]) hat (pv_one new) (by unfold maxLen; omega) (by omega) hN
    refine ⟨v', w', hr, ⟨by rw [List.length_append, List.map_append, hl]; exact hown, by rw [List.length_append]; omega, fun p hp => ?_⟩, (Below.refl N w).grown hgr hN fun k e => (hL.typed k e).1⟩
    rcases List.mem_append.1 hp with hp | hp
    · exact (hL.ok p hp).grown hgr hL.typed
    · exact (hro p hp).grown hgr hL.typed
theorem step_append_pieces {K : Act → World → Prop} {E : Prop} (hgd : o.guard = none) (s x : Operand) (t : TypeId) (ho : o.op = .call { callee := .builtin .append, args := #[s, x], argTypes := #[t, t] }) (ht : Tryz.prog.underlying t = some (.slice 34))
    {N : Nat} {u : Value} {ps : List PEl} (hs : a.eval s = u) (hL : PL3 N w u ps) {A : Option Addr} {n c : Nat} {new : List PEl} (hx : a.eval x = .slice A n c) (hC : PiecesAt w A n new) (hnil : A = none → c = 0) (hro : ∀ p ∈ new, PieceAny N w p) (hm : ps.length + n ≤ 4000000000) (hN : N ≤ w.heap.size)
    (h : ∀ u' w', PL3 N w' u' (ps ++ new) → Below N w w' → K (a.put o.dst u') w') : if Region.wanted o (yielded ops a.tmps) = true then Oper.wp Tryz.prog o a w K Q else E := by
  have hw : Region.wanted o (yielded ops a.tmps) = true := by simp [Region.wanted, hgd]
  rw [if_pos hw]
  obtain ⟨u', w', h1, h2, h3⟩ := append_pieces t o.type ht hL hC hnil hro hm hN
  unfold Oper.wp
  rw [exec_append ho hs hx h1, Oper.upon_value]
  exact h u' w' h2 h3
end
structure PM (N g m : Nat) (w : World) (qs : List PEl) : Prop where
  row : w.heap[g]? = some (.cells (qs.map PEl.v ++ List.replicate (m - qs.length) (Value.slice none 0 0)).toArray 34 (0, 0))
  le : qs.length ≤ m
  far : N ≤ g
  ok : ∀ p ∈ qs, PieceAny N w p
section
variable {N g m : Nat} {w w' : World} {qs : List PEl}
theorem PM.lt (h : PM N g m w qs) : g < w.heap.size := (Array.getElem?_eq_some_iff.1 h.row).1
theorem PM.step (h : PM N g m w qs) (hb : Below w.heap.size w w') : PM N g m w' qs := ⟨(hb.block g h.lt).trans h.row, h.le, h.far, fun p hp => (h.ok p hp).step hb⟩
theorem PM.f (h : PM N g m w qs) (j : Nat) : w.frozen? ⟨g, j, none⟩ = false := by simp [World.frozen?, h.row]
theorem PM.put (h : PM N g m w qs) (hl : qs.length < m) {p : PEl} (hp : PieceAny N w p) : PM N g m (w.setCell ⟨g, qs.length, none⟩ p.v) (qs ++ [p]) := by
  have hgr : w.grownBy (w.setCell ⟨g, qs.length, none⟩ p.v) (some g) := ⟨rfl, rfl, rfl, by simp [World.setCell], fun k _ hk => Below.heap_setCell _ _ _ k (fun e => hk (by rw [e]))⟩
  have hty : PcRow N w (some g) := fun r e => by cases e; exact ⟨h.far, _, _, _, h.row, by decide, by decide⟩
  refine ⟨?_, by rw [List.length_append, List.length_singleton]; omega, h.far, fun q hq => ?_⟩
  · simp only [World.setCell]
    rw [Array.getElem?_modify, if_pos rfl, h.row]
    simp only [Option.map_some, Obj.cells.injEq, Option.some.injEq, and_true]
    rw [List.map_append, List.length_append, List.length_singleton, List.map_singleton]
    obtain ⟨k, hk⟩ : ∃ k, m - qs.length = k + 1 := ⟨m - qs.length - 1, by omega⟩
    rw [hk, show m - (qs.length + 1) = k by omega, List.replicate_succ]
    simp [List.set_append_right]
  · rcases List.mem_append.1 hq with hq | hq
    · exact (h.ok q hq).grown hgr hty
    · rw [List.mem_singleton.1 hq]; exact hp.grown hgr hty
theorem PM.pieces (h : PM N g m w qs) (hm : qs.length = m) (hs : m ≤ 17592186044416) : PiecesAt w (some ⟨g, 0, none⟩) m qs := by
  refine ⟨hm, hs, fun _ => ⟨g, 0, rfl, h.lt, fun j p hp => ?_⟩, fun p hp => (h.ok p hp).conds⟩
  have hj := (List.getElem?_eq_some_iff.1 hp).1
  rw [Nat.zero_add, cell_of_row w g j _ _ (0, 0) h.row, List.getElem?_toArray, List.getElem?_append_left (by simpa using hj), List.getElem?_map, hp]
  rfl
end
end Go.Proofs.YtkgnlloioaobiaaGreat
namespace Go.Proofs.YtkgnlloioaobiaaGreat
open Go.RowKit
def RowsApart (u v : Value) : Prop := ∀ g, u.ownBlock = some g → v.ownBlock = some g → False
theorem RowsApart.symm {u v : Value} (h : RowsApart u v) : RowsApart v u := fun g h1 h2 => h g h2 h1
theorem RowsApart.nil (v : Value) : RowsApart (.slice none 0 0) v := fun g h _ => by simp [Value.ownBlock] at h
theorem CL2.lt {N0 N : Nat} {W : World} {u : Value} {els : List CEl} (h : CL2 N0 N W u els) {g : Nat} (hg : u.ownBlock = some g) : g < W.heap.size := by
  rcases h.own.2 with ⟨hv, _⟩ | ⟨gl, cap, cur, hv, _, hc, _⟩
  · rw [hv] at hg; simp [Value.ownBlock] at hg
  · rw [hv] at hg
    simp only [Value.ownBlock, Option.some.injEq] at hg
    subst hg
    exact (Array.getElem?_eq_some_iff.1 hc).1
theorem CL2.typed {N0 N : Nat} {W : World} {u : Value} {els : List CEl} (h : CL2 N0 N W u els) : ∀ r, u.ownBlock = some r → ∃ cur fr, W.heap[r]? = some (.cells cur 56 fr) := fun r e => by
  rcases h.own.2 with ⟨hv, _⟩ | ⟨gl, cap', cur', hv, hgN, hgl, _⟩
  · rw [hv] at e; cases e
  · rw [hv] at e
    simp only [Value.ownBlock, Option.some.injEq] at e
    subst e
    exact ⟨cur', _, hgl⟩
theorem CL2.others {N0 N N1 N2 : Nat} {W W' : World} {u v : Value} {els els' : List CEl} (h : CL2 N0 N W v els) (hu : CL2 N1 N2 W u els') (hg : W.grownBy W' u.ownBlock) (hne : RowsApart u v) : CL2 N0 N W' v els := by
  refine ⟨⟨h.own.1, ?_⟩, h.few, fun e he => (h.ints e he).grown (h.rows e he) hg hu.typed, fun e he => (h.rows e he).grown hg hu.typed⟩
  rcases h.own.2 with h0 | ⟨g, cap, cur, hv, hgN, hc, rest⟩
  · exact .inl h0
  · refine .inr ⟨g, cap, cur, hv, hgN, (hg.block g (Array.getElem?_eq_some_iff.1 hc).1 fun e => ?_).trans hc, rest⟩
    exact hne g e.symm (by rw [hv]; rfl)
theorem RowsApart.grown {N0 N : Nat} {W : World} {u v u' : Value} {els : List CEl} (h : RowsApart u v) (hv : CL2 N0 N W v els) {g : Nat} (hu : u'.ownBlock = some g) (hg : u.ownBlock = some g ∨ g = W.heap.size) : RowsApart u' v := fun k h1 h2 => by
  rw [hu] at h1
  cases h1
  rcases hg with hg | rfl
  · exact h g hg h2
  · exact absurd (hv.lt h2) (Nat.lt_irrefl _)
theorem append_conds3 {N0 N : Nat} {w : World} {u : Value} {els : List CEl} (h : CL2 N0 N w u els) (g : Nat) (new : List CEl) (hg : w.heap[g]? = some (.cells (ccells new).toArray 56 (0, 0))) (hi : ∀ e ∈ new, IntsAt w e.A e.n e.xs) (hro : ∀ e ∈ new, RowOk N0 w e.A e.n) (hm : els.length + new.length ≤ 100000) (h0 : 0 < new.length) (hN : N ≤ w.heap.size) (ty : TypeId) (t : TypeId) (ht : Tryz.prog.underlying t = some (.slice 56)) :
    ∃ g' cap w', (Builtin.append_ #[t, t] ty #[u, .slice (some ⟨g, 0, none⟩) new.length new.length]).run Tryz.prog w = .ok (.slice (some ⟨g', 0, none⟩) (els.length + new.length) cap) w' ∧ CL2 N0 N w' (.slice (some ⟨g', 0, none⟩) (els.length + new.length) cap) (els ++ new) ∧ w.grownBy w' u.ownBlock ∧ Below N w w' ∧ (u.ownBlock = some g' ∨ g' = w.heap.size) := by
  obtain ⟨i0, hi0, hz, hz1, hz2⟩ := info_parts infoCond
  obtain ⟨g', cap, w', hr, hown, hgr, hwh, _⟩ := run_append_lies (P := Tryz.prog) w t ty N 56 i0 (.agg #[.int .i64 0, .int .i64 0, .slice none 0 0, .int .i64 0]) 4 48 ht hi0 hz hz1 hz2 rfl (by decide) u els.length (ccells els) h.own ⟨g, 0, none⟩ new.length new.length (ccells new) (ccells_len new)
    (fun j v hv => World.news_of_block hg j v (by simpa using hv))
    (fun v hv => by
      clear hg hi hro hm h0
      induction new with
      | nil => simp [ccells] at hv
      | cons e l ih =>
        simp only [ccells, CEl.cells, List.cons_append, List.nil_append, List.mem_cons] at hv
        rcases hv with rfl | rfl | rfl | rfl | hv
        · rfl
        · rfl
        · rfl
        · rfl
        · exact ih hv) h0 (by unfold maxLen; omega) (by omega) hN _ rfl
  have hb : Below N w w' := (Below.refl N w).grown hgr hN fun k e => (h.own.lt k e).1
  refine ⟨g', cap, w', hr, ⟨by rw [List.length_append, ccells_app]; exact hown, by rw [List.length_append]; exact hm, fun e he => ?_, fun e he => ?_⟩, hgr, hb, hwh⟩
  · rcases List.mem_append.1 he with he | he
    · exact (h.ints e he).grown (h.rows e he) hgr h.typed
    · exact (hi e he).grown (hro e he) hgr h.typed
  · rcases List.mem_append.1 he with he | he
    · exact (h.rows e he).grown hgr h.typed
    · exact (hro e he).grown hgr h.typed
section
variable {ops : Array Oper} {o : Oper} {a : Act} {w : World} {Q : Exit → Act → World → Prop}
theorem wpList_append_cond3 {rest : List Oper} (hgd : o.guard = none) (s x : Operand) (t : TypeId) (ho : o.op = .call { callee := .builtin .append, args := #[s, x], argTypes := #[t, t] }) (ht : Tryz.prog.underlying t = some (.slice 56))
    {N0 N : Nat} {u : Value} {els : List CEl} (hs : a.eval s = u) (hL : CL2 N0 N w u els) (g : Nat) (e : CEl) (hx : a.eval x = .slice (some ⟨g, 0, none⟩) 1 1) (hg : w.heap[g]? = some (.cells e.cells.toArray 56 (0, 0))) (hi : IntsAt w e.A e.n e.xs) (hro : RowOk N0 w e.A e.n) (hm : els.length + 1 ≤ 100000) (hN : N ≤ w.heap.size)
    (h : ∀ g' cap w', CL2 N0 N w' (.slice (some ⟨g', 0, none⟩) (els.length + 1) cap) (els ++ [e]) → w.grownBy w' u.ownBlock → Below N w w' → (u.ownBlock = some g' ∨ g' = w.heap.size) → wpList Tryz.prog ops Q rest (a.put o.dst (.slice (some ⟨g', 0, none⟩) (els.length + 1) cap)) w') : wpList Tryz.prog ops Q (o :: rest) a w :=
  wpList_plain hgd fun _ hK => by
    obtain ⟨g', cap, w', h1, h2, h3, h4, h5⟩ := append_conds3 hL g [e] (by simpa [ccells] using hg) (fun e' he => by rw [List.mem_singleton.1 he]; exact hi) (fun e' he => by rw [List.mem_singleton.1 he]; exact hro) hm (by simp) hN o.type t ht
    unfold Oper.wp
    rw [exec_append ho hs hx h1, Oper.upon_value]
    exact hK _ _ (h g' cap w' h2 h3 h4 h5)
end
end Go.Proofs.YtkgnlloioaobiaaGreat
namespace Go.Proofs.YtkgnlloioaobiaaGreat
open Go.RowKit
structure NormE (n : Nat) (d : CD) : Prop where
  nd : NormD n d
  ge : d.q = 0 → gcdA 0 d.xs = 1
  eq : d.q = 1 → 0 < leadI d.xs
theorem lead_gcd : ∀ xs : List Int, leadI xs = 0 → gcdA 0 xs = 0
  | [], _ => rfl
  | x :: xs, h => by
    unfold leadI at h
    split at h
    · rename_i hx
      subst hx
      have ih := lead_gcd xs h
      unfold gcdA at ih ⊢
      simpa using ih
    · omega
theorem NormE.lead {n : Nat} {d : CD} (h : NormE n d) (hq : d.q = 0) : leadI d.xs ≠ 0 := fun h0 => by
  have := lead_gcd d.xs h0
  rw [h.ge hq] at this
  cases this
theorem open_norm {n : Nat} {d z : CD} (hk : KindOk d.q d.M) (hl : d.xs.length = n) (hz : z ∈ openD n d) (hn : NormD n z) : NormE n z := by
  suffices h : (z.q = 0 → gcdA 0 z.xs = 1) ∧ (z.q = 1 → 0 < leadI z.xs) from ⟨hn, h.1, h.2⟩
  unfold openD nfD at hz
  split at hz
  · rename_i hs
    rw [List.mem_singleton] at hz
    subst hz
    rcases nf_case (K := d.K) hl hk with ⟨s, hs'', h, hh⟩ | ⟨g, _, hg, h, h1, _⟩ | ⟨D, _, hD, h, h1, h2, _, _⟩ | ⟨h, hq, h0, hM, hne, e, _, _, _⟩
    · rw [h] at hs; exfalso; rcases hs'' with rfl | rfl <;> cases hs
    · rw [h]
      exact ⟨fun _ => h1, fun hq => (by cases hq)⟩
    · rw [h]
      refine ⟨fun hq => (by cases hq), fun _ => ?_⟩
      have h3 : ¬ leadI (quoL n d.xs D) < 0 := fun hlt => by
        unfold leadBy at h2
        rw [if_pos hlt] at h2
        omega
      have h4 : leadI (quoL n d.xs D) ≠ 0 := fun h0 => by
        have := lead_gcd _ h0
        rw [h1] at this
        cases this
      show 0 < leadI (quoL n d.xs D)
      omega
    · rw [e]
      exact ⟨fun hq' => (by cases hq'), fun hq' => (by cases hq')⟩
  · cases hz
def LeastOf (outs L : List CD) : Prop := (∀ a ∈ L, a ∈ outs ∧ a.q = 0) ∧ (∀ c ∈ outs, c.q = 0 → ∃ a ∈ L, a.xs = c.xs ∧ a.K ≤ c.K) ∧ ∀ (i j : Nat) (a b : CD), L[i]? = some a → L[j]? = some b → a.xs = b.xs → i = j
def VA (L : List CD) : Prop := ∃ d ∈ L, ∃ e ∈ L, e.xs = sgnL (-1) d.xs ∧ d.K + e.K < 0
def GoneP (L : List CD) (d : CD) : Prop := ∃ e ∈ L, e.xs = sgnL (-1) d.xs ∧ d.K + e.K = 0
def TightP (L : List CD) (t : CD) : Prop := ∃ d ∈ L, GoneP L d ∧ 0 < leadI d.xs ∧ t = ⟨1, 0, d.xs, d.K⟩
def EqP (outs L : List CD) (t : CD) : Prop := (t ∈ outs ∧ t.q = 1) ∨ TightP L t
def VB (E : CD → Prop) : Prop := ∃ a b, E a ∧ E b ∧ a.xs = b.xs ∧ a.K ≠ b.K
def MeetP (E : CD → Prop) (c e : CD) : Prop := E e ∧ e.xs = sgnL (signI c.xs) c.xs
def VC (E : CD → Prop) (L : List CD) : Prop := ∃ c ∈ L, ¬ GoneP L c ∧ ∃ e, MeetP E c e ∧ c.K - signI c.xs * e.K < 0
def RestP (E : CD → Prop) (L : List CD) (c : CD) : Prop := c ∈ L ∧ ¬ GoneP L c ∧ ¬ ∃ e, MeetP E c e
def OutP (outs L : List CD) (d : CD) : Prop := EqP outs L d ∨ RestP (EqP outs L) L d ∨ (d ∈ outs ∧ d.q = 2)
def VoidP (outs L : List CD) : Prop := VA L ∨ VB (EqP outs L) ∨ VC (EqP outs L) L
theorem least_sub {n : Nat} {outs L L' : List CD} (hn : ∀ d ∈ outs, NormD n d) (h : LeastOf outs L) (h' : LeastOf outs L') : ∀ d ∈ L, d ∈ L' := fun d hd => by
  obtain ⟨ho, hq⟩ := h.1 d hd
  obtain ⟨a, ha, hx, hK⟩ := h'.2.1 d ho hq
  obtain ⟨hao, haq⟩ := h'.1 a ha
  obtain ⟨b, hb, hbx, hbK⟩ := h.2.1 a hao haq
  obtain ⟨i, hi, e1⟩ := List.getElem_of_mem hd
  obtain ⟨j, hj, e2⟩ := List.getElem_of_mem hb
  have hij := h.2.2 i j d b (by rw [List.getElem?_eq_getElem hi, e1]) (by rw [List.getElem?_eq_getElem hj, e2]) (by rw [hbx, hx])
  subst hij
  rw [e1] at e2
  subst e2
  have : a = d := norm_nd (hn a hao) (hn d ho) (by rw [haq, hq]) (by omega) hx (by omega)
  rw [← this]; exact ha
theorem least_mem {n : Nat} {outs L L' : List CD} (hn : ∀ d ∈ outs, NormD n d) (h : LeastOf outs L) (h' : LeastOf outs L') (d : CD) : d ∈ L ↔ d ∈ L' := ⟨least_sub hn h h' d, least_sub hn h' h d⟩
theorem void_mem {outs L L' : List CD} (h : ∀ d, d ∈ L ↔ d ∈ L') : (VoidP outs L ↔ VoidP outs L') ∧ ∀ d, OutP outs L d ↔ OutP outs L' d := by
  have hg : ∀ d, GoneP L d ↔ GoneP L' d := fun d => by unfold GoneP; simp [h]
  have ht : ∀ d, TightP L d ↔ TightP L' d := fun d => by unfold TightP; simp [h, hg]
  have he : EqP outs L = EqP outs L' := by funext d; unfold EqP; rw [ht]
  refine ⟨?_, fun d => ?_⟩
  · unfold VoidP VA VC
    rw [he]
    simp [h, hg]
  · unfold OutP RestP
    rw [he]
    simp [h, hg]
theorem strict_eq {n : Nat} : ∀ (l l' : List CD), (∀ d ∈ l, NormD n d) → (∀ d ∈ l', NormD n d) → l.Pairwise (fun a b => ordL (keyD a) (keyD b) < 0) → l'.Pairwise (fun a b => ordL (keyD a) (keyD b) < 0) → (∀ d, d ∈ l ↔ d ∈ l') → l = l'
  | [], [], _, _, _, _, _ => rfl
  | [], b :: l', _, _, _, _, h => absurd ((h b).2 (List.mem_cons_self ..)) (by simp)
  | a :: l, [], _, _, _, _, h => absurd ((h a).1 (List.mem_cons_self ..)) (by simp)
  | a :: l, b :: l', hn, hn', hs, hs', h => by
    have ha := List.pairwise_cons.1 hs
    have hb := List.pairwise_cons.1 hs'
    have e : a = b := by
      rcases List.mem_cons.1 ((h a).1 (List.mem_cons_self ..)) with e | ha'
      · exact e
      · rcases List.mem_cons.1 ((h b).2 (List.mem_cons_self ..)) with e | hb'
        · exact e.symm
        · have h1 := ha.1 b hb'
          have h2 := hb.1 a ha'
          rw [lex_swap] at h2
          omega
    subst e
    rw [strict_eq l l' (fun d hd => hn d (List.mem_cons_of_mem _ hd)) (fun d hd => hn' d (List.mem_cons_of_mem _ hd)) ha.2 hb.2 fun d => ?_]
    constructor
    · intro hd
      rcases List.mem_cons.1 ((h d).1 (List.mem_cons_of_mem _ hd)) with rfl | h1
      · have := ha.1 d hd
        rw [(lex_zero _ _ rfl).2 rfl] at this
        omega
      · exact h1
    · intro hd
      rcases List.mem_cons.1 ((h d).2 (List.mem_cons_of_mem _ hd)) with rfl | h1
      · have := hb.1 d hd
        rw [(lex_zero _ _ rfl).2 rfl] at this
        omega
      · exact h1
section
variable {n : Nat} {outs p : List CD} (hm : ∀ d, d ∈ p ↔ d ∈ outs) (hs : Sorted p) (hn : ∀ d ∈ p, NormE n d)
include hm hs hn
theorem p_norm : ∀ d ∈ p, NormD n d := fun d hd => (hn d hd).nd
theorem kind_q : (∀ d, d ∈ kindEq p ↔ d ∈ p ∧ d.q = 1) ∧ (∀ d, d ∈ kindGe p ↔ d ∈ p ∧ d.q = 0) ∧ ∀ d, d ∈ kindDv p ↔ d ∈ p ∧ d.q = 2 := by
  have hall := kinds_split p
  have hrank : ∀ (l : List CD) (f : CD → Bool) (r : Int), l.Pairwise (fun a b => ordL (keyD a) (keyD b) ≤ 0) → (∀ d, f d = true ↔ rankI d.q = r) → (∀ d ∈ l, r ≤ rankI d.q) → ∀ d ∈ l.dropWhile f, r < rankI d.q := by
    intro l f r
    induction l with
    | nil => intro _ _ _ d hd; simp at hd
    | cons a l ih =>
      intro hs hf hr d hd
      rw [List.dropWhile_cons] at hd
      have hc := List.pairwise_cons.1 hs
      by_cases ha : f a = true
      · rw [if_pos ha] at hd
        exact ih hc.2 hf (fun d hd => hr d (List.mem_cons_of_mem _ hd)) d hd
      · rw [if_neg ha] at hd
        have h1 : r < rankI a.q := by
          have := hr a (List.mem_cons_self ..)
          rcases Int.lt_or_eq_of_le this with h | h
          · exact h
          · exact absurd ((hf a).2 h.symm) ha
        rcases List.mem_cons.1 hd with rfl | hd
        · exact h1
        · have h2 := hc.1 d hd
          unfold keyD at h2
          simp only [ordL] at h2
          split at h2
          · omega
          · split at h2
            · omega
            · omega
  have hq := fun d hd => (hn d hd).nd.q
  have r1 : ∀ d : CD, (d.q == 1) = true ↔ rankI d.q = 0 := fun d => by
    unfold rankI
    by_cases h : d.q = 1
    · simp [h]
    · rw [if_neg h]; split <;> simp [h]
  have r0 : ∀ d : CD, (d.q == 0) = true ↔ rankI d.q = 1 := fun d => by
    unfold rankI
    by_cases h : d.q = 1
    · simp [h]
    · rw [if_neg h]
      by_cases h2 : d.q = 0 <;> simp [h2]
  have d1 := hrank p (fun d => d.q == 1) 0 hs r1 (fun d hd => by unfold rankI; split <;> (try split) <;> omega)
  have d2 := hrank (p.dropWhile fun d => d.q == 1) (fun d => d.q == 0) 1 (hs.sublist (List.dropWhile_sublist _)) r0 (fun d hd => by have := d1 d hd; omega)
  have q3 : ∀ d ∈ kindDv p, d.q = 2 := fun d hd => by
    have h1 := d2 d hd
    have h2 := hq d (((List.dropWhile_sublist _).trans (List.dropWhile_sublist _)).subset hd)
    unfold rankI at h1
    rcases h2 with h | h | h
    · rw [h] at h1; simp at h1
    · rw [h] at h1; simp at h1
    · exact h
  have hcase : ∀ d ∈ p, d ∈ kindEq p ∨ d ∈ kindGe p ∨ d ∈ kindDv p := fun d hd => by
    rw [← hall] at hd
    rcases List.mem_append.1 hd with h | h
    · exact .inl h
    · exact .inr (List.mem_append.1 h)
  refine ⟨fun d => ⟨fun h => ⟨(kind_eq_sub p).subset h, kind_eq_q d h⟩, fun h => ?_⟩, fun d => ⟨fun h => ⟨(kind_ge_sub p).subset h, kind_ge_q d h⟩, fun h => ?_⟩, fun d => ⟨fun h => ⟨((List.dropWhile_sublist _).trans (List.dropWhile_sublist _)).subset h, q3 d h⟩, fun h => ?_⟩⟩
  · rcases hcase d h.1 with h1 | h1 | h1
    · exact h1
    · have := kind_ge_q d h1; omega
    · have := q3 d h1; omega
  · rcases hcase d h.1 with h1 | h1 | h1
    · have := kind_eq_q d h1; omega
    · exact h1
    · have := q3 d h1; omega
  · rcases hcase d h.1 with h1 | h1 | h1
    · have := kind_eq_q d h1; omega
    · have := kind_ge_q d h1; omega
    · exact h1
theorem ges_least : LeastOf outs (gesD p) := by
  have hk := kind_q hm hs hn
  refine ⟨fun a ha => ?_, fun c hc hq => ?_, fun i j a b ha hb hx => slope_one (ges_slopes hs (p_norm hm hs hn)) ha hb hx⟩
  · have := (hk.2.1 a).1 (comp_mem ha)
    exact ⟨(hm a).1 this.1, this.2⟩
  · obtain ⟨e, he, h1, h2⟩ := ges_cover hs (p_norm hm hs hn) c ((hk.2.1 c).2 ⟨(hm c).2 hc, hq⟩)
    exact ⟨e, he, h1, h2⟩
theorem ges_e : ∀ d ∈ gesD p, NormE n d ∧ d.q = 0 := fun d hd => ⟨hn d ((kind_ge_sub p).subset (comp_mem hd)), kind_ge_q d (comp_mem hd)⟩
theorem find_ges {t : List Int} {e : CD} (he : e ∈ gesD p) (ht : e.xs = t) : findD (gesD p) t = some e := by
  obtain ⟨j, hj, e1⟩ := List.getElem_of_mem he
  exact find_some (ges_slopes hs (p_norm hm hs hn)) (k := j) (by rw [List.getElem?_eq_getElem hj, e1]) ht
theorem slack_iff {d e : CD} (hd : d ∈ gesD p) (he : e ∈ gesD p) (hx : e.xs = sgnL (-1) d.xs) (hl : 0 < leadI d.xs) : slackD (gesD p) d = some (d.K + e.K) := by
  unfold slackD
  rw [if_neg (by omega), find_ges hm hs hn he hx]
  rfl
theorem gone_iff {d : CD} : goneD (gesD p) d = true ↔ GoneP (gesD p) d := by
  unfold goneD GoneP
  constructor
  · intro h
    cases hf : findD (gesD p) (sgnL (-1) d.xs) with
    | none => rw [hf] at h; cases h
    | some e =>
      rw [hf] at h
      obtain ⟨ht, j, hj⟩ := find_elim hf
      exact ⟨e, List.mem_of_getElem? hj, ht, by simpa using h⟩
  · rintro ⟨e, he, hx, h0⟩
    rw [find_ges hm hs hn he hx]
    simpa using h0
theorem pair_iff : pairVoid (gesD p) = true ↔ VA (gesD p) := by
  unfold pairVoid VA
  rw [List.any_eq_true]
  constructor
  · rintro ⟨d, hd, h⟩
    cases hk : slackD (gesD p) d with
    | none => rw [hk] at h; cases h
    | some k =>
      rw [hk] at h
      obtain ⟨e, he, hx, hke⟩ := slack_elim hk
      have : k < 0 := by simpa using h
      exact ⟨d, hd, e, he, hx, by omega⟩
  · rintro ⟨d, hd, e, he, hx, h0⟩
    have hne := (ges_e hm hs hn d hd).1.lead (ges_e hm hs hn d hd).2
    by_cases hl : 0 < leadI d.xs
    · refine ⟨d, hd, ?_⟩
      rw [slack_iff hm hs hn hd he hx hl]
      simpa using h0
    · refine ⟨e, he, ?_⟩
      rw [slack_iff hm hs hn he hd (by rw [hx, sgn_sgn]) (by rw [hx, lead_neg]; omega)]
      have : e.K + d.K < 0 := by omega
      simpa using this
theorem tight_iff (t : CD) : t ∈ tightD (gesD p) ↔ TightP (gesD p) t := by
  constructor
  · intro h
    obtain ⟨hq, c, hc, hk, hx, hK⟩ := tight_elim h
    obtain ⟨e, he, hex, h0⟩ := slack_elim hk
    have hne := (ges_e hm hs hn c hc).1.lead (ges_e hm hs hn c hc).2
    have hl : ¬ leadI c.xs < 0 := fun hl => by rw [slack_neg hl] at hk; cases hk
    have hnt := (tight_norm (ges_norm (p_norm hm hs hn)) t h).1
    refine ⟨c, hc, ⟨e, he, hex, by omega⟩, by omega, ?_⟩
    have hM := hnt.M (by omega)
    obtain ⟨q, M, xs, K⟩ := t
    simp only at hq hx hK hM
    rw [hq, hx, hK, hM]
  · rintro ⟨d, hd, ⟨e, he, hx, h0⟩, hl, rfl⟩
    refine tight_intro hd ?_
    rw [slack_iff hm hs hn hd he hx hl, h0]
theorem eqp_iff (t : CD) : t ∈ eqsD p ↔ EqP outs (gesD p) t := by
  have h1 : t ∈ eqsD p ↔ t ∈ eqsIn p := equal_mem (eqs_sorted hs (p_norm hm hs hn)) (fun d hd => (eqs_norm (p_norm hm hs hn) d hd).1) t
  rw [h1, eqs_mem, tight_iff hm hs hn, (kind_q hm hs hn).1, hm]
  rfl
theorem clash_iff : clashD (eqsD p) = true ↔ VB (EqP outs (gesD p)) := by
  have hN := p_norm hm hs hn
  constructor
  · intro h
    unfold clashD at h
    obtain ⟨i, hi, h⟩ := List.any_eq_true.1 h
    rw [List.mem_range] at hi
    have h1 : i < (eqsD p).length := by omega
    have h2 : i + 1 < (eqsD p).length := by omega
    rw [List.getElem?_eq_getElem h1, List.getElem?_eq_getElem h2] at h
    have hx : (eqsD p)[i].xs = (eqsD p)[i + 1].xs := by simpa [slopeD] using h
    refine ⟨_, _, (eqp_iff hm hs hn _).1 (List.getElem_mem h1), (eqp_iff hm hs hn _).1 (List.getElem_mem h2), hx, fun hK => ?_⟩
    have na := eqs_norm hN _ (comp_mem (l := eqsIn p) (List.getElem_mem h1))
    have nb := eqs_norm hN _ (comp_mem (l := eqsIn p) (List.getElem_mem h2))
    have e := norm_nd na.1 nb.1 (by rw [na.2, nb.2]) (by rw [na.2]; decide) hx hK
    have := List.pairwise_iff_getElem.1 (eqs_strict hs hN) i (i + 1) h1 h2 (by omega)
    rw [e, (lex_zero _ _ rfl).2 rfl] at this
    omega
  · rintro ⟨a, b, ha, hb, hx, hK⟩
    cases hc : clashD (eqsD p)
    · have hsl := eqs_slopes hs hN hc
      obtain ⟨i, hi, e1⟩ := List.getElem_of_mem ((eqp_iff hm hs hn a).2 ha)
      obtain ⟨j, hj, e2⟩ := List.getElem_of_mem ((eqp_iff hm hs hn b).2 hb)
      have := slope_one hsl (by rw [List.getElem?_eq_getElem hi, e1]) (by rw [List.getElem?_eq_getElem hj, e2]) hx
      subst this
      rw [e1] at e2
      exact absurd (by rw [e2]) hK
    · rfl
theorem imp_meet (hc : clashD (eqsD p) = false) {c e : CD} : impD (eqsD p) c = some e ↔ MeetP (EqP outs (gesD p)) c e := by
  unfold impD MeetP
  constructor
  · intro h
    obtain ⟨ht, j, hj⟩ := find_elim h
    exact ⟨(eqp_iff hm hs hn e).1 (List.mem_of_getElem? hj), ht⟩
  · rintro ⟨he, hx⟩
    obtain ⟨j, hj, e1⟩ := List.getElem_of_mem ((eqp_iff hm hs hn e).2 he)
    exact find_some (eqs_slopes hs (p_norm hm hs hn) hc) (k := j) (by rw [List.getElem?_eq_getElem hj, e1]) hx
theorem rest_iff (d : CD) : d ∈ restD (gesD p) ↔ d ∈ gesD p ∧ ¬ GoneP (gesD p) d := by
  unfold restD
  rw [List.mem_filter, ← gone_iff hm hs hn]
  simp
theorem imp_iff (hc : clashD (eqsD p) = false) : impVoid (eqsD p) (restD (gesD p)) = true ↔ VC (EqP outs (gesD p)) (gesD p) := by
  unfold impVoid VC
  rw [List.any_eq_true]
  constructor
  · rintro ⟨c, hcm, h⟩
    cases hk : impD (eqsD p) c with
    | none => rw [hk] at h; cases h
    | some e =>
      rw [hk] at h
      have hr := (rest_iff hm hs hn c).1 hcm
      exact ⟨c, hr.1, hr.2, e, (imp_meet hm hs hn hc).1 hk, by simpa using h⟩
  · rintro ⟨c, hcm, hg, e, he, h⟩
    refine ⟨c, (rest_iff hm hs hn c).2 ⟨hcm, hg⟩, ?_⟩
    rw [(imp_meet hm hs hn hc).2 he]
    simpa using h
theorem settle_none : settleD p = none ↔ VoidP outs (gesD p) := by
  unfold settleD VoidP
  constructor
  · intro h
    split at h
    · rename_i h1; exact .inl ((pair_iff hm hs hn).1 h1)
    · split at h
      · rename_i h1; exact .inr (.inl ((clash_iff hm hs hn).1 h1))
      · split at h
        · rename_i h0 h1; exact .inr (.inr ((imp_iff hm hs hn (by simpa using h0)).1 h1))
        · cases h
  · intro h
    split
    · rfl
    · rename_i h1
      split
      · rfl
      · rename_i h2
        have h2' : clashD (eqsD p) = false := by simpa using h2
        split
        · rfl
        · rename_i h3
          rcases h with h | h | h
          · exact absurd ((pair_iff hm hs hn).2 h) h1
          · exact absurd ((clash_iff hm hs hn).2 h) h2
          · exact absurd ((imp_iff hm hs hn h2').2 h) h3
theorem key_rank {a b : CD} (h : rankI a.q < rankI b.q) : ordL (keyD a) (keyD b) < 0 := by
  unfold keyD
  simp only [ordL]
  rw [if_pos h]
  decide
theorem dv_strict : (comp equalD (kindDv p)).Pairwise (fun a b => ordL (keyD a) (keyD b) < 0) := by
  have hN := dv_norm hs (p_norm hm hs hn)
  have hS := dv_sorted hs (p_norm hm hs hn)
  have key := comp_strict (fun d : { d : CD // d.xs.length = n } => keyD d.1) (fun a b => equalD a.1 b.1) (n := n + 3) (fun a b => equal_iff a.2 b.2) ((kindDv p).attachWith _ fun d hd => (hN d hd).len) (fun a _ => by rw [key_len, a.2]) (by
    have hsl' : (kindDv p).Pairwise (fun a b => ordL (keyD a) (keyD b) ≤ 0) := hS
    rw [List.pairwise_iff_getElem] at hsl' ⊢
    intro i j hi hj hij
    simpa using hsl' i j (by simpa using hi) (by simpa using hj) hij)
  have hm' := comp_map (fun a b : { d : CD // d.xs.length = n } => equalD a.1 b.1) (fun a => a.1) equalD (fun _ _ => rfl) ((kindDv p).attachWith _ fun d hd => (hN d hd).len)
  have hv : ((kindDv p).attachWith _ fun d hd => (hN d hd).len).map (fun a : { d : CD // d.xs.length = n } => a.1) = kindDv p := by simp
  rw [hv] at hm'
  rw [← hm', List.pairwise_map]
  exact key
theorem ges_strict : (gesD p).Pairwise (fun a b => ordL (keyD a) (keyD b) < 0) := by
  have hN := p_norm hm hs hn
  have h1 := comp_strict (fun d : CD => d.xs) slopeD (n := n) (fun a b => by simp [slopeD]) (kindGe p) (fun d hd => (hN d ((kind_ge_sub p).subset hd)).len) (by
    refine List.Pairwise.imp_of_mem (fun {a b} ha hb h => ?_) (hs.sublist (kind_ge_sub p))
    have na := hN a ((kind_ge_sub p).subset ha)
    have nb := hN b ((kind_ge_sub p).subset hb)
    have qa := kind_ge_q a ha
    have qb := kind_ge_q b hb
    exact ord_le_xs (by rw [qa, qb]) (by rw [na.M (by omega), nb.M (by omega)]) (by rw [na.len, nb.len]) h)
  refine List.Pairwise.imp_of_mem (fun {a b} ha hb h => ?_) h1
  have ea := ges_e hm hs hn a ha
  have eb := ges_e hm hs hn b hb
  rw [ord_xs (by rw [ea.2, eb.2]) (by rw [ea.1.nd.M (by omega), eb.1.nd.M (by omega)]) (by rw [ea.1.nd.len, eb.1.nd.len])]
  split
  · omega
  · exact h
theorem settle_some {r : List CD} (h : settleD p = some r) : (∀ d, d ∈ r ↔ OutP outs (gesD p) d) ∧ r.Pairwise (fun a b => ordL (keyD a) (keyD b) < 0) ∧ ∀ d ∈ r, NormD n d := by
  have hN := p_norm hm hs hn
  have hnorm := settle_norm hN h
  unfold settleD at h
  split at h
  · cases h
  · split at h
    · cases h
    · rename_i hcl
      have hcl : clashD (eqsD p) = false := by simpa using hcl
      split at h
      · cases h
      · have hr : r = eqsD p ++ impRest (eqsD p) (restD (gesD p)) ++ comp equalD (kindDv p) := by
          simpa using h.symm
        subst hr
        have himp : ∀ d, d ∈ impRest (eqsD p) (restD (gesD p)) ↔ RestP (EqP outs (gesD p)) (gesD p) d := fun d => by
          unfold impRest RestP
          split
          · rename_i he
            have he : eqsD p = [] := by simpa using he
            rw [rest_iff hm hs hn]
            refine ⟨fun h => ⟨h.1, h.2, fun ⟨e, hE⟩ => ?_⟩, fun h => ⟨h.1, h.2.1⟩⟩
            have := (eqp_iff hm hs hn e).2 hE.1
            rw [he] at this
            cases this
          · rw [List.mem_filter, rest_iff hm hs hn, and_assoc]
            refine and_congr_right fun _ => and_congr_right fun _ => ?_
            cases hk : impD (eqsD p) d with
            | none =>
              constructor
              · rintro _ ⟨e, hE⟩
                rw [(imp_meet hm hs hn hcl).2 hE] at hk
                cases hk
              · exact fun _ => rfl
            | some e =>
              constructor
              · intro h; cases h
              · exact fun h => absurd ⟨e, (imp_meet hm hs hn hcl).1 hk⟩ h
        have himpsub : (impRest (eqsD p) (restD (gesD p))).Sublist (gesD p) := by
          unfold impRest
          split
          · exact List.filter_sublist
          · exact List.filter_sublist.trans List.filter_sublist
        refine ⟨fun d => ?_, ?_, hnorm⟩
        · unfold OutP
          rw [List.mem_append, List.mem_append, eqp_iff hm hs hn, himp, equal_mem (dv_sorted hs hN) (dv_norm hs hN), (kind_q hm hs hn).2.2, hm, or_assoc]
        · have q1 : ∀ d ∈ eqsD p, d.q = 1 := fun d hd => (eqs_norm hN d (comp_mem (l := eqsIn p) hd)).2
          have q0 : ∀ d ∈ impRest (eqsD p) (restD (gesD p)), d.q = 0 := fun d hd => (ges_e hm hs hn d (himpsub.subset hd)).2
          have q2 : ∀ d ∈ comp equalD (kindDv p), d.q = 2 := fun d hd => (((kind_q hm hs hn).2.2 d).1 (comp_mem hd)).2
          refine List.pairwise_append.2 ⟨List.pairwise_append.2 ⟨eqs_strict hs hN, (ges_strict hm hs hn).sublist himpsub, fun a ha b hb => ?_⟩, dv_strict hm hs hn, fun a ha b hb => ?_⟩
          · refine key_rank hm hs hn ?_
            rw [q1 a ha, q0 b hb]; decide
          · refine key_rank hm hs hn ?_
            rcases List.mem_append.1 ha with ha | ha
            · rw [q1 a ha, q2 b hb]; decide
            · rw [q0 a ha, q2 b hb]; decide
end
theorem piece_ref_void {n : Nat} {ds L : List CD} (hk : ∀ d ∈ ds, KindOk d.q d.M ∧ d.xs.length = n) (hN : ∀ z ∈ normOut n ds, NormD n z) (hv : normVoid n ds = false) (hL : LeastOf (normOut n ds) L) (hV : VoidP (normOut n ds) L) : pieceD n ds = ([], true, 0) := by
  have hm : ∀ d, d ∈ sortD (normOut n ds) ↔ d ∈ normOut n ds := fun d => (sortL_perm leD (normOut n ds)).mem_iff (a := d)
  have hE : ∀ d ∈ sortD (normOut n ds), NormE n d := fun d hd => by
    have h1 := (hm d).1 hd
    obtain ⟨z, hz, h2⟩ := List.mem_flatMap.1 h1
    exact open_norm (hk z hz).1 (hk z hz).2 h2 (hN d h1)
  have hs : Sorted (sortD (normOut n ds)) := sorted_sort fun d hd => (hN d hd).len
  have hmm := least_mem hN hL (ges_least hm hs hE)
  have := (settle_none hm hs hE).2 ((void_mem hmm).1.1 hV)
  unfold pieceD
  rw [if_neg (by simp [hv]), this]
theorem piece_ref_some {n : Nat} {ds L R : List CD} (hk : ∀ d ∈ ds, KindOk d.q d.M ∧ d.xs.length = n) (hN : ∀ z ∈ normOut n ds, NormD n z) (hv : normVoid n ds = false) (hL : LeastOf (normOut n ds) L) (hV : ¬ VoidP (normOut n ds) L) (hR : ∀ d, d ∈ R ↔ OutP (normOut n ds) L d) (hS : R.Pairwise (fun a b => ordL (keyD a) (keyD b) < 0)) :
    pieceD n ds = if normFits n ds = false ∨ 96 < R.length then ([], false, 3) else (R, false, 0) := by
  have hm : ∀ d, d ∈ sortD (normOut n ds) ↔ d ∈ normOut n ds := fun d => (sortL_perm leD (normOut n ds)).mem_iff (a := d)
  have hE : ∀ d ∈ sortD (normOut n ds), NormE n d := fun d hd => by
    have h1 := (hm d).1 hd
    obtain ⟨z, hz, h2⟩ := List.mem_flatMap.1 h1
    exact open_norm (hk z hz).1 (hk z hz).2 h2 (hN d h1)
  have hs : Sorted (sortD (normOut n ds)) := sorted_sort fun d hd => (hN d hd).len
  have hmm := least_mem hN hL (ges_least hm hs hE)
  unfold pieceD
  rw [if_neg (by simp [hv])]
  cases hst : settleD (sortD (normOut n ds)) with
  | none => exact absurd ((void_mem hmm).1.2 ((settle_none hm hs hE).1 hst)) hV
  | some r =>
    obtain ⟨h1, h2, h3⟩ := settle_some hm hs hE hst
    have hmem : ∀ d, d ∈ R ↔ d ∈ r := fun d => by rw [hR, h1]; exact (void_mem hmm).2 d
    have : R = r := strict_eq R r (fun d hd => h3 d ((hmem d).1 hd)) h3 hS h2 hmem
    subst this
    rfl
end Go.Proofs.YtkgnlloioaobiaaGreat
namespace Go.Proofs.YtkgnlloioaobiaaGreat
open Go.RowKit Go.Lib Go.Sort
def sidesI (xs ys : List Int) : Int := if xs = ys then 1 else if xs = sgnL (-1) ys then -1 else 0
theorem sgn_neg (ys : List Int) (j : Nat) : (sgnL (-1) ys)[j]?.getD 0 = -(ys[j]?.getD 0) := by
  unfold sgnL
  rw [List.getElem?_map]
  cases ys[j]? <;> simp
set_option maxHeartbeats 4000000 in
theorem ref_sides (q M : Int) (A : Option Addr) (n c : Nat) (K : Int) (xs : List Int) (q' M' : Int) (A' : Option Addr) (c' : Nat) (L : Int) (ys : List Int) (w : World) (hI : IntsAt w A n xs) (hI' : IntsAt w A' n ys) (hy : ∀ y ∈ ys, -4611686018427387904 ≤ y ∧ y ≤ 4611686018427387904) :
    Calls Tryz.prog 82 #[condV q M A n c K, condV q' M' A' n c' L] w fun e w' => e = .returned (.int .i64 (sidesI xs ys)) ∧ ∃ q os', w' = grow (w.drewN q) os' := by
  have b1 := below_alloc w (.cells #[.int .i64 q, .int .i64 M, .slice A n c, .int .i64 K] 56)
  have hB := below_step b1 (below_alloc _ (.cells #[.int .i64 q', .int .i64 M', .slice A' n c', .int .i64 L] 56))
  have h1 := hI.step hB
  have h2 := hI'.step hB
  have B1 := (CBox.new w q M A n c K).alloc (.cells #[.int .i64 q', .int .i64 M', .slice A' n c', .int .i64 L] 56)
  have B2 := CBox.new (w.alloc (.cells #[.int .i64 q, .int .i64 M, .slice A n c, .int .i64 K] 56)) q' M' A' n c' L
  rw [World.size_alloc] at B2
  have c2 := B1.c2
  have d2 := B2.c2
  have HL := Lib.hid hI.len
  have HL' := Lib.hid hI'.len
  have HY := Lib.hid hy
  have hsm := hI.small
  have HEND := Lib.hid (fun m => slope_end w (.cells #[.int .i64 q, .int .i64 M, .slice A n c, .int .i64 K] 56) (.cells #[.int .i64 q', .int .i64 M', .slice A' n c', .int .i64 L] 56) m)
  obtain ⟨r, hr⟩ : ∃ r, sidesI xs ys = r := ⟨_, rfl⟩
  rw [hr]
  have HR := Lib.hid hr
  clear hI hI' b1 hB hy hr
  go_enter Tryz.func82, Tryz.ntmps82
  go_wp2
  generalize (w.alloc (.cells #[.int .i64 q, .int .i64 M, .slice A n c, .int .i64 K] 56)).alloc (.cells #[.int .i64 q', .int .i64 M', .slice A' n c', .int .i64 L] 56) = w2 at *
  go_loopw [5, 6, 12] (fun a b v wr => ∃ (i : Nat) (s o : Bool), i ≤ n ∧ v = .int .i64 i ∧ a = .bool s ∧ b = .bool o ∧ Hid (s = true ↔ ∀ j, j < i → xs[j]?.getD 0 = ys[j]?.getD 0) ∧ Hid (o = true ↔ ∀ j, j < i → xs[j]?.getD 0 = -(ys[j]?.getD 0)) ∧ ∃ q, wr = w2.drewN q) (fun _ _ v _ => n - (intOf v).toNat)
  case atStart => exact ⟨0, true, true, Nat.zero_le _, rfl, rfl, rfl, Lib.hid ⟨fun _ j h => absurd h (by omega), fun _ => rfl⟩, Lib.hid ⟨fun _ j h => absurd h (by omega), fun _ => rfl⟩, 0, rfl⟩
  case round =>
    obtain ⟨i, s, o, hi, rfl, rfl, rfl, HS, HO, q, rfl⟩ := hrel
    by_cases hlt : i < n
    · obtain ⟨b, off, rfl, hb, hc⟩ := h1.cells (by omega)
      obtain ⟨b', off', rfl, hb', hc'⟩ := h2.cells (by omega)
      have hcell := hc i hlt
      have hcell' := hc' i hlt
      have hq1 : (i : Int) < n := by omega
      have HXY := Lib.hid (And.intro (rfl : xs[i]?.getD 0 = xs[i]?.getD 0) (show -4611686018427387904 ≤ ys[i]?.getD 0 ∧ ys[i]?.getD 0 ≤ 4611686018427387904 by
        have hl : i < ys.length := by rw [HL'.out]; exact hlt
        rw [List.getElem?_eq_getElem hl]
        exact HY.out _ (List.getElem_mem hl)))
      obtain ⟨x, hx⟩ : ∃ x, xs[i]?.getD 0 = x := ⟨_, rfl⟩
      obtain ⟨y, hyy⟩ : ∃ y, ys[i]?.getD 0 = y := ⟨_, rfl⟩
      rw [hx] at hcell
      rw [hyy] at hcell'
      have hyb := HXY.out.2
      rw [hyy] at hyb
      have HX := Lib.hid hx
      have HYY := Lib.hid hyy
      have hneg : IntKind.i64.wrap (-y) = -y := IntWalk.i64_in _ (by omega)
      clear hc hc' hx hyy
      cases s
      · cases o
        · go_wp2
          go_quiet (fail)
          go_wp2
          go_quiet (fail)
          go_wp2
          go_roundw
          case rel => exact ⟨i + 1, false, false, by omega, by go_num, rfl, rfl, Lib.hid ⟨fun h => (by cases h), fun h => (by rw [HS.out]; exact fun j hj => h j (by omega))⟩, Lib.hid ⟨fun h => (by cases h), fun h => (by rw [HO.out]; exact fun j hj => h j (by omega))⟩, _, by first | rfl | exact drew2 _ _ _⟩
          case measure => simp [intOf]; omega
        · by_cases hen : x = -y
          · have HEN := Lib.hid hen
            have p1 : (x == -y) = true := by simpa using hen
            clear hen
            go_wp2
            go_quiet (fail)
            go_wp2
            go_quiet (fail)
            go_wp2
            go_roundw
            case rel => exact ⟨i + 1, false, true, by omega, by go_num, rfl, rfl, Lib.hid ⟨fun h => (by cases h), fun h => (by rw [HS.out]; exact fun j hj => h j (by omega))⟩, Lib.hid ⟨fun _ j hj => (by
                 rcases Nat.lt_or_eq_of_le (Nat.le_of_lt_succ hj) with h | rfl
                 · exact HO.out.1 (by simp) j h
                 · rw [HX.out, HYY.out]; exact HEN.out), fun _ => rfl⟩, _, by first | rfl | exact drew2 _ _ _⟩
            case measure => simp [intOf]; omega
          · have HEN := Lib.hid hen
            have p1 : (x == -y) = false := by simpa using hen
            clear hen
            go_wp2
            go_quiet (fail)
            go_wp2
            go_quiet (fail)
            go_wp2
            go_roundw
            case rel => exact ⟨i + 1, false, false, by omega, by go_num, rfl, rfl, Lib.hid ⟨fun h => (by cases h), fun h => (by rw [HS.out]; exact fun j hj => h j (by omega))⟩, Lib.hid ⟨fun h => (by cases h), fun h => absurd (by have := h i (by omega); rw [HX.out, HYY.out] at this; exact this) HEN.out⟩, _, by first | rfl | exact drew2 _ _ _⟩
            case measure => simp [intOf]; omega
      · by_cases heq : x = y
        · have HEQ := Lib.hid heq
          have q1 : (x == y) = true := by simpa using heq
          clear heq
          cases o
          · go_wp2
            go_quiet (fail)
            go_wp2
            go_quiet (fail)
            go_wp2
            go_roundw
            case rel => exact ⟨i + 1, true, false, by omega, by go_num, rfl, rfl, Lib.hid ⟨fun _ j hj => (by
                 rcases Nat.lt_or_eq_of_le (Nat.le_of_lt_succ hj) with h | rfl
                 · exact HS.out.1 (by simp) j h
                 · rw [HX.out, HYY.out]; exact HEQ.out), fun _ => rfl⟩, Lib.hid ⟨fun h => (by cases h), fun h => (by rw [HO.out]; exact fun j hj => h j (by omega))⟩, _, by first | rfl | exact drew2 _ _ _⟩
            case measure => simp [intOf]; omega
          · by_cases hen : x = -y
            · have HEN := Lib.hid hen
              have p1 : (x == -y) = true := by simpa using hen
              clear hen
              go_wp2
              go_quiet (fail)
              go_wp2
              go_quiet (fail)
              go_wp2
              go_roundw
              case rel => exact ⟨i + 1, true, true, by omega, by go_num, rfl, rfl, Lib.hid ⟨fun _ j hj => (by
                   rcases Nat.lt_or_eq_of_le (Nat.le_of_lt_succ hj) with h | rfl
                   · exact HS.out.1 (by simp) j h
                   · rw [HX.out, HYY.out]; exact HEQ.out), fun _ => rfl⟩, Lib.hid ⟨fun _ j hj => (by
                   rcases Nat.lt_or_eq_of_le (Nat.le_of_lt_succ hj) with h | rfl
                   · exact HO.out.1 (by simp) j h
                   · rw [HX.out, HYY.out]; exact HEN.out), fun _ => rfl⟩, _, by first | rfl | exact drew2 _ _ _⟩
              case measure => simp [intOf]; omega
            · have HEN := Lib.hid hen
              have p1 : (x == -y) = false := by simpa using hen
              clear hen
              go_wp2
              go_quiet (fail)
              go_wp2
              go_quiet (fail)
              go_wp2
              go_roundw
              case rel => exact ⟨i + 1, true, false, by omega, by go_num, rfl, rfl, Lib.hid ⟨fun _ j hj => (by
                   rcases Nat.lt_or_eq_of_le (Nat.le_of_lt_succ hj) with h | rfl
                   · exact HS.out.1 (by simp) j h
                   · rw [HX.out, HYY.out]; exact HEQ.out), fun _ => rfl⟩, Lib.hid ⟨fun h => (by cases h), fun h => absurd (by have := h i (by omega); rw [HX.out, HYY.out] at this; exact this) HEN.out⟩, _, by first | rfl | exact drew2 _ _ _⟩
              case measure => simp [intOf]; omega
        · have HEQ := Lib.hid heq
          have q1 : (x == y) = false := by simpa using heq
          clear heq
          cases o
          · go_wp2
            go_quiet (fail)
            go_wp2
            go_quiet (fail)
            go_wp2
            go_roundw
            case rel => exact ⟨i + 1, false, false, by omega, by go_num, rfl, rfl, Lib.hid ⟨fun h => (by cases h), fun h => absurd (by have := h i (by omega); rw [HX.out, HYY.out] at this; exact this) HEQ.out⟩, Lib.hid ⟨fun h => (by cases h), fun h => (by rw [HO.out]; exact fun j hj => h j (by omega))⟩, _, by first | rfl | exact drew2 _ _ _⟩
            case measure => simp [intOf]; omega
          · by_cases hen : x = -y
            · have HEN := Lib.hid hen
              have p1 : (x == -y) = true := by simpa using hen
              clear hen
              go_wp2
              go_quiet (fail)
              go_wp2
              go_quiet (fail)
              go_wp2
              go_roundw
              case rel => exact ⟨i + 1, false, true, by omega, by go_num, rfl, rfl, Lib.hid ⟨fun h => (by cases h), fun h => absurd (by have := h i (by omega); rw [HX.out, HYY.out] at this; exact this) HEQ.out⟩, Lib.hid ⟨fun _ j hj => (by
                   rcases Nat.lt_or_eq_of_le (Nat.le_of_lt_succ hj) with h | rfl
                   · exact HO.out.1 (by simp) j h
                   · rw [HX.out, HYY.out]; exact HEN.out), fun _ => rfl⟩, _, by first | rfl | exact drew2 _ _ _⟩
              case measure => simp [intOf]; omega
            · have HEN := Lib.hid hen
              have p1 : (x == -y) = false := by simpa using hen
              clear hen
              go_wp2
              go_quiet (fail)
              go_wp2
              go_quiet (fail)
              go_wp2
              go_roundw
              case rel => exact ⟨i + 1, false, false, by omega, by go_num, rfl, rfl, Lib.hid ⟨fun h => (by cases h), fun h => absurd (by have := h i (by omega); rw [HX.out, HYY.out] at this; exact this) HEQ.out⟩, Lib.hid ⟨fun h => (by cases h), fun h => absurd (by have := h i (by omega); rw [HX.out, HYY.out] at this; exact this) HEN.out⟩, _, by first | rfl | exact drew2 _ _ _⟩
              case measure => simp [intOf]; omega
    · have hge : ¬ ((i : Int) < n) := by omega
      have hin : i = n := by omega
      have HIN := Lib.hid hin
      clear hin
      have HQ := Lib.hid (show (s = true ↔ xs = ys) ∧ (o = true ↔ xs = sgnL (-1) ys) by
        refine ⟨HS.out.trans ⟨fun h => list_at HL.out HL'.out fun j hj => h j (by have := HIN.out; omega), fun h j _ => by rw [h]⟩, HO.out.trans ⟨fun h => list_at HL.out (by simp [sgnL, HL'.out]) fun j hj => ?_, fun h j _ => ?_⟩⟩
        · rw [sgn_neg]; exact h j (by have := HIN.out; omega)
        · rw [h, sgn_neg])
      cases s
      · cases o
        · have HF := Lib.hid (show r = 0 by
            rw [← HR.out]; unfold sidesI
            rw [if_neg (fun h => by have := HQ.out.1.2 h; cases this), if_neg (fun h => by have := HQ.out.2.2 h; cases this)])
          go_wp2
          go_ret
          exact ⟨ret1 (vint HF.out.symm), HEND.out _⟩
        · have HF := Lib.hid (show r = -1 by
            rw [← HR.out]; unfold sidesI
            rw [if_neg (fun h => by have := HQ.out.1.2 h; cases this), if_pos (HQ.out.2.1 (by simp))])
          go_wp2
          go_ret
          exact ⟨ret1 (vint HF.out.symm), HEND.out _⟩
      · have HF := Lib.hid (show r = 1 by
          rw [← HR.out]; unfold sidesI
          rw [if_pos (HQ.out.1.1 (by simp))])
        go_wp2
        go_ret
        exact ⟨ret1 (vint HF.out.symm), HEND.out _⟩
end Go.Proofs.YtkgnlloioaobiaaGreat
namespace Go.Proofs.YtkgnlloioaobiaaGreat
open Go.RowKit
theorem headlandref01_size (n : Int) (wa : -9223372036854775808 ≤ n) (wa' : n ≤ 9223372036854775807) (w : World) :
    Calls Tryz.prog 129 #[.int .i64 n] w fun e w' => e = .returned (.int .u64 (n.natAbs : Int)) ∧ w = w' := by
  by_cases h : n < 0
  all_goals
    go_enter Tryz.func129, Tryz.ntmps129
    go_wp2
    go_ret
    exact ⟨ret1 (vint (by (try simp only [IntKind.wrap_u64]); omega)), rfl⟩
theorem gcdStep_lt (b : Nat) (x : Int) (hb : b < 18446744073709551616) (h1 : -9223372036854775808 ≤ x) (h2 : x ≤ 9223372036854775807) : gcdStep b x < 18446744073709551616 := by
  unfold gcdStep
  by_cases h0 : b = 0
  · subst h0; rw [Nat.gcd_zero_left]; omega
  · exact Nat.lt_of_le_of_lt (Nat.gcd_le_left _ (by omega)) hb
def gcdVal (xs : List Int) : Int := if xs.foldl gcdStep 0 = 9223372036854775808 then 0 else (xs.foldl gcdStep 0 : Nat)
def gcdErr (xs : List Int) : Int := if xs.foldl gcdStep 0 = 9223372036854775808 then 3 else 0
end Go.Proofs.YtkgnlloioaobiaaGreat
namespace Go.Proofs.YtkgnlloioaobiaaGreat
open Go.RowKit
theorem ref_gcd (w : World) (B : Nat) (A : Option Addr) (n c : Nat) (xs : List Int) (h : Ints w B A n xs) :
    Calls Tryz.prog 102 #[.slice A n c] w fun e w' => e = .returned (.tuple #[.int .i64 (gcdVal xs), .int .i64 (gcdErr xs)]) ∧ ∃ k, w' = w.drewN k := by
  have hn := h.small
  go_enter Tryz.func102, Tryz.ntmps102
  go_wp2
  go_loopw [4, 10] (fun u v wr => ∃ i k b : Nat, i ≤ n ∧ v = .int .i64 i ∧ u = .int .u64 b ∧ b < 18446744073709551616 ∧ b = (xs.take i).foldl gcdStep 0 ∧ wr = w.drewN k) (fun _ v _ => n - (intOf v).toNat)
  case atStart => exact ⟨0, 0, 0, Nat.zero_le _, rfl, rfl, by omega, rfl, rfl⟩
  case round =>
    obtain ⟨i, k, b, hi, rfl, rfl, hb64, eb, rfl⟩ := hrel
    have EB := Lib.hid eb
    clear eb
    by_cases hlt : i < n
    · obtain ⟨bl, off, rfl, hb, hc⟩ := h.cells (by omega)
      have hcell := hc i hlt
      have hr1 := (h.rng i).1
      have hr2 := (h.rng i).2
      have HE := Lib.hid (foldl_take gcdStep 0 xs (i := i) (by rw [h.len]; exact hlt))
      have HS := Lib.hid (gcdStep_lt b _ hb64 hr1 hr2)
      clear hc
      go_wp2_with (go_at_call 129; refine (headlandref01_size _ hr1 hr2 _).mono ?_; rintro e w' ⟨rfl, rfl⟩)
      go_loopw [4, 7] (fun u v wr => ∃ x y k' : Nat, u = .int .u64 x ∧ v = .int .u64 y ∧ x < 18446744073709551616 ∧ y < 18446744073709551616 ∧ Nat.gcd x y = gcdStep b (xs[i]?.getD 0) ∧ wr = w.drewN k') (fun _ v _ => (intOf v).toNat)
      case atStart => exact ⟨b, (xs[i]?.getD 0).natAbs, k, rfl, rfl, hb64, by omega, rfl, rfl⟩
      case round =>
        obtain ⟨x, y, k', rfl, rfl, hx, hy, hg, rfl⟩ := hrel
        have HG := Lib.hid hg
        clear hg
        by_cases h0 : y = 0
        · subst h0
          go_wp2
          go_roundw
          case rel => exact ⟨i + 1, k', x, by omega, by go_num, rfl, hx, by rw [HE.out, ← EB.out, ← HG.out]; simp, rfl⟩
          case measure => simp [intOf]; omega
        · have hy0 : (0 : Int) < y := by omega
          go_wp2
          go_quiet (fail)
          go_wp2
          go_roundw
          case rel =>
            exact ⟨y, x % y, k' + nq, rfl, by rw [Int.natCast_emod], hy, by have := Nat.mod_lt x (Nat.pos_of_ne_zero h0); omega, by rw [← HG.out, Nat.gcd_comm x y, Nat.gcd_rec y x]; exact Nat.gcd_comm _ _, by simp⟩
          case measure => simp [intOf]; have := Nat.mod_lt x (Nat.pos_of_ne_zero h0); omega
    · have e : n = i := by omega
      have HE := Lib.hid (show b = xs.foldl gcdStep 0 by rw [EB.out, List.take_of_length_le (by rw [h.len, e]; exact Nat.le_refl _)])
      have hge : ¬ i < n := hlt
      have hle := gcd_fold_le xs h.wf 0 (by omega)
      rw [← HE.out] at hle
      clear e
      by_cases hz : b = 9223372036854775808
      · have HZ := Lib.hid (show gcdVal xs = 0 ∧ gcdErr xs = 3 from ⟨by unfold gcdVal; rw [if_pos (HE.out ▸ hz)], by unfold gcdErr; rw [if_pos (HE.out ▸ hz)]⟩)
        subst hz
        go_wp2
        go_ret2
        exact ⟨ret2 (vint HZ.out.1.symm) (vint HZ.out.2.symm), _, rfl⟩
      · have HZ := Lib.hid (show gcdVal xs = (b : Nat) ∧ gcdErr xs = 0 from ⟨by unfold gcdVal; rw [if_neg (HE.out ▸ hz), HE.out], by unfold gcdErr; rw [if_neg (HE.out ▸ hz)]⟩)
        have hlt2 : (b : Int) < 9223372036854775808 := by omega
        have hq : ((b : Int) == 9223372036854775808) = false := by simp; omega
        go_wp2
        go_ret2
        exact ⟨ret2 (vint HZ.out.1.symm) (vint HZ.out.2.symm), _, rfl⟩
end Go.Proofs.YtkgnlloioaobiaaGreat
namespace Go.Proofs.YtkgnlloioaobiaaGreat
open Go.RowKit
theorem ref_truth (b : Bool) (w : World) : Calls Tryz.prog 103 #[.bool b] w fun e w' => e = .returned (.tuple #[condV 0 0 none 0 0 0, .int .i64 (if b then 1 else -1)]) ∧ Below w.heap.size w w' := by
  have hB := below_alloc w (.cells #[.int .i64 0, .int .i64 0, .slice none 0 0, .int .i64 0] 56)
  have B1 := CBox.new w 0 0 none 0 0 0
  cases b
  all_goals
    go_enter Tryz.func103, Tryz.ntmps103
    go_wp2
    first
      | exact bodyPost_ret (v := .tuple #[condV 0 0 none 0 0 0, .int .i64 (-1)]) (by simp [results, Tryz.results103, go_sem]) rfl ⟨rfl, hB⟩
      | exact bodyPost_ret (v := .tuple #[condV 0 0 none 0 0 0, .int .i64 1]) (by simp [results, Tryz.results103, go_sem]) rfl ⟨rfl, hB⟩
end Go.Proofs.YtkgnlloioaobiaaGreat
namespace Go.Proofs.YtkgnlloioaobiaaGreat
open Go.RowKit
set_option maxHeartbeats 4000000 in
theorem ref_over (A : Option Addr) (n c : Nat) (K : Int) (xs : List Int) (b k : Int) (hb : b ≠ 0) (hbw : -4611686018427387904 ≤ b ∧ b ≤ 4611686018427387904) (hx : ∀ x ∈ xs, -4611686018427387904 ≤ x ∧ x ≤ 4611686018427387904) (w : World) (hI : IntsAt w A n xs) :
    Calls Tryz.prog 105 #[.agg #[.slice A n c, .int .i64 K], .int .i64 b, .int .i64 k] w fun e w' =>
      ∃ g, e = .returned (.agg #[.slice (some ⟨g, 0, none⟩) n n, .int .i64 k]) ∧ w.heap.size ≤ g ∧ OwnRow w' g n (quoL n xs b) ∧ Below w.heap.size w w' := by
  have hsm := hI.small
  have hmk := make_ints n hsm
  have b1 := below_alloc w (.cells #[.slice A n c, .int .i64 K] 54)
  have b2 := below_step b1 (below_alloc _ (.cells #[.slice none 0 0, .int .i64 0] 54))
  have b3 := below_step b2 (below_alloc _ (.cells ((zeros n).map (Value.int .i64)).toArray 3))
  have hB := below_step b3 (below_alloc _ (.cells #[.slice (some ⟨w.heap.size + 1 + 1, 0, none⟩) n n, .int .i64 k] 54))
  have B1 := (((LBox.new w A n c K).alloc (.cells #[.slice none 0 0, .int .i64 0] 54)).alloc (.cells ((zeros n).map (Value.int .i64)).toArray 3)).alloc (.cells #[.slice (some ⟨w.heap.size + 1 + 1, 0, none⟩) n n, .int .i64 k] 54)
  have B2 := ((LBox.new (w.alloc (.cells #[.slice A n c, .int .i64 K] 54)) none 0 0 0).alloc (.cells ((zeros n).map (Value.int .i64)).toArray 3)).alloc (.cells #[.slice (some ⟨w.heap.size + 1 + 1, 0, none⟩) n n, .int .i64 k] 54)
  have R := (OwnRow.new ((w.alloc (.cells #[.slice A n c, .int .i64 K] 54)).alloc (.cells #[.slice none 0 0, .int .i64 0] 54)) (zeros n) n (zeros_len n)).step (below_alloc _ (.cells #[.slice (some ⟨w.heap.size + 1 + 1, 0, none⟩) n n, .int .i64 k] 54))
  have B4 := LBox.new (((w.alloc (.cells #[.slice A n c, .int .i64 K] 54)).alloc (.cells #[.slice none 0 0, .int .i64 0] 54)).alloc (.cells ((zeros n).map (Value.int .i64)).toArray 3)) (some ⟨w.heap.size + 1 + 1, 0, none⟩) n n k
  simp only [World.size_alloc] at B2 R B4
  have HX := Lib.hid hx
  have q0 : (b == 0) = false := by simpa using hb
  clear hx b1 b2 b3
  go_enter Tryz.func105, Tryz.ntmps105
  go_wp2
  go_loopw [19] (fun v wr => ∃ i : Nat, i ≤ n ∧ v = .int .i64 i ∧ LBox wr w.heap.size A n c K ∧ LBox wr (w.heap.size + 1) none 0 0 0 ∧ OwnRow wr (w.heap.size + 1 + 1) n (quoTo n xs b i) ∧ LBox wr (w.heap.size + 1 + 1 + 1) (some ⟨w.heap.size + 1 + 1, 0, none⟩) n n k ∧ Below w.heap.size w wr) (fun v _ => n - (intOf v).toNat)
  case atStart => exact ⟨0, Nat.zero_le _, rfl, B1, B2, by rw [quo_zero]; exact R, B4, hB⟩
  case round =>
    obtain ⟨i, hi, rfl, S1, S2, hrow, S4, hBw⟩ := hrel
    clear R B1 B2 B4 hB hmk
    by_cases hlt : i < n
    · have hr := HX.out _ (hI.mem hlt)
      obtain ⟨bl, off, rfl, hbl, hc⟩ := hI.cells (by omega)
      have hcell := (hBw.cell (p := ⟨bl, off + i, none⟩) hbl).trans (hc i hlt)
      have hfr := hrow.free i
      have hcr := hrow.cell hlt
      have c40 := S4.c0
      have q1 : (i : Int) < n := by omega
      have f2 := (hrow.set hlt ((xs[i]?.getD 0).tdiv b))
      rw [quo_step] at f2
      have f1 := S1.other (a := ⟨w.heap.size + 1 + 1, i, none⟩) (show w.heap.size ≠ w.heap.size + 1 + 1 by omega) (.int .i64 ((xs[i]?.getD 0).tdiv b))
      have f3 := S2.other (a := ⟨w.heap.size + 1 + 1, i, none⟩) (show w.heap.size + 1 ≠ w.heap.size + 1 + 1 by omega) (.int .i64 ((xs[i]?.getD 0).tdiv b))
      have f4 := S4.other (a := ⟨w.heap.size + 1 + 1, i, none⟩) (show w.heap.size + 1 + 1 + 1 ≠ w.heap.size + 1 + 1 by omega) (.int .i64 ((xs[i]?.getD 0).tdiv b))
      have f5 := (hBw.setCell (p := ⟨w.heap.size + 1 + 1, i, none⟩) (show w.heap.size ≤ w.heap.size + 1 + 1 by omega) (.int .i64 ((xs[i]?.getD 0).tdiv b))).drew
      have n3 : w.heap.size + 1 + 1 ≠ bl := by omega
      have n4 : w.heap.size + 1 + 1 ≠ w.heap.size + 1 + 1 + 1 := by omega
      have FF := Lib.hid (And.intro f1 (And.intro f2 (And.intro f3 (And.intro f4 f5))))
      generalize xs[i]?.getD 0 = x at *
      have hq := tdiv_bd x b hb
      have hw : IntKind.i64.wrap (x.tdiv b) = x.tdiv b := IntWalk.i64_in _ (by omega)
      clear hc hq f1 f2 f3 f4 f5 S1 S2 hrow S4 hBw
      go_wp2
      go_region_held3 (fun W => W.cell? ⟨w.heap.size + 1 + 1 + 1, 0, none⟩ = some (.slice (some ⟨w.heap.size + 1 + 1, 0, none⟩) n n)) (go_keep) (fail)
      go_wp2
      go_roundw
      case rel => exact ⟨i + 1, by omega, by go_num, FF.out.1, FF.out.2.2.1, FF.out.2.1, FF.out.2.2.2.1, FF.out.2.2.2.2⟩
      case measure => simp [intOf]; omega
    · obtain rfl : i = n := by omega
      rw [quo_all] at hrow
      have hge : ¬ ((i : Int) < i) := by omega
      have c90 := S4.c0
      have c91 := S4.c1
      have c30 := S2.c0
      have c31 := S2.c1
      have f30 := S2.f 0
      have f31 := S2.f 1
      have c40 := S2.s0 (.slice (some ⟨w.heap.size + 1 + 1, 0, none⟩) i i)
      have c41 := (S2.store (some ⟨w.heap.size + 1 + 1, 0, none⟩) i i k).c1
      have O := hrow.store2 (b := w.heap.size + 1) (by omega) (.slice (some ⟨w.heap.size + 1 + 1, 0, none⟩) i i) (.int .i64 k)
      have hEnd := below_store2 hBw (b := w.heap.size + 1) (by omega) (.slice (some ⟨w.heap.size + 1 + 1, 0, none⟩) i i) (.int .i64 k)
      clear hBw hrow S1 S2 S4
      go_wp2
      refine bodyPost_ret (v := .agg #[.slice (some ⟨w.heap.size + 1 + 1, 0, none⟩) i i, .int .i64 k]) (by simp [results, Tryz.results105, go_sem, c40, c41]) rfl ?_
      exact ⟨_, rfl, by omega, O, hEnd⟩
end Go.Proofs.YtkgnlloioaobiaaGreat
namespace Go.Proofs.YtkgnlloioaobiaaGreat
open Go.RowKit
theorem CBox.step' {w : World} {b : Nat} {q M : Int} {A : Option Addr} {n c : Nat} {K : Int} (h : CBox w b q M A n c K) {a : Addr} (ha : b ≠ a.block) (u : Value) : CBox (w.setCell a u) b q M A n c K := (Below.heap_setCell w a u b ha).trans h
theorem gcdVal_A {xs : List Int} (hx : ∀ x ∈ xs, -4611686018427387904 ≤ x ∧ x ≤ 4611686018427387904) : gcdVal xs = (gcdA 0 xs : Nat) ∧ gcdErr xs = 0 := by
  have h : xs.foldl gcdStep 0 = gcdA 0 xs := rfl
  have h2 := gcd_lim xs hx
  unfold gcdVal gcdErr
  rw [h, if_neg (by omega), if_neg (by omega)]
  exact ⟨rfl, rfl⟩
theorem ref_gcdA (w : World) (A : Option Addr) (n c : Nat) (xs : List Int) (hx : ∀ x ∈ xs, -4611686018427387904 ≤ x ∧ x ≤ 4611686018427387904) (h : IntsAt w A n xs) :
    Calls Tryz.prog 102 #[.slice A n c] w fun e w' => e = .returned (.tuple #[.int .i64 (gcdA 0 xs : Nat), .int .i64 0]) ∧ Below w.heap.size w w' :=
  (ref_gcd w _ A n c xs h).mono (by rintro e w' ⟨rfl, k, rfl⟩; rw [(gcdVal_A hx).1, (gcdVal_A hx).2]; exact ⟨rfl, below_of_drewN k⟩)
section
variable (M : Int) (A : Option Addr) (n c : Nat) (K : Int) (xs : List Int) (hK : -4611686018427387904 ≤ K ∧ K ≤ 4611686018427387904) (hx : ∀ x ∈ xs, -4611686018427387904 ≤ x ∧ x ≤ 4611686018427387904) (w : World) (hI : IntsAt w A n xs)
include hK hx hI
omit hK in
set_option maxHeartbeats 4000000 in
set_option maxRecDepth 100000 in
theorem made_zero_ge (h0 : gcdA 0 xs = 0) : Calls Tryz.prog 81 #[condV 0 M A n c K] w fun e w' => CondRet w e w' 0 0 [] 0 (if 0 ≤ K then 1 else -1) := by
  have hB := below_step (below_alloc w (.cells #[.int .i64 0, .int .i64 M, .slice A n c, .int .i64 K] 56)) (below_alloc _ (.cells #[.int .i64 0, .int .i64 0, .slice none 0 0, .int .i64 0] 56)); have h1 := hI.step hB; have B1 := (CBox.new w 0 M A n c K).step (below_alloc _ (.cells #[.int .i64 0, .int .i64 0, .slice none 0 0, .int .i64 0] 56)); have B2 := CBox.new (w.alloc (.cells #[.int .i64 0, .int .i64 M, .slice A n c, .int .i64 K] 56)) 0 0 none 0 0 0; rw [World.size_alloc] at B2; have c0 := B1.c0; have c1 := B1.c1; have c2 := B1.c2; have c3 := B1.c3
  have HG := Lib.hid (fun W (h : IntsAt W A n xs) => ref_gcdA W A n c xs hx h)
  rw [h0] at HG
  obtain ⟨s, hs⟩ : ∃ s : Int, (if 0 ≤ K then (1 : Int) else -1) = s := ⟨_, rfl⟩
  have HS := Lib.hid (show (if decide (0 ≤ K) = true then (1 : Int) else -1) = s by rw [← hs]; simp)
  rw [hs]
  clear hs h0
  go_enter Tryz.func81, Tryz.ntmps81
  go_wp2_with (first
    | (go_at_call 102; refine (HG.out _ h1).mono ?_; rintro e w1 ⟨rfl, hb⟩; replace hB := below_step hB hb; replace h1 := h1.step hb; replace B1 := B1.step hb; replace B2 := B2.step hb; have c0 := B1.c0; have c1 := B1.c1; have c2 := B1.c2; have c3 := B1.c3; have d0 := B2.c0; have d1 := B2.c1; have d2 := B2.c2; have d3 := B2.c3; have f0 := B2.f 0; have f1 := B2.f 1; have f2 := B2.f 2; have f3 := B2.f 3)
    | (go_at_call 103; refine (ref_truth _ _).mono ?_; rintro e w2 ⟨rfl, hb⟩; rw [HS.out]; replace hB := below_step hB hb; replace h1 := h1.step hb; replace B1 := B1.step hb; replace B2 := B2.step hb; have c0 := B1.c0; have c1 := B1.c1; have c2 := B1.c2; have c3 := B1.c3; have d0 := B2.c0; have d1 := B2.c1; have d2 := B2.c2; have d3 := B2.c3; have f0 := B2.f 0; have f1 := B2.f 1; have f2 := B2.f 2; have f3 := B2.f 3; obtain ⟨e0, e1, e2, e3⟩ := B2.four 0 0 none 0 0 0))
  refine bodyPost_ret (v := .tuple #[condV 0 0 none 0 0 0, .int .i64 s]) (by simp [results, Tryz.results81, go_sem, e0, e1, e2, e3]) rfl ?_
  exact ⟨none, 0, 0, rfl, ints_nil _ _, below_store4 hB (by omega) _ _ _ _, .inl rfl⟩
set_option maxHeartbeats 4000000 in
set_option maxRecDepth 100000 in
theorem made_open_ge (h0 : gcdA 0 xs ≠ 0) : Calls Tryz.prog 81 #[condV 0 M A n c K] w fun e w' => CondRet w e w' 0 0 (quoL n xs (gcdA 0 xs : Nat)) (K / (gcdA 0 xs : Nat)) 0 := by
  have hB := below_step (below_alloc w (.cells #[.int .i64 0, .int .i64 M, .slice A n c, .int .i64 K] 56)) (below_alloc _ (.cells #[.int .i64 0, .int .i64 0, .slice none 0 0, .int .i64 0] 56)); have h1 := hI.step hB; have B1 := (CBox.new w 0 M A n c K).step (below_alloc _ (.cells #[.int .i64 0, .int .i64 0, .slice none 0 0, .int .i64 0] 56)); have B2 := CBox.new (w.alloc (.cells #[.int .i64 0, .int .i64 M, .slice A n c, .int .i64 K] 56)) 0 0 none 0 0 0; rw [World.size_alloc] at B2; have c0 := B1.c0; have c1 := B1.c1; have c2 := B1.c2; have c3 := B1.c3
  obtain ⟨G, hG⟩ : ∃ G, gcdA 0 xs = G := ⟨_, rfl⟩; have HG := Lib.hid (fun W (h : IntsAt W A n xs) => ref_gcdA W A n c xs hx h); have hGl := gcd_lim xs hx; rw [hG] at HG hGl
  rw [hG] at h0 ⊢
  have hg1 : (1 : Int) ≤ G := by omega
  have q0 : ((G : Int) == 0) = false := by simp; omega
  have HO := Lib.hid (fun k W (h : IntsAt W A n xs) => ref_over A n c K xs (G : Int) k (by omega) (by omega) hx W h)
  have HW := Lib.hid (quo_wf (n := n) (xs := xs) (b := (G : Int)) (by omega) hx)
  have hsm := hI.small
  obtain ⟨k, hk⟩ : ∃ k, K / (G : Int) = k := ⟨_, rfl⟩
  have HK := Lib.hid hk
  rw [hk]
  generalize quoL n xs (G : Int) = X at *
  clear hk hG hI hx h0
  go_enter Tryz.func81, Tryz.ntmps81
  go_wp2_with (first
    | (go_at_call 102; refine (HG.out _ h1).mono ?_; rintro e w1 ⟨rfl, hb⟩; replace hB := below_step hB hb; replace h1 := h1.step hb; replace B1 := B1.step hb; replace B2 := B2.step hb; have c0 := B1.c0; have c1 := B1.c1; have c2 := B1.c2; have c3 := B1.c3; have d0 := B2.c0; have d1 := B2.c1; have d2 := B2.c2; have d3 := B2.c3; have f0 := B2.f 0; have f1 := B2.f 1; have f2 := B2.f 2; have f3 := B2.f 3)
    | (go_at_call 104; refine (headlandref01_floor _ _ (by omega) (by omega) (by omega) hg1 _).mono ?_; rintro e w' ⟨rfl, rfl⟩; rw [HK.out])
    | (go_at_call 105; refine (HO.out _ _ h1).mono ?_; rintro e w2 ⟨g5, rfl, hg5, O5, hb⟩; have l4 := B2.lt; replace hB := below_step hB hb; replace h1 := h1.step hb; replace B1 := B1.step hb; replace B2 := B2.step hb; have c0 := B1.c0; have c1 := B1.c1; have c2 := B1.c2; have c3 := B1.c3; have d0 := B2.c0; have d1 := B2.c1; have d2 := B2.c2; have d3 := B2.c3; have f0 := B2.f 0; have f1 := B2.f 1; have f2 := B2.f 2; have f3 := B2.f 3; obtain ⟨e0, e1, e2, e3⟩ := B2.four 0 0 (some ⟨g5, 0, none⟩) n n k))
  refine bodyPost_ret (v := .tuple #[condV 0 0 (some ⟨g5, 0, none⟩) n n k, .int .i64 0]) (by simp [results, Tryz.results81, go_sem, e0, e1, e2, e3]) rfl ?_
  have R := O5.store4 (b := w.heap.size + 1) (by omega) (.int .i64 0) (.int .i64 0) (.slice (some ⟨g5, 0, none⟩) n n) (.int .i64 k)
  have hsz := B1.lt
  exact ⟨some ⟨g5, 0, none⟩, n, n, rfl, R.ints hsm (fun x hx => by have := HW.out x hx; omega), below_store4 hB (by omega) _ _ _ _, .inr ⟨g5, rfl, by omega, R⟩⟩
omit hK in
set_option maxHeartbeats 4000000 in
set_option maxRecDepth 100000 in
theorem made_zero_eq (h0 : gcdA 0 xs = 0) : Calls Tryz.prog 81 #[condV 1 M A n c K] w fun e w' => CondRet w e w' 0 0 [] 0 (if K = 0 then 1 else -1) := by
  have hB := below_step (below_alloc w (.cells #[.int .i64 1, .int .i64 M, .slice A n c, .int .i64 K] 56)) (below_alloc _ (.cells #[.int .i64 0, .int .i64 0, .slice none 0 0, .int .i64 0] 56)); have h1 := hI.step hB; have B1 := (CBox.new w 1 M A n c K).step (below_alloc _ (.cells #[.int .i64 0, .int .i64 0, .slice none 0 0, .int .i64 0] 56)); have B2 := CBox.new (w.alloc (.cells #[.int .i64 1, .int .i64 M, .slice A n c, .int .i64 K] 56)) 0 0 none 0 0 0; rw [World.size_alloc] at B2; have c0 := B1.c0; have c1 := B1.c1; have c2 := B1.c2; have c3 := B1.c3
  have HG := Lib.hid (fun W (h : IntsAt W A n xs) => ref_gcdA W A n c xs hx h)
  rw [h0] at HG
  obtain ⟨s, hs⟩ : ∃ s : Int, (if K = 0 then (1 : Int) else -1) = s := ⟨_, rfl⟩
  have HS := Lib.hid (show (if (K == 0) = true then (1 : Int) else -1) = s by rw [← hs]; simp)
  rw [hs]
  clear hs h0
  go_enter Tryz.func81, Tryz.ntmps81
  go_wp2_with (first
    | (go_at_call 102; refine (HG.out _ h1).mono ?_; rintro e w1 ⟨rfl, hb⟩; replace hB := below_step hB hb; replace h1 := h1.step hb; replace B1 := B1.step hb; replace B2 := B2.step hb; have c0 := B1.c0; have c1 := B1.c1; have c2 := B1.c2; have c3 := B1.c3; have d0 := B2.c0; have d1 := B2.c1; have d2 := B2.c2; have d3 := B2.c3; have f0 := B2.f 0; have f1 := B2.f 1; have f2 := B2.f 2; have f3 := B2.f 3)
    | (go_at_call 103; refine (ref_truth _ _).mono ?_; rintro e w2 ⟨rfl, hb⟩; rw [HS.out]; replace hB := below_step hB hb; replace h1 := h1.step hb; replace B1 := B1.step hb; replace B2 := B2.step hb; have c0 := B1.c0; have c1 := B1.c1; have c2 := B1.c2; have c3 := B1.c3; have d0 := B2.c0; have d1 := B2.c1; have d2 := B2.c2; have d3 := B2.c3; have f0 := B2.f 0; have f1 := B2.f 1; have f2 := B2.f 2; have f3 := B2.f 3; obtain ⟨e0, e1, e2, e3⟩ := B2.four 0 0 none 0 0 0))
  refine bodyPost_ret (v := .tuple #[condV 0 0 none 0 0 0, .int .i64 s]) (by simp [results, Tryz.results81, go_sem, e0, e1, e2, e3]) rfl ?_
  exact ⟨none, 0, 0, rfl, ints_nil _ _, below_store4 hB (by omega) _ _ _ _, .inl rfl⟩
set_option maxHeartbeats 4000000 in
set_option maxRecDepth 100000 in
theorem made_never_eq (h0 : gcdA 0 xs ≠ 0) (hr : K.tmod (gcdA 0 xs : Nat) ≠ 0) : Calls Tryz.prog 81 #[condV 1 M A n c K] w fun e w' => CondRet w e w' 0 0 [] 0 (-1) := by
  have hB := below_step (below_alloc w (.cells #[.int .i64 1, .int .i64 M, .slice A n c, .int .i64 K] 56)) (below_alloc _ (.cells #[.int .i64 0, .int .i64 0, .slice none 0 0, .int .i64 0] 56)); have h1 := hI.step hB; have B1 := (CBox.new w 1 M A n c K).step (below_alloc _ (.cells #[.int .i64 0, .int .i64 0, .slice none 0 0, .int .i64 0] 56)); have B2 := CBox.new (w.alloc (.cells #[.int .i64 1, .int .i64 M, .slice A n c, .int .i64 K] 56)) 0 0 none 0 0 0; rw [World.size_alloc] at B2; have c0 := B1.c0; have c1 := B1.c1; have c2 := B1.c2; have c3 := B1.c3
  obtain ⟨G, hG⟩ : ∃ G, gcdA 0 xs = G := ⟨_, rfl⟩; have HG := Lib.hid (fun W (h : IntsAt W A n xs) => ref_gcdA W A n c xs hx h); have hGl := gcd_lim xs hx; rw [hG] at HG hGl
  rw [hG] at h0 hr
  have q0 : ((G : Int) == 0) = false := by simp; omega
  have hg0 : (G : Int) ≠ 0 := by omega
  have q1 : (K.tmod (G : Int) != 0) = true := by simpa using hr
  have q2 : (K.tmod (G : Int) == 0) = false := by simpa using hr
  have hm : (K.tmod (G : Int)).natAbs ≤ K.natAbs := by rw [Int.natAbs_tmod]; exact Nat.mod_le _ _
  have hw : IntKind.i64.wrap (K.tmod (G : Int)) = K.tmod (G : Int) := IntWalk.i64_in _ (by omega)
  clear hr hm hG
  go_enter Tryz.func81, Tryz.ntmps81
  go_wp2_with (first
    | (go_at_call 102; refine (HG.out _ h1).mono ?_; rintro e w1 ⟨rfl, hb⟩; replace hB := below_step hB hb; replace h1 := h1.step hb; replace B1 := B1.step hb; replace B2 := B2.step hb; have c0 := B1.c0; have c1 := B1.c1; have c2 := B1.c2; have c3 := B1.c3; have d0 := B2.c0; have d1 := B2.c1; have d2 := B2.c2; have d3 := B2.c3; have f0 := B2.f 0; have f1 := B2.f 1; have f2 := B2.f 2; have f3 := B2.f 3)
    | (go_at_call 103; refine (ref_truth _ _).mono ?_; rintro e w2 ⟨rfl, hb⟩; replace hB := below_step hB hb; replace h1 := h1.step hb; replace B1 := B1.step hb; replace B2 := B2.step hb; have c0 := B1.c0; have c1 := B1.c1; have c2 := B1.c2; have c3 := B1.c3; have d0 := B2.c0; have d1 := B2.c1; have d2 := B2.c2; have d3 := B2.c3; have f0 := B2.f 0; have f1 := B2.f 1; have f2 := B2.f 2; have f3 := B2.f 3; obtain ⟨e0, e1, e2, e3⟩ := B2.four 0 0 none 0 0 0))
  refine bodyPost_ret (v := .tuple #[condV 0 0 none 0 0 0, .int .i64 (-1)]) (by simp [results, Tryz.results81, go_sem, e0, e1, e2, e3]) rfl ?_
  exact ⟨none, 0, 0, rfl, ints_nil _ _, below_store4 hB (by omega) _ _ _ _, .inl rfl⟩
omit hK hx hI in
theorem lead_zero (h : leadI xs = 0) : ∀ x ∈ xs, x = 0 := by
  induction xs with
  | nil => intro x hx; cases hx
  | cons y ys ih =>
    unfold leadI at h
    split at h
    · rename_i e
      intro x hx
      rcases List.mem_cons.1 hx with rfl | hx
      · exact e
      · exact ih h x hx
    · rename_i e; exact absurd h e
omit hK hx hI in
theorem gcdA_zero (h : ∀ x ∈ xs, x = 0) : gcdA 0 xs = 0 := by
  induction xs with
  | nil => rfl
  | cons y ys ih =>
    have h0 := h y List.mem_cons_self
    subst h0
    show gcdA (Nat.gcd 0 (0 : Int).natAbs) ys = 0
    exact ih fun x hx => h x (List.mem_cons_of_mem _ hx)
set_option maxHeartbeats 8000000 in
set_option maxRecDepth 100000 in
theorem made_open_eq (h0 : gcdA 0 xs ≠ 0) (hr : K.tmod (gcdA 0 xs : Nat) = 0) : Calls Tryz.prog 81 #[condV 1 M A n c K] w fun e w' => CondRet w e w' 1 0 (quoL n xs (leadBy xs (gcdA 0 xs))) (K.tdiv (leadBy xs (gcdA 0 xs))) 0 := by
  have hB := below_step (below_alloc w (.cells #[.int .i64 1, .int .i64 M, .slice A n c, .int .i64 K] 56)) (below_alloc _ (.cells #[.int .i64 0, .int .i64 0, .slice none 0 0, .int .i64 0] 56)); have h1 := hI.step hB; have B1 := (CBox.new w 1 M A n c K).step (below_alloc _ (.cells #[.int .i64 0, .int .i64 0, .slice none 0 0, .int .i64 0] 56)); have B2 := CBox.new (w.alloc (.cells #[.int .i64 1, .int .i64 M, .slice A n c, .int .i64 K] 56)) 0 0 none 0 0 0; rw [World.size_alloc] at B2; have c0 := B1.c0; have c1 := B1.c1; have c2 := B1.c2; have c3 := B1.c3
  have hLZ := Lib.hid (fun h => h0 (gcdA_zero xs (lead_zero xs h)))
  obtain ⟨G, hG⟩ : ∃ G, gcdA 0 xs = G := ⟨_, rfl⟩; have HG := Lib.hid (fun W (h : IntsAt W A n xs) => ref_gcdA W A n c xs hx h); have hGl := gcd_lim xs hx; rw [hG] at HG hGl
  rw [hG] at h0 hr ⊢
  have q0 : ((G : Int) == 0) = false := by simp; omega
  have hg0 : (G : Int) ≠ 0 := by omega
  have hgN : G ≠ 0 := by omega
  have hwm : IntKind.i64.wrap (K.tmod G) = 0 := by rw [hr]; rfl
  have hbb : leadBy xs G ≠ 0 ∧ -4611686018427387904 ≤ leadBy xs G ∧ leadBy xs G ≤ 4611686018427387904 := by unfold leadBy; split <;> omega
  have HO := Lib.hid (fun k W (h : IntsAt W A n xs) => ref_over A n c K xs (leadBy xs G) k hbb.1 hbb.2 hx W h)
  have HW := Lib.hid (quo_wf (n := n) hbb.1 hx)
  have hsm := hI.small
  have HL := Lib.hid hI.len
  obtain ⟨ld, hld⟩ : ∃ l, leadI xs = l := ⟨_, rfl⟩
  have HLD := Lib.hid hld
  obtain ⟨by_, hby⟩ : ∃ b, leadBy xs G = b := ⟨_, rfl⟩
  have hby2 : by_ = if ld < 0 then -(G : Int) else G := by rw [← hby, ← hld]; rfl
  have HB2 := Lib.hid hby2
  rw [hby] at HO HW hbb ⊢
  generalize quoL n xs by_ = X at *
  have hkd := tdiv_bd K by_ hbb.1
  obtain ⟨k, hk⟩ : ∃ k, K.tdiv by_ = k := ⟨_, rfl⟩
  rw [hk] at hkd ⊢
  have HKW := Lib.hid (show IntKind.i64.wrap (K.tdiv by_) = k by rw [hk]; exact IntWalk.i64_in _ (by omega))
  have HBB := Lib.hid hbb
  have hwn : IntKind.i64.wrap (-(G : Int)) = -(G : Int) := IntWalk.i64_in _ (by omega)
  clear hG hI hx h0 hwm hld hby hby2 hbb hk hkd hGl hK
  go_enter Tryz.func81, Tryz.ntmps81
  go_wp2_with (first
    | (go_at_call 102; refine (HG.out _ h1).mono ?_; rintro e w1 ⟨rfl, hb⟩; replace hB := below_step hB hb; replace h1 := h1.step hb; replace B1 := B1.step hb; replace B2 := B2.step hb; have c0 := B1.c0; have c1 := B1.c1; have c2 := B1.c2; have c3 := B1.c3; have d0 := B2.c0; have d1 := B2.c1; have d2 := B2.c2; have d3 := B2.c3; have f0 := B2.f 0; have f1 := B2.f 1; have f2 := B2.f 2; have f3 := B2.f 3))
  clear hr
  go_loop [4, 73] (fun u v => ∃ i : Nat, i ≤ n ∧ v = .int .i64 i ∧ u = .int .i64 (G : Int) ∧ ∀ j, j < i → xs[j]?.getD 0 = 0) (fun _ v => n - (intOf v).toNat)
  case atStart => exact ⟨0, Nat.zero_le _, rfl, rfl, fun j hj => absurd hj (by omega)⟩
  case round =>
    obtain ⟨i, hi, rfl, rfl, hz⟩ := hrel
    have HZ := Lib.hid hz
    clear hz
    by_cases hlt : i < n
    · obtain ⟨bl, off, rfl, hbl, hc⟩ := h1.cells (by omega)
      have hcell := hc i hlt
      have q1 : (i : Int) < n := by omega
      clear hc
      by_cases hx : xs[i]?.getD 0 = 0
      · have HXX := Lib.hid hx
        rw [hx] at hcell
        clear hx
        go_wp2
        go_round
        case rel => exact ⟨i + 1, by omega, by go_num, rfl, fun j hj => by
          rcases Nat.lt_or_eq_of_le (Nat.le_of_lt_succ hj) with h1 | h1
          · exact HZ.out j h1
          · exact h1 ▸ HXX.out⟩
        case measure => simp [intOf]; omega
      · have HV := Lib.hid (lead_at (by rw [HL.out]; exact hlt) HZ.out hx)
        generalize xs[i]?.getD 0 = x at *
        have q2 : (x != 0) = true := by simpa using hx
        have q3 : (x == 0) = false := by simpa using hx
        have HX0 := Lib.hid hx
        have e8 : ld = x := HLD.out.symm.trans HV.out
        subst e8
        clear hx
        have hb0 := HBB.out.1
        have hb00 : (by_ == 0) = false := by simpa using hb0
        have hkw := HKW.out
        have hb2 := HB2.out
        have l1 := B1.lt
        have l2 := B2.lt
        replace hB := hB.drew
        replace h1 := h1.step (Below.refl _ w1).drew
        replace B1 := B1.step (Below.refl _ w1).drew
        replace B2 := B2.step (Below.refl _ w1).drew
        by_cases hneg : ld < 0
        · rw [if_pos hneg] at hb2
          subst hb2
          have hkw2 : IntKind.i64.wrap (-(K.tdiv (G : Int))) = k := by rw [← Int.tdiv_neg]; exact hkw
          go_wp2
          go_region_held3 (fun W => W.cell? ⟨w.heap.size, 2, none⟩ = some (.slice (some ⟨bl, off, none⟩) n c) ∧ W.cell? ⟨w.heap.size, 3, none⟩ = some (.int .i64 K)) (first | exact ⟨c2, c3⟩ | go_keep)
            (first
              | (go_at_call 105; refine (HO.out _ _ h1).mono ?_; rintro e w2 ⟨g5, rfl, hg5, O5, hb⟩; have l4 := B2.lt; replace hB := below_step hB hb; replace h1 := h1.step hb; replace B1 := B1.step hb; replace B2 := B2.step hb; have c0 := B1.c0; have c1 := B1.c1; have c2 := B1.c2; have c3 := B1.c3; have d0 := B2.c0; have d1 := B2.c1; have d2 := B2.c2; have d3 := B2.c3; have f0 := B2.f 0; have f1 := B2.f 1; have f2 := B2.f 2; have f3 := B2.f 3; obtain ⟨e0, e1, e2, e3⟩ := B2.four 1 0 (some ⟨g5, 0, none⟩) n n k))
          all_goals
            go_wp2
            refine bodyPost_ret (v := .tuple #[condV 1 0 (some ⟨g5, 0, none⟩) n n k, .int .i64 0]) (by simp [results, Tryz.results81, go_sem, e0, e1, e2, e3]) rfl ?_
            have hg6 : w1.heap.size ≤ g5 := hg5
            have R := O5.store4 (b := w.heap.size + 1) (by omega) (.int .i64 1) (.int .i64 0) (.slice (some ⟨g5, 0, none⟩) n n) (.int .i64 k)
            exact ⟨some ⟨g5, 0, none⟩, n, n, rfl, R.ints hsm (fun x hx => by have := HW.out x hx; omega), below_store4 hB (by omega) _ _ _ _, .inr ⟨g5, rfl, by omega, R⟩⟩
        · rw [if_neg hneg] at hb2
          subst hb2
          go_wp2
          go_region_held3 (fun W => W.cell? ⟨w.heap.size, 2, none⟩ = some (.slice (some ⟨bl, off, none⟩) n c) ∧ W.cell? ⟨w.heap.size, 3, none⟩ = some (.int .i64 K)) (first | exact ⟨c2, c3⟩ | go_keep)
            (first
              | (go_at_call 105; refine (HO.out _ _ h1).mono ?_; rintro e w2 ⟨g5, rfl, hg5, O5, hb⟩; have l4 := B2.lt; replace hB := below_step hB hb; replace h1 := h1.step hb; replace B1 := B1.step hb; replace B2 := B2.step hb; have c0 := B1.c0; have c1 := B1.c1; have c2 := B1.c2; have c3 := B1.c3; have d0 := B2.c0; have d1 := B2.c1; have d2 := B2.c2; have d3 := B2.c3; have f0 := B2.f 0; have f1 := B2.f 1; have f2 := B2.f 2; have f3 := B2.f 3; obtain ⟨e0, e1, e2, e3⟩ := B2.four 1 0 (some ⟨g5, 0, none⟩) n n k))
          all_goals
            go_wp2
            refine bodyPost_ret (v := .tuple #[condV 1 0 (some ⟨g5, 0, none⟩) n n k, .int .i64 0]) (by simp [results, Tryz.results81, go_sem, e0, e1, e2, e3]) rfl ?_
            have hg6 : w1.heap.size ≤ g5 := hg5
            have R := O5.store4 (b := w.heap.size + 1) (by omega) (.int .i64 1) (.int .i64 0) (.slice (some ⟨g5, 0, none⟩) n n) (.int .i64 k)
            exact ⟨some ⟨g5, 0, none⟩, n, n, rfl, R.ints hsm (fun x hx => by have := HW.out x hx; omega), below_store4 hB (by omega) _ _ _ _, .inr ⟨g5, rfl, by omega, R⟩⟩
    · obtain rfl : i = n := by omega
      exact absurd (by rw [lead_skip i xs (by rw [HL.out]; exact Nat.le_refl _) HZ.out, List.drop_of_length_le (by rw [HL.out]; exact Nat.le_refl _)]; rfl) hLZ.out
end
end Go.Proofs.YtkgnlloioaobiaaGreat
namespace Go.Proofs.YtkgnlloioaobiaaGreat
open Go.RowKit
theorem keep4 {W : World} {bl : Nat} {u v x y z : Value} {a : Addr} (h : W.cell? a = some z) (ha : a.block ≠ bl) : ((((W.setCell ⟨bl, 0, none⟩ u).setCell ⟨bl, 1, none⟩ v).setCell ⟨bl, 2, none⟩ x).setCell ⟨bl, 3, none⟩ y).cell? a = some z := by
  rw [← h]
  exact World.cell?_of_block (by rw [Below.heap_setCell _ _ _ _ ha, Below.heap_setCell _ _ _ _ ha, Below.heap_setCell _ _ _ _ ha, Below.heap_setCell _ _ _ _ ha])
theorem LBox.s1 {w : World} {b : Nat} {A : Option Addr} {n c : Nat} {K : Int} (h : LBox w b A n c K) (v : Int) : LBox (w.setCell ⟨b, 1, none⟩ (.int .i64 v)) b A n c v := by
  unfold LBox at *; show (Array.modify _ b _)[b]? = _; rw [Array.getElem?_modify, if_pos rfl, h]; rfl
def modTo (n : Nat) (xs : List Int) (M : Int) (i : Nat) : List Int := (List.range n).map fun j => if j < i then xs[j]?.getD 0 % M else 0
def modL (n : Nat) (xs : List Int) (M : Int) : List Int := (List.range n).map fun j => xs[j]?.getD 0 % M
theorem mod_zero (n : Nat) (xs : List Int) (M : Int) : modTo n xs M 0 = zeros n := by
  apply List.ext_getElem (by simp [modTo, zeros])
  intro j h1 h2
  simp [modTo, zeros]
theorem mod_step (n : Nat) (xs : List Int) (M : Int) (i : Nat) : (modTo n xs M i).set i (xs[i]?.getD 0 % M) = modTo n xs M (i + 1) := by
  unfold modTo
  rw [tab_set]
  apply List.map_congr_left
  intro j _
  by_cases e : j = i
  · subst e; simp
  · have : (j < i + 1) ↔ (j < i) := by omega
    simp [e, this]
theorem mod_all (n : Nat) (xs : List Int) (M : Int) : modTo n xs M n = modL n xs M := by
  apply List.map_congr_left
  intro j hj
  rw [if_pos (List.mem_range.1 hj)]
theorem modL_bd {n : Nat} {xs : List Int} {M : Int} (hM : 1 ≤ M ∧ M ≤ 512) : ∀ x ∈ modL n xs M, 0 ≤ x ∧ x < 512 := by
  intro z hz
  obtain ⟨j, _, rfl⟩ := List.mem_map.1 hz
  have m0 := Int.emod_nonneg (xs[j]?.getD 0) (show M ≠ 0 by omega)
  have m1 := Int.emod_lt_of_pos (xs[j]?.getD 0) (show 0 < M by omega)
  omega
theorem quo_modL (n : Nat) (xs : List Int) (M h : Int) (hM : 1 ≤ M) : quoL n (modL n xs M) h = remL n xs M h := by
  apply List.map_congr_left
  intro j hj
  unfold modL
  rw [tab_get _ (List.mem_range.1 hj), Int.tdiv_eq_ediv_of_nonneg (Int.emod_nonneg _ (by omega))]
theorem dvd_mod {d : Nat} {x M : Int} (h1 : d ∣ M.natAbs) : d ∣ (x % M).natAbs ↔ d ∣ x.natAbs := by
  rw [← Int.ofNat_dvd_left, ← Int.ofNat_dvd_left]
  rw [← Int.ofNat_dvd_left] at h1
  obtain ⟨q, hq⟩ := h1
  have hd := Int.mul_ediv_add_emod x M
  generalize x / M = y at hd
  constructor
  · rintro ⟨t, ht⟩
    refine ⟨q * y + t, ?_⟩
    rw [← hd, ht, hq, Int.mul_add, Int.mul_assoc]
  · rintro ⟨t, ht⟩
    refine ⟨t - q * y, ?_⟩
    rw [Int.mul_sub, ← ht, ← Int.mul_assoc, ← hq]
    omega
theorem gcdA_rem {n : Nat} {xs : List Int} (hn : xs.length = n) {M : Int} : gcdA 0 (modL n xs M ++ [M]) = gcdA M.natAbs xs := by
  obtain ⟨a1, a2, a3⟩ := gcd_fold (modL n xs M ++ [M]) 0
  obtain ⟨b1, b2, b3⟩ := gcd_fold xs M.natAbs
  have hmem : ∀ y ∈ modL n xs M, ∃ x ∈ xs, y = x % M := by
    intro y hy
    obtain ⟨j, hj, rfl⟩ := List.mem_map.1 hy
    exact ⟨_, getD_mem (by rw [hn]; exact List.mem_range.1 hj), rfl⟩
  have hmem2 : ∀ x ∈ xs, x % M ∈ modL n xs M := by
    intro x hx
    obtain ⟨j, hj, rfl⟩ := List.getElem_of_mem hx
    exact List.mem_map.2 ⟨j, List.mem_range.2 (by omega), by simp [hj]⟩
  have hM : gcdA 0 (modL n xs M ++ [M]) ∣ M.natAbs := a2 M (by simp)
  apply Nat.dvd_antisymm
  · exact b3 _ hM fun x hx => (dvd_mod hM).1 (a2 _ (List.mem_append_left _ (hmem2 x hx)))
  · refine a3 _ (Nat.dvd_zero _) fun y hy => ?_
    rcases List.mem_append.1 hy with h | h
    · obtain ⟨x, hx, rfl⟩ := hmem y h
      exact (dvd_mod b1).2 (b2 x hx)
    · rw [List.mem_singleton.1 h]; exact b1
def dvFacts (n : Nat) (b1 b2 : Nat) (A : Option Addr) (c : Nat) (M : Int) (rs : List Int) (h : Int) (B : Nat) : Nat → Fact B
  | 0 => .own 3 0 []
  | 1 => .val (.pointer (some ⟨b2, 0, none⟩))
  | 2 => .val (.slice A n c)
  | 3 => .own 3 (0 + n) ([] ++ vals rs)
  | 4 => .val (.pointer (some ⟨b1, 1, none⟩))
  | 5 => .val (.int .i64 M)
  | 6 => .own 3 1 (vals [M])
  | 7 => .own 3 ((0 + n) + 1) (([] ++ vals rs) ++ vals [M])
  | 8 => .val (.tuple #[.int .i64 h, .int .i64 0])
  | 9 => .val (.tuple #[.int .i64 h, .int .i64 0])
  | 10 => .val (.int .i64 h)
  | 11 => .val (.int .i64 0)
  | 12 => .val (.int .i64 h)
  | 13 => .val (.int .i64 0)
  | _ => .any
def dvPlan : Plan where
  slots := [132, 133, 134, 135, 136, 137, 138, 139, 140, 131, 141, 142, 13, 14]
  kill := [[], [], [], [0], [], [], [], [3], [], [], [], [], [], []]
  need := [[], [], [1], [0, 2], [], [4], [5], [3, 6], [7], [8], [9], [9], [10], [11]]
set_option maxHeartbeats 8000000 in
set_option maxRecDepth 100000 in
theorem made_dv (M : Int) (A : Option Addr) (n c : Nat) (hn12 : n ≤ 1000000) (K : Int) (xs : List Int) (hM : 1 ≤ M ∧ M ≤ 512) (hK : -4611686018427387904 ≤ K ∧ K ≤ 4611686018427387904) (hx : ∀ x ∈ xs, -4611686018427387904 ≤ x ∧ x ≤ 4611686018427387904) (w : World) (hI : IntsAt w A n xs) :
    Calls Tryz.prog 81 #[condV 2 M A n c K] w fun e w' => NfRet w e w' (nf 2 M n xs K) := by
  have hsm := hI.small
  have hmk := make_ints n hsm
  have hB := below_step (below_alloc w (.cells #[.int .i64 2, .int .i64 M, .slice A n c, .int .i64 K] 56)) (below_alloc _ (.cells #[.int .i64 0, .int .i64 0, .slice none 0 0, .int .i64 0] 56))
  have h1 := hI.step hB
  have B1 := (CBox.new w 2 M A n c K).step (below_alloc _ (.cells #[.int .i64 0, .int .i64 0, .slice none 0 0, .int .i64 0] 56))
  have B2 := CBox.new (w.alloc (.cells #[.int .i64 2, .int .i64 M, .slice A n c, .int .i64 K] 56)) 0 0 none 0 0 0
  rw [World.size_alloc] at B2
  have c0 := B1.c0
  have c2 := B1.c2
  obtain ⟨G, hG⟩ : ∃ G, gcdA 0 xs = G := ⟨_, rfl⟩
  have HG := Lib.hid (fun W (h : IntsAt W A n xs) => ref_gcdA W A n c xs hx h)
  rw [hG] at HG
  obtain ⟨r, hr⟩ : ∃ r, nf 2 M n xs K = r := ⟨_, rfl⟩
  have HR := Lib.hid hr
  obtain ⟨h, hh⟩ : ∃ h : Nat, gcdA M.natAbs xs = h := ⟨_, rfl⟩
  have hhM := gcdA_le (xs := xs) (show 0 < M.natAbs by omega)
  rw [hh] at hhM
  have HH := Lib.hid hh
  have HX := Lib.hid hx
  have HL := Lib.hid hI.len
  obtain ⟨k, hk⟩ : ∃ k, K % M = k := ⟨_, rfl⟩
  have hk0 := Int.emod_nonneg K (show M ≠ 0 by omega)
  have hk1 := Int.emod_lt_of_pos K (show 0 < M by omega)
  rw [hk] at hk0 hk1
  have HKM := Lib.hid hk
  rw [hr]
  clear hr hh hG hx hk hI
  go_enter Tryz.func81, Tryz.ntmps81
  go_wp2_with (go_at_call 102; refine (HG.out _ h1).mono ?_; rintro e w1 ⟨rfl, hb⟩; replace hB := below_step hB hb; replace h1 := h1.step hb; replace B1 := B1.step hb; replace B2 := B2.step hb; have Y1 := (B1.alloc (.cells ((zeros n).map (Value.int .i64)).toArray 3)).alloc (.cells #[.slice (some ⟨w1.heap.size, 0, none⟩) n n, .int .i64 0] 54); have c0 := B1.c0; have c2 := B1.c2; have y2 := Y1.c2)
  have Y2 := (B2.alloc (.cells ((zeros n).map (Value.int .i64)).toArray 3)).alloc (.cells #[.slice (some ⟨w1.heap.size, 0, none⟩) n n, .int .i64 0] 54)
  have YR := (OwnRow.new w1 (zeros n) n (zeros_len n)).step (below_alloc _ (.cells #[.slice (some ⟨w1.heap.size, 0, none⟩) n n, .int .i64 0] 54))
  have YL := LBox.new (w1.alloc (.cells ((zeros n).map (Value.int .i64)).toArray 3)) (some ⟨w1.heap.size, 0, none⟩) n n 0
  have YB := below_step (below_alloc w1 (.cells ((zeros n).map (Value.int .i64)).toArray 3)) (below_alloc _ (.cells #[.slice (some ⟨w1.heap.size, 0, none⟩) n n, .int .i64 0] 54))
  rw [World.size_alloc] at YL
  have l1 := B1.lt
  have l2 := B2.lt
  clear c0 c2 y2 hmk hb
  go_loopw [104] (fun v wr => ∃ i : Nat, i ≤ n ∧ v = .int .i64 i ∧ CBox wr w.heap.size 2 M A n c K ∧ CBox wr (w.heap.size + 1) 0 0 none 0 0 0 ∧ OwnRow wr w1.heap.size n (modTo n xs M i) ∧ LBox wr (w1.heap.size + 1) (some ⟨w1.heap.size, 0, none⟩) n n 0 ∧ Below w1.heap.size w1 wr) (fun v _ => n - (intOf v).toNat)
  case atStart => exact ⟨0, Nat.zero_le _, rfl, Y1, Y2, by rw [mod_zero]; exact YR, YL, YB⟩
  clear Y1 Y2 YR YL YB
  case round =>
    obtain ⟨i, hi, rfl, S1, S2, hrow, S4, hBw⟩ := hrel
    by_cases hlt : i < n
    · have hr := HX.out _ (h1.mem hlt)
      obtain ⟨bl, off, rfl, hbl, hc⟩ := h1.cells (by omega)
      have hcell := (hBw.cell (p := ⟨bl, off + i, none⟩) hbl).trans (hc i hlt)
      have hfr := hrow.free i
      have hcr := hrow.cell hlt
      have c40 := S4.c0
      have c11 := S1.c1
      have q1 : (i : Int) < n := by omega
      have f2 := (hrow.set hlt (xs[i]?.getD 0 % M))
      rw [mod_step] at f2
      have n3 : w1.heap.size ≠ bl := by omega
      have n4 : w1.heap.size ≠ w1.heap.size + 1 := by omega
      have n5 : w1.heap.size ≠ w.heap.size := by omega
      have n6 : w1.heap.size ≠ w.heap.size + 1 := by omega
      have f1 := S1.step' (a := ⟨w1.heap.size, i, none⟩) (show w.heap.size ≠ w1.heap.size by omega) (.int .i64 (xs[i]?.getD 0 % M))
      have f3 := S2.step' (a := ⟨w1.heap.size, i, none⟩) (show w.heap.size + 1 ≠ w1.heap.size by omega) (.int .i64 (xs[i]?.getD 0 % M))
      have f4 := S4.other (a := ⟨w1.heap.size, i, none⟩) (show w1.heap.size + 1 ≠ w1.heap.size by omega) (.int .i64 (xs[i]?.getD 0 % M))
      have f5 := (hBw.setCell (p := ⟨w1.heap.size, i, none⟩) (Nat.le_refl _) (.int .i64 (xs[i]?.getD 0 % M))).drew
      have FF := Lib.hid (And.intro f1 (And.intro f2 (And.intro f3 (And.intro f4 f5))))
      generalize xs[i]?.getD 0 = x at *
      clear hc f1 f2 f3 f4 f5 S1 S2 hrow S4
      go_wp2
      go_region_held3 (fun W => W.cell? ⟨w1.heap.size + 1, 0, none⟩ = some (.slice (some ⟨w1.heap.size, 0, none⟩) n n) ∧ W.cell? ⟨w.heap.size, 1, none⟩ = some (.int .i64 M)) (go_keep)
        (first
          | (go_at_call 106; refine (headlandref01_mod _ _ (by omega) (by omega) (by omega) hM.1 _).mono ?_; rintro e w' ⟨rfl, rfl⟩))
      go_wp2
      go_roundw
      case rel => exact ⟨i + 1, by omega, by go_num, FF.out.1, FF.out.2.2.1, FF.out.2.1, FF.out.2.2.2.1, FF.out.2.2.2.2⟩
      case measure => simp [intOf]; omega
    · obtain rfl : i = n := by omega
      rw [mod_all] at hrow
      have hge : ¬ ((i : Int) < i) := by omega
      replace hB := below_step hB hBw
      replace h1 := h1.step hBw
      have c11 := S1.c1
      have c13 := S1.c3
      have f41 := S4.f 1
      have c41 := S4.c1
      have T4 := S4.s1 k
      have T1 := S1.step' (a := ⟨w1.heap.size + 1, 1, none⟩) (show w.heap.size ≠ w1.heap.size + 1 by omega) (.int .i64 k)
      have T2 := S2.step' (a := ⟨w1.heap.size + 1, 1, none⟩) (show w.heap.size + 1 ≠ w1.heap.size + 1 by omega) (.int .i64 k)
      have T3 := hrow.other (a := ⟨w1.heap.size + 1, 1, none⟩) (show w1.heap.size ≠ w1.heap.size + 1 by omega) (.int .i64 k)
      have hW := hBw.setCell (p := ⟨w1.heap.size + 1, 1, none⟩) (show w1.heap.size ≤ w1.heap.size + 1 by omega) (.int .i64 k)
      have hB2 := hB.setCell (p := ⟨w1.heap.size + 1, 1, none⟩) (show w.heap.size ≤ w1.heap.size + 1 by omega) (.int .i64 k)
      go_wp2_with (go_at_call 106; refine (headlandref01_mod _ _ (by omega) (by omega) (by omega) hM.1 _).mono ?_; rintro e w' ⟨rfl, rfl⟩; rw [HKM.out])
      generalize hw2 : wr.setCell ⟨w1.heap.size + 1, 1, none⟩ (.int .i64 k) = w2 at *
      clear hw2 S1 S2 hrow S4 hBw c11 c13 f41 c41 hB h1
      have hsm2 := hsm
      have I2 := T3.ints hsm (fun x hx => by have := modL_bd hM x hx; omega)
      go_cut [13, 14] from 131 (fun v u W => v = .int .i64 h ∧ u = .int .i64 0 ∧ Below w2.heap.size w2 W)
      case first =>
        rename_i hJ hK2
        have HRS := Lib.hid (show ∀ x ∈ modL i xs M ++ [M], -9223372036854775808 ≤ x ∧ x ≤ 9223372036854775807 by
          intro x hx
          rcases List.mem_append.1 hx with h | h
          · have := modL_bd hM x h; omega
          · rw [List.mem_singleton.1 h]; omega)
        have HRG := Lib.hid (show ∀ x ∈ modL i xs M ++ [M], -4611686018427387904 ≤ x ∧ x ≤ 4611686018427387904 by
          intro x hx
          rcases List.mem_append.1 hx with h | h
          · have := modL_bd hM x h; omega
          · rw [List.mem_singleton.1 h]; omega)
        have HMM : ∀ x ∈ [M], -9223372036854775808 ≤ x ∧ x ≤ 9223372036854775807 := fun x hx => by rw [List.mem_singleton.1 hx]; omega
        refine wp_region_plan (by rfl) dvPlan (dvFacts i w.heap.size (w1.heap.size + 1) (some ⟨w1.heap.size, 0, none⟩) i M (modL i xs M) h w2.heap.size) (fun W => Below w2.heap.size w2 W) (by kernel_rfl) rfl (Below.refl _ _).drew ?_ ?_
        case refine_2 =>
          intro a W hS hsz hdf hold hf
          refine hK2 _ _ (Met.intro (hJ _ _ ?_))
          repeat apply Exists.intro
          refine ⟨?_, act_lit (n := 170) dvPlan hsz hdf hold⟩
          exact ⟨hf 12 (by decide) (by decide), hf 13 (by decide) (by decide), hS⟩
        refine ⟨?_, ?_, ?_, ?_, ?_, ?_, ?_, ?_, ?_, ?_, ?_, ?_, ?_, ?_, trivial⟩ <;> intro a W hS hold hn hap hsz0 <;> have hsz : Hid (a.tmps.size = 170) := Lib.hid hsz0 <;> clear hsz0
        · refine step_lit (cs := #[]) rfl rfl (slot_lt hsz (by kernel_rfl)) rfl (by decide) hS.size ?_ (hS.alloc hS.size _)
          go_simp
        · have e2 := getd (hold 10 rfl)
          refine step_val rfl rfl (slot_lt hsz (by kernel_rfl)) ?_ hS
          go_simp
        · obtain ⟨f1, _⟩ := hn
          have e1 := getd (show a.tmps.getD 133 undef = _ from f1)
          have c1 := (T4.below hS T4.lt).c0
          refine step_val rfl rfl (slot_lt hsz (by kernel_rfl)) ?_ hS
          go_simp
        · obtain ⟨f1, f2, _⟩ := hn
          have f1 : W.ownsRow w2.heap.size 3 1 (a.tmps.getD 132 undef) 0 [] := f1
          have f2 : a.tmps.getD 134 undef = _ := f2
          refine step_more rfl rfl (slot_lt hsz (by kernel_rfl)) rfl rfl ?_ (fun w' hg => hS.grown hg hS.size fun k hk => (f1.lt k hk).1)
          obtain ⟨v', w', r1, r2, r3, r4⟩ := append_ints W w2.heap.size 38 _ _ _ f1 _ _ _ _ (I2.step hS) (by omega) hS.size
          exact ⟨v', w', exec_append rfl rfl f2 r1, r2, r3, r4⟩
        · have e2 := getd (hold 1 rfl)
          refine step_val rfl rfl (slot_lt hsz (by kernel_rfl)) ?_ hS
          go_simp
        · obtain ⟨f1, _⟩ := hn
          have e1 := getd (show a.tmps.getD 136 undef = _ from f1)
          have c1 := (T1.below hS T1.lt).c1
          refine step_val rfl rfl (slot_lt hsz (by kernel_rfl)) ?_ hS
          go_simp
        · obtain ⟨f1, _⟩ := hn
          have e1 := getd (show a.tmps.getD 137 undef = _ from f1)
          refine step_lit (cs := #[.int .i64 M]) rfl rfl (slot_lt hsz (by kernel_rfl)) rfl (by decide) hS.size ?_ (hS.alloc hS.size _)
          go_simp
        · obtain ⟨f1, f2, _⟩ := hn
          have f1 : W.ownsRow w2.heap.size 3 1 (a.tmps.getD 135 undef) (0 + i) ([] ++ vals (modL i xs M)) := f1
          have f2 : W.ownsRow w2.heap.size 3 1 (a.tmps.getD 138 undef) 1 (vals [M]) := f2
          obtain ⟨A2, c2, e2, i2⟩ := own_ints f2 (by omega) HMM
          refine step_more rfl rfl (slot_lt hsz (by kernel_rfl)) rfl rfl ?_ (fun w' hg => hS.grown hg hS.size fun k hk => (f1.lt k hk).1)
          obtain ⟨v', w', r1, r2, r3, r4⟩ := append_ints W w2.heap.size 38 _ _ _ f1 _ _ _ _ i2 (by omega) hS.size
          exact ⟨v', w', exec_append rfl rfl e2 r1, r2, r3, r4⟩
        · obtain ⟨f1, _⟩ := hn
          have f1 : W.ownsRow w2.heap.size 3 1 (a.tmps.getD 139 undef) ((0 + i) + 1) (([] ++ vals (modL i xs M)) ++ vals [M]) := f1
          rw [List.nil_append, ← vals_app, Nat.zero_add] at f1
          obtain ⟨A1, c1, e1, i1⟩ := own_ints f1 (by omega) HRS.out
          have e1 := getd e1
          refine step_call (f := 102) (args := #[.slice A1 (i + 1) c1]) rfl rfl (slot_lt hsz (by kernel_rfl)) ?_ ((ref_gcd W _ A1 (i + 1) c1 _ i1).mono ?_)
          · go_simp
          · rintro e w' ⟨rfl, k, rfl⟩
            rw [(gcdVal_A HRG.out).1, (gcdVal_A HRG.out).2, gcdA_rem HL.out, HH.out]
            exact ⟨rfl, hS.trans ((below_of_drewN k).mono hS.size), ⟨rfl, rfl, rfl, Nat.le_refl _, fun _ _ _ => rfl⟩⟩
        · obtain ⟨f1, _⟩ := hn
          have e1 := getd (show a.tmps.getD 140 undef = _ from f1)
          refine step_val rfl rfl (slot_lt hsz (by kernel_rfl)) ?_ hS
          go_simp
        · obtain ⟨f1, _⟩ := hn
          have e1 := getd (show a.tmps.getD 131 undef = _ from f1)
          refine step_val rfl rfl (slot_lt hsz (by kernel_rfl)) ?_ hS
          go_simp
        · obtain ⟨f1, _⟩ := hn
          have e1 := getd (show a.tmps.getD 131 undef = _ from f1)
          refine step_val rfl rfl (slot_lt hsz (by kernel_rfl)) ?_ hS
          go_simp
        · obtain ⟨f1, _⟩ := hn
          have e1 := getd (show a.tmps.getD 141 undef = _ from f1)
          refine step_val rfl rfl (slot_lt hsz (by kernel_rfl)) ?_ hS
          go_simp
        · obtain ⟨f1, _⟩ := hn
          have e1 := getd (show a.tmps.getD 142 undef = _ from f1)
          refine step_val rfl rfl (slot_lt hsz (by kernel_rfl)) ?_ hS
          go_simp
      case rest =>
        obtain ⟨rfl, rfl, hbc⟩ := hcut
        have hr : r = (if k % (h : Int) ≠ 0 then (0, 0, [], 0, -1) else if (h : Int) = M then (0, 0, [], 0, 1) else (2, M / (h : Int), remL i xs M h, k / (h : Int), 0)) := by
          rw [← HR.out]; unfold nf; rw [if_neg (by decide), if_neg (by decide), HKM.out, HH.out]
        have hBc := below_step hB2 hbc
        replace I2 := I2.step hbc
        replace T1 := T1.step hbc
        replace T2 := T2.step hbc
        replace T4 := T4.step hbc
        have c11 := T1.c1
        have c41 := T4.c1
        have l4 := T4.lt
        have l12 := T2.lt
        have hh0 : ((h : Int) == 0) = false := by simp; omega
        have hhn : (h : Int) ≠ 0 := by omega
        have hhN : h ≠ 0 := by omega
        have hhi : (h : Int) ≤ 512 := by omega
        have hs3 : ∀ (b : Int) W', CBox W' (w.heap.size + 1) 0 0 none 0 0 0 → True := fun _ _ _ => trivial
        clear T3 hbc hW hB2 hs3 hhM
        by_cases g1 : k % (h : Int) = 0
        · rw [if_neg (by simpa using g1)] at hr
          by_cases g2 : (h : Int) = M
          · rw [if_pos g2] at hr
            subst hr
            have q3 : (M == (h : Int)) = true := by rw [g2]; simp
            clear g2
            go_wp2_with (go_at_call 103; refine (ref_truth _ _).mono ?_; rintro e w3 ⟨rfl, hb⟩; replace hBc := below_step hBc hb; replace T2 := T2.step hb; have d0 := T2.c0; have d1 := T2.c1; have d2 := T2.c2; have d3 := T2.c3; have f0 := T2.f 0; have f1 := T2.f 1; have f2 := T2.f 2; have f3 := T2.f 3; obtain ⟨e0, e1, e2, e3⟩ := T2.four 0 0 none 0 0 0)
            refine bodyPost_ret (v := .tuple #[condV 0 0 none 0 0 0, .int .i64 1]) (by simp [results, Tryz.results81, go_sem, e0, e1, e2, e3]) rfl ?_
            exact ⟨none, 0, 0, rfl, ints_nil _ _, below_store4 hBc (by omega) _ _ _ _, .inl rfl⟩
          · rw [if_neg g2] at hr
            subst hr
            have q3 : (M == (h : Int)) = false := by simpa using fun e => g2 e.symm
            have hhI : 1 ≤ (h : Int) := by omega
            have HO := Lib.hid (fun W (hh : IntsAt W (some ⟨w1.heap.size, 0, none⟩) i (modL i xs M)) => ref_over (some ⟨w1.heap.size, 0, none⟩) i i k (modL i xs M) (h : Int) (k / (h : Int)) hhn (by omega) (fun x hx => by have := modL_bd hM x hx; omega) W hh)
            rw [quo_modL i xs M h hM.1] at HO
            have HW := Lib.hid (show ∀ z ∈ remL i xs M h, -9223372036854775808 ≤ z ∧ z ≤ 9223372036854775807 by
              intro z hz
              obtain ⟨j, _, rfl⟩ := List.mem_map.1 hz
              have m0 := Int.emod_nonneg (xs[j]?.getD 0) (show M ≠ 0 by omega)
              have m1 := Int.emod_lt_of_pos (xs[j]?.getD 0) (show 0 < M by omega)
              have m2 := Int.ediv_nonneg m0 (show (0 : Int) ≤ h by omega)
              have m3 := Int.ediv_le_self (h : Int) m0
              omega)
            have hMd : 0 ≤ M / (h : Int) ∧ M / (h : Int) ≤ 512 := ⟨Int.ediv_nonneg (by omega) (by omega), Int.le_trans (Int.ediv_le_self _ (by omega)) (by omega)⟩
            have hkd : 0 ≤ k / (h : Int) ∧ k / (h : Int) ≤ 512 := ⟨Int.ediv_nonneg hk0 (by omega), Int.le_trans (Int.ediv_le_self _ hk0) (by omega)⟩
            have hM0 : 0 ≤ M := by omega
            have hw1 : IntKind.i64.wrap (M.tdiv (h : Int)) = M / (h : Int) := by rw [Int.tdiv_eq_ediv_of_nonneg hM0]; exact IntWalk.i64_in _ (by omega)
            have hw2 : IntKind.i64.wrap (k.tdiv (h : Int)) = k / (h : Int) := by rw [Int.tdiv_eq_ediv_of_nonneg hk0]; exact IntWalk.i64_in _ (by omega)
            have c40 := T4.c0
            have HX2 := Lib.hid (And.intro hMd hkd)
            clear hM0 g2 hMd hkd
            replace hBc := hBc.drew
            replace I2 := I2.step (Below.refl _ wc).drew
            replace T1 := T1.step (Below.refl _ wc).drew
            replace T2 := T2.step (Below.refl _ wc).drew
            replace T4 := T4.step (Below.refl _ wc).drew
            have l21 := T1.lt
            have n1 : w.heap.size ≠ w.heap.size + 1 := by omega
            have n2 : w1.heap.size ≠ w.heap.size := by omega
            go_wp2
            go_region_held3 (fun W => W.cell? ⟨w.heap.size, 1, none⟩ = some (.int .i64 M) ∧ W.cell? ⟨w1.heap.size + 1, 0, none⟩ = some (.slice (some ⟨w1.heap.size, 0, none⟩) i i) ∧ W.cell? ⟨w1.heap.size + 1, 1, none⟩ = some (.int .i64 k)) (first | exact ⟨k0, k1, k2⟩ | exact ⟨c11, c40, c41⟩ | exact ⟨keep4 k0 (show w.heap.size ≠ w.heap.size + 1 by omega), keep4 k1 (show w1.heap.size + 1 ≠ w.heap.size + 1 by omega), keep4 k2 (show w1.heap.size + 1 ≠ w.heap.size + 1 by omega)⟩ | go_keep)
              (first
                | (go_at_call 105; refine (HO.out _ I2).mono ?_; rintro e w3 ⟨g5, rfl, hg5, O5, hb⟩; have hsz3 := hb.size; replace hBc := below_step hBc hb; replace T1 := T1.step hb; replace T2 := T2.step hb; replace T4 := T4.step hb; have k0 := T1.c1; have k1 := T4.c0; have k2 := T4.c1; have d0 := T2.c0; have d1 := T2.c1; have d2 := T2.c2; have d3 := T2.c3; have f0 := T2.f 0; have f1 := T2.f 1; have f2 := T2.f 2; have f3 := T2.f 3; obtain ⟨e0, e1, e2, e3⟩ := T2.four 2 (M / (h : Int)) (some ⟨g5, 0, none⟩) i i (k / (h : Int))))
            all_goals
              go_wp2
              refine bodyPost_ret (v := .tuple #[condV 2 (M / (h : Int)) (some ⟨g5, 0, none⟩) i i (k / (h : Int)), .int .i64 0]) (by simp [results, Tryz.results81, go_sem, e0, e1, e2, e3]) rfl ?_
              have hg6 : wc.heap.size ≤ g5 := hg5
              have R := O5.store4 (b := w.heap.size + 1) (by omega) (.int .i64 2) (.int .i64 (M / (h : Int))) (.slice (some ⟨g5, 0, none⟩) i i) (.int .i64 (k / (h : Int)))
              exact ⟨some ⟨g5, 0, none⟩, i, i, rfl, R.ints hsm HW.out, below_store4 hBc (by omega) _ _ _ _, .inr ⟨g5, rfl, by omega, R⟩⟩
        · rw [if_pos g1] at hr
          subst hr
          have q1 : (k % (h : Int) != 0) = true := by simpa using g1
          have q2 : (k % (h : Int) == 0) = false := by simpa using g1
          clear g1
          go_wp2_with (go_at_call 103; refine (ref_truth _ _).mono ?_; rintro e w3 ⟨rfl, hb⟩; replace hBc := below_step hBc hb; replace T2 := T2.step hb; have d0 := T2.c0; have d1 := T2.c1; have d2 := T2.c2; have d3 := T2.c3; have f0 := T2.f 0; have f1 := T2.f 1; have f2 := T2.f 2; have f3 := T2.f 3; obtain ⟨e0, e1, e2, e3⟩ := T2.four 0 0 none 0 0 0)
          refine bodyPost_ret (v := .tuple #[condV 0 0 none 0 0 0, .int .i64 (-1)]) (by simp [results, Tryz.results81, go_sem, e0, e1, e2, e3]) rfl ?_
          exact ⟨none, 0, 0, rfl, ints_nil _ _, below_store4 hBc (by omega) _ _ _ _, .inl rfl⟩
end Go.Proofs.YtkgnlloioaobiaaGreat
namespace Go.Proofs.YtkgnlloioaobiaaGreat
open Go.RowKit
theorem ref_made (q M : Int) (A : Option Addr) (n c : Nat) (hn : n ≤ 1000000) (K : Int) (xs : List Int) (hq : KindOk q M) (hK : -4611686018427387904 ≤ K ∧ K ≤ 4611686018427387904) (hx : ∀ x ∈ xs, -4611686018427387904 ≤ x ∧ x ≤ 4611686018427387904) (w : World) (hI : IntsAt w A n xs) :
    Calls Tryz.prog 81 #[condV q M A n c K] w fun e w' => NfRet w e w' (nf q M n xs K) := by
  rcases hq with rfl | rfl | ⟨rfl, hM⟩
  · unfold nf
    rw [if_pos rfl]
    by_cases h0 : gcdA 0 xs = 0
    · rw [if_pos h0]; exact made_zero_ge M A n c K xs hx w hI h0
    · rw [if_neg h0]; exact made_open_ge M A n c K xs hK hx w hI h0
  · unfold nf
    rw [if_neg (by decide), if_pos rfl]
    by_cases h0 : gcdA 0 xs = 0
    · rw [if_pos h0]; exact made_zero_eq M A n c K xs hx w hI h0
    · rw [if_neg h0]
      by_cases h1 : K.tmod (gcdA 0 xs : Nat) = 0
      · rw [if_neg (by simpa using h1)]; exact made_open_eq M A n c K xs hK hx w hI h0 h1
      · rw [if_pos h1]; exact made_never_eq M A n c K xs hK hx w hI h0 h1
  · exact made_dv M A n c hn K xs hM hK hx w hI
end Go.Proofs.YtkgnlloioaobiaaGreat
namespace Go.Proofs.YtkgnlloioaobiaaGreat
open Go.RowKit
structure Three (n N : Nat) (W : World) (outs : List CD) (u6 u7 u8 : Value) (G E V : List CEl) : Prop where
  g : CL2 N N W u6 G
  e : CL2 N N W u7 E
  v : CL2 N N W u8 V
  gd : G.map CEl.d = outs.filter fun d => d.q == 0
  ed : E.map CEl.d = outs.filter fun d => d.q == 1
  vd : V.map CEl.d = outs.filter fun d => d.q == 2
  ge : RowsApart u6 u7
  gv : RowsApart u6 u8
  ev : RowsApart u7 u8
  gn : ∀ x ∈ G, x.n = n
  en : ∀ x ∈ E, x.n = n
  vn : ∀ x ∈ V, x.n = n
section
variable {n N : Nat} {W W' : World} {outs : List CD} {u6 u7 u8 : Value} {G E V : List CEl}
theorem Three.nil (n N : Nat) (W : World) : Three n N W [] (.slice none 0 0) (.slice none 0 0) (.slice none 0 0) [] [] [] :=
  ⟨CL2.nil _ _ _, CL2.nil _ _ _, CL2.nil _ _ _, rfl, rfl, rfl, RowsApart.nil _, RowsApart.nil _, RowsApart.nil _, (fun x h => nomatch h), (fun x h => nomatch h), (fun x h => nomatch h)⟩
theorem Three.step (h : Three n N W outs u6 u7 u8 G E V) (hb : Below W.heap.size W W') : Three n N W' outs u6 u7 u8 G E V :=
  ⟨h.g.step hb, h.e.step hb, h.v.step hb, h.gd, h.ed, h.vd, h.ge, h.gv, h.ev, h.gn, h.en, h.vn⟩
theorem Three.few (h : Three n N W outs u6 u7 u8 G E V) : G.length ≤ outs.length ∧ E.length ≤ outs.length ∧ V.length ≤ outs.length := by
  refine ⟨?_, ?_, ?_⟩
  · rw [← List.length_map (f := CEl.d), h.gd]; exact List.length_filter_le ..
  · rw [← List.length_map (f := CEl.d), h.ed]; exact List.length_filter_le ..
  · rw [← List.length_map (f := CEl.d), h.vd]; exact List.length_filter_le ..
theorem Three.addG (h : Three n N W outs u6 u7 u8 G E V) {x : CEl} {g k c : Nat} (hx : x.d.q = 0) (hn : x.n = n) (hL : CL2 N N W' (.slice (some ⟨g, 0, none⟩) k c) (G ++ [x])) (hg : W.grownBy W' u6.ownBlock) (hf : u6.ownBlock = some g ∨ g = W.heap.size) :
    Three n N W' (outs ++ [x.d]) (.slice (some ⟨g, 0, none⟩) k c) u7 u8 (G ++ [x]) E V := by
  refine ⟨hL, h.e.others h.g hg h.ge, h.v.others h.g hg h.gv, ?_, ?_, ?_, h.ge.grown h.e rfl hf, h.gv.grown h.v rfl hf, h.ev, fun y hy => ?_, h.en, h.vn⟩
  · rw [List.map_append, List.filter_append, h.gd]; simp [hx]
  · rw [List.filter_append, h.ed]; simp [hx]
  · rw [List.filter_append, h.vd]; simp [hx]
  · rcases List.mem_append.1 hy with hy | hy
    · exact h.gn y hy
    · rw [List.mem_singleton.1 hy]; exact hn
theorem Three.addE (h : Three n N W outs u6 u7 u8 G E V) {x : CEl} {g k c : Nat} (hx : x.d.q = 1) (hn : x.n = n) (hL : CL2 N N W' (.slice (some ⟨g, 0, none⟩) k c) (E ++ [x])) (hg : W.grownBy W' u7.ownBlock) (hf : u7.ownBlock = some g ∨ g = W.heap.size) :
    Three n N W' (outs ++ [x.d]) u6 (.slice (some ⟨g, 0, none⟩) k c) u8 G (E ++ [x]) V := by
  refine ⟨h.g.others h.e hg h.ge.symm, hL, h.v.others h.e hg h.ev, ?_, ?_, ?_, (h.ge.symm.grown h.g rfl hf).symm, h.gv, h.ev.grown h.v rfl hf, h.gn, fun y hy => ?_, h.vn⟩
  · rw [List.filter_append, h.gd]; simp [hx]
  · rw [List.map_append, List.filter_append, h.ed]; simp [hx]
  · rw [List.filter_append, h.vd]; simp [hx]
  · rcases List.mem_append.1 hy with hy | hy
    · exact h.en y hy
    · rw [List.mem_singleton.1 hy]; exact hn
theorem Three.addV (h : Three n N W outs u6 u7 u8 G E V) {x : CEl} {g k c : Nat} (hx : x.d.q = 2) (hn : x.n = n) (hL : CL2 N N W' (.slice (some ⟨g, 0, none⟩) k c) (V ++ [x])) (hg : W.grownBy W' u8.ownBlock) (hf : u8.ownBlock = some g ∨ g = W.heap.size) :
    Three n N W' (outs ++ [x.d]) u6 u7 (.slice (some ⟨g, 0, none⟩) k c) G E (V ++ [x]) := by
  refine ⟨h.g.others h.v hg h.gv.symm, h.e.others h.v hg h.ev.symm, hL, ?_, ?_, ?_, h.ge, (h.gv.symm.grown h.g rfl hf).symm, (h.ev.symm.grown h.e rfl hf).symm, h.gn, h.en, fun y hy => ?_⟩
  · rw [List.filter_append, h.gd]; simp [hx]
  · rw [List.filter_append, h.ed]; simp [hx]
  · rw [List.map_append, List.filter_append, h.vd]; simp [hx]
  · rcases List.mem_append.1 hy with hy | hy
    · exact h.vn y hy
    · rw [List.mem_singleton.1 hy]; exact hn
end
theorem open_snoc {n i : Nat} {ds : List CD} {d : CD} (h : ds[i]? = some d) : normOut n (ds.take (i + 1)) = normOut n (ds.take i) ++ openD n d := flat_snoc (openD n) h
theorem open_zero {n : Nat} {d : CD} (h : (nf d.q d.M n d.xs d.K).2.2.2.2 = 0) : openD n d = [⟨(nf d.q d.M n d.xs d.K).1, (nf d.q d.M n d.xs d.K).2.1, (nf d.q d.M n d.xs d.K).2.2.1, (nf d.q d.M n d.xs d.K).2.2.2.1⟩] := if_pos h
theorem open_not {n : Nat} {d : CD} (h : (nf d.q d.M n d.xs d.K).2.2.2.2 ≠ 0) : openD n d = [] := if_neg h
theorem void_at {n i : Nat} {ds : List CD} {d : CD} (h : ds[i]? = some d) (hs : (nf d.q d.M n d.xs d.K).2.2.2.2 = -1) : normVoid n ds = true := by
  unfold normVoid
  rw [List.any_eq_true]
  exact ⟨d, List.mem_of_getElem? h, decide_eq_true hs⟩
theorem void_snoc {n i : Nat} {ds : List CD} {d : CD} (h : ds[i]? = some d) (h0 : normVoid n (ds.take i) = false) (hs : (nf d.q d.M n d.xs d.K).2.2.2.2 ≠ -1) : normVoid n (ds.take (i + 1)) = false := by
  unfold normVoid at h0 ⊢
  rw [List.take_add_one, h, List.any_append, h0]
  simp only [Option.toList, List.any_cons, List.any_nil, Bool.or_false, Bool.false_or]
  exact decide_eq_false hs
theorem fits_snoc3 {n i : Nat} {ds : List CD} {d : CD} (h : ds[i]? = some d) : normFits n (ds.take (i + 1)) = (normFits n (ds.take i) && (openD n d).all fitD) := by
  unfold normFits
  rw [open_snoc h, List.all_append]
end Go.Proofs.YtkgnlloioaobiaaGreat
namespace Go.Proofs.YtkgnlloioaobiaaGreat
open Go.RowKit
def lowF (d a : CD) : CD := if a.xs = d.xs then ⟨a.q, a.M, a.xs, min a.K d.K⟩ else a
def lowS (L : List CD) (d : CD) : List CD := if L.any (fun a => a.xs == d.xs) then L.map (lowF d) else L ++ [d]
theorem lowF_xs (d a : CD) : (lowF d a).xs = a.xs := by unfold lowF; split <;> rfl
theorem lowF_K (d a : CD) : (lowF d a).K ≤ a.K := by
  unfold lowF
  split
  · show min a.K d.K ≤ a.K; omega
  · exact Int.le_refl _
structure LeastG (done L : List CD) : Prop where
  mem : ∀ a ∈ L, a ∈ done
  cov : ∀ c ∈ done, ∃ a ∈ L, a.xs = c.xs ∧ a.K ≤ c.K
  one : L.Pairwise fun a b => a.xs ≠ b.xs
theorem LeastG.nil : LeastG [] [] := ⟨(fun a h => nomatch h), (fun c h => nomatch h), List.Pairwise.nil⟩
theorem LeastG.step {done L : List CD} {d : CD} (h : LeastG done L) (hq : ∀ a ∈ done ++ [d], a.q = 0 ∧ a.M = 0) : LeastG (done ++ [d]) (lowS L d) := by
  have hd := hq d (by simp)
  unfold lowS
  by_cases h9 : L.any (fun a => a.xs == d.xs) = true
  · rw [if_pos h9]
    refine ⟨fun x hx => ?_, fun c hc => ?_, ?_⟩
    · obtain ⟨a, ha, rfl⟩ := List.mem_map.1 hx
      have hda := h.mem a ha
      have h0 := hq a (by simp [hda])
      unfold lowF
      by_cases he : a.xs = d.xs
      · rw [if_pos he]
        by_cases hK : a.K ≤ d.K
        · rw [show min a.K d.K = a.K by omega]
          exact List.mem_append_left _ hda
        · rw [show min a.K d.K = d.K by omega]
          refine List.mem_append_right _ (List.mem_singleton.2 ?_)
          obtain ⟨q, M, xs, K⟩ := a
          obtain ⟨q', M', xs', K'⟩ := d
          simp only at hd h0 he
          rw [h0.1, h0.2, hd.1, hd.2, he]
      · rw [if_neg he]
        exact List.mem_append_left _ hda
    · rcases List.mem_append.1 hc with hc | hc
      · obtain ⟨a, ha, hx, hK⟩ := h.cov c hc
        exact ⟨_, List.mem_map_of_mem ha, (lowF_xs d a).trans hx, Int.le_trans (lowF_K d a) hK⟩
      · have hc := List.mem_singleton.1 hc
        subst hc
        obtain ⟨a, ha, hx⟩ := List.any_eq_true.1 h9
        have hx : a.xs = c.xs := by simpa using hx
        refine ⟨_, List.mem_map_of_mem ha, (lowF_xs c a).trans hx, ?_⟩
        unfold lowF
        rw [if_pos hx]
        show min a.K c.K ≤ c.K
        omega
    · rw [List.pairwise_map]
      exact h.one.imp fun hab => by rw [lowF_xs, lowF_xs]; exact hab
  · rw [if_neg h9]
    refine ⟨fun x hx => ?_, fun c hc => ?_, ?_⟩
    · rcases List.mem_append.1 hx with hx | hx
      · exact List.mem_append_left _ (h.mem x hx)
      · exact List.mem_append_right _ hx
    · rcases List.mem_append.1 hc with hc | hc
      · obtain ⟨a, ha, hx, hK⟩ := h.cov c hc
        exact ⟨a, List.mem_append_left _ ha, hx, hK⟩
      · exact ⟨c, List.mem_append_right _ hc, rfl, Int.le_refl _⟩
    · refine List.pairwise_append.2 ⟨h.one, List.pairwise_singleton _ _, fun a ha b hb hx => h9 ?_⟩
      have hb := List.mem_singleton.1 hb
      subst hb
      exact List.any_eq_true.2 ⟨a, ha, by simpa using hx⟩
theorem least_take {G : List CD} (hq : ∀ a ∈ G, a.q = 0 ∧ a.M = 0) : ∀ i : Nat, LeastG (G.take i) ((G.take i).foldl lowS [])
  | 0 => by simpa using LeastG.nil
  | i + 1 => by
    by_cases hi : i < G.length
    · rw [List.take_succ_eq_append_getElem hi, List.foldl_append]
      refine (least_take hq i).step fun a ha => hq a ?_
      rw [← List.take_succ_eq_append_getElem hi] at ha
      exact List.mem_of_mem_take ha
    · have h := least_take hq i
      rw [List.take_of_length_le (by omega)] at h ⊢
      exact h
theorem low_snoc {G : List CD} {i : Nat} {d : CD} (hi : G[i]? = some d) : (G.take (i + 1)).foldl lowS [] = lowS ((G.take i).foldl lowS []) d := by
  obtain ⟨h, rfl⟩ := List.getElem?_eq_some_iff.1 hi
  rw [List.take_succ_eq_append_getElem h, List.foldl_append]
  rfl
theorem LeastG.of {outs L : List CD} (h : LeastG (outs.filter fun d => d.q == 0) L) : LeastOf outs L := by
  refine ⟨fun a ha => ?_, fun c hc hq => h.cov c (List.mem_filter.2 ⟨hc, by simp [hq]⟩), fun i j a b ha hb hx => ?_⟩
  · have := List.mem_filter.1 (h.mem a ha)
    exact ⟨this.1, by simpa using this.2⟩
  · obtain ⟨hi, e1⟩ := List.getElem?_eq_some_iff.1 ha
    obtain ⟨hj, e2⟩ := List.getElem?_eq_some_iff.1 hb
    have key := List.pairwise_iff_getElem.1 h.one
    rcases Nat.lt_trichotomy i j with hlt | heq | hlt
    · exact absurd (by rw [e1, e2]; exact hx) (key i j hi hj hlt)
    · exact heq
    · exact absurd (by rw [e1, e2]; exact hx.symm) (key j i hj hi hlt)
def lowAt (L : List CD) (d : CD) (j : Nat) : List CD := (L.take j).map (lowF d) ++ L.drop j
theorem lowAt_get {L : List CD} {d a : CD} {j : Nat} (h : L[j]? = some a) : (lowAt L d j)[j]? = some a := by
  obtain ⟨hj, rfl⟩ := List.getElem?_eq_some_iff.1 h
  unfold lowAt
  rw [List.getElem?_append_right (by rw [List.length_map, List.length_take]; omega), List.length_map, List.length_take, List.getElem?_drop]
  rw [show j + (j - min j L.length) = j by omega, h]
theorem lowAt_set {L : List CD} {d a : CD} {j : Nat} (h : L[j]? = some a) : lowAt L d (j + 1) = (lowAt L d j).set j (lowF d a) := by
  obtain ⟨hj, rfl⟩ := List.getElem?_eq_some_iff.1 h
  unfold lowAt
  rw [List.take_succ_eq_append_getElem hj, List.map_append, List.drop_eq_getElem_cons (show j < L.length from hj)]
  rw [List.set_append_right _ _ (by rw [List.length_map, List.length_take]; omega), List.length_map, List.length_take, show j - min j L.length = 0 by omega]
  rw [List.append_assoc]
  congr 1
theorem lowAt_skip {L : List CD} {d a : CD} {j : Nat} (h : L[j]? = some a) (hx : a.xs ≠ d.xs) : lowAt L d (j + 1) = lowAt L d j := by
  rw [lowAt_set h, show lowF d a = a by unfold lowF; rw [if_neg hx]]
  refine List.ext_getElem? fun k => ?_
  rw [List.getElem?_set]
  split
  · rename_i hk
    subst hk
    rw [lowAt_get h]
    split
    · rfl
    · rename_i hl
      have := (List.getElem?_eq_some_iff.1 (lowAt_get (d := d) h)).1
      exact absurd this hl
  · rfl
theorem lowAt_end (L : List CD) (d : CD) : lowS L d = if L.any (fun a => a.xs == d.xs) then lowAt L d L.length else lowAt L d L.length ++ [d] := by
  unfold lowS lowAt
  rw [List.take_length, List.drop_length, List.append_nil]
  split
  · rfl
  · rename_i h
    have : L.map (lowF d) = L := by
      conv => rhs; rw [← List.map_id L]
      refine List.map_congr_left fun a ha => ?_
      unfold lowF
      rw [if_neg fun hx => h (List.any_eq_true.2 ⟨a, ha, by simpa using hx⟩)]
      rfl
    rw [this]
theorem any_snoc {L : List CD} {d a : CD} {j : Nat} (h : L[j]? = some a) : (L.take (j + 1)).any (fun a => a.xs == d.xs) = ((L.take j).any (fun a => a.xs == d.xs) || (a.xs == d.xs)) := by
  obtain ⟨hj, rfl⟩ := List.getElem?_eq_some_iff.1 h
  rw [List.take_succ_eq_append_getElem hj, List.any_append]
  simp
end Go.Proofs.YtkgnlloioaobiaaGreat
namespace Go.Proofs.YtkgnlloioaobiaaGreat
open Go.RowKit
def eqOf (d : CD) : CD := ⟨1, 0, sgnL (signI d.xs) d.xs, signI d.xs * d.K⟩
theorem sgn_one (xs : List Int) : sgnL 1 xs = xs := by unfold sgnL; simp
theorem quoL_one {n : Nat} {xs : List Int} (hl : xs.length = n) : quoL n xs 1 = xs := by
  unfold quoL
  refine List.ext_getElem (by simp [hl]) fun j h1 h2 => ?_
  simp [h2]
theorem quoL_neg {n : Nat} {xs : List Int} (hl : xs.length = n) : quoL n xs (-1) = sgnL (-1) xs := by
  unfold quoL sgnL
  refine List.ext_getElem (by simp [hl]) fun j h1 h2 => ?_
  have h3 : j < xs.length := by simpa using h2
  simp [h3]
theorem nf_unit {n : Nat} {xs : List Int} {K : Int} (hl : xs.length = n) (hg : gcdA 0 xs = 1) : nf 1 0 n xs K = (1, 0, sgnL (signI xs) xs, signI xs * K, 0) := by
  unfold nf
  rw [if_neg (by decide), if_pos rfl, if_neg (by rw [hg]; decide), hg, if_neg (by simp)]
  unfold leadBy signI
  split
  · rw [show (-((1 : Nat) : Int)) = -1 from rfl, quoL_neg hl, Int.tdiv_neg]
    simp
  · rw [show ((1 : Nat) : Int) = 1 from rfl, quoL_one hl, sgn_one]
    simp
theorem lead_ne_neg {xs : List Int} (h : leadI xs ≠ 0) : sgnL (-1) xs ≠ xs := fun he => by
  have := lead_neg xs
  rw [he] at this
  omega
def OppAt (L : List CD) (i j : Nat) (a b : CD) : Prop := i < j ∧ L[i]? = some a ∧ L[j]? = some b ∧ b.xs = sgnL (-1) a.xs
theorem opp_places {L : List CD} (hl : ∀ d ∈ L, leadI d.xs ≠ 0) {d e : CD} (hd : d ∈ L) (he : e ∈ L) (hx : e.xs = sgnL (-1) d.xs) : ∃ i j a b, OppAt L i j a b ∧ a.K + b.K = d.K + e.K ∧ ((a = d ∧ b = e) ∨ (a = e ∧ b = d)) := by
  obtain ⟨i, hi, e1⟩ := List.getElem_of_mem hd
  obtain ⟨j, hj, e2⟩ := List.getElem_of_mem he
  have g1 : L[i]? = some d := by rw [List.getElem?_eq_getElem hi, e1]
  have g2 : L[j]? = some e := by rw [List.getElem?_eq_getElem hj, e2]
  rcases Nat.lt_trichotomy i j with h | h | h
  · exact ⟨i, j, d, e, ⟨h, g1, g2, hx⟩, rfl, .inl ⟨rfl, rfl⟩⟩
  · subst h
    rw [g1] at g2
    cases g2
    exact absurd hx.symm (lead_ne_neg (hl d hd))
  · exact ⟨j, i, e, d, ⟨h, g2, g1, by rw [hx, sgn_sgn]⟩, by omega, .inr ⟨rfl, rfl⟩⟩
theorem va_places {L : List CD} (hl : ∀ d ∈ L, leadI d.xs ≠ 0) : VA L ↔ ∃ i j a b, OppAt L i j a b ∧ a.K + b.K < 0 := by
  constructor
  · rintro ⟨d, hd, e, he, hx, h0⟩
    obtain ⟨i, j, a, b, h, hK, _⟩ := opp_places hl hd he hx
    exact ⟨i, j, a, b, h, by omega⟩
  · rintro ⟨i, j, a, b, ⟨_, h1, h2, hx⟩, h0⟩
    exact ⟨a, List.mem_of_getElem? h1, b, List.mem_of_getElem? h2, hx, h0⟩
theorem tight_places {L : List CD} (hl : ∀ d ∈ L, leadI d.xs ≠ 0) (t : CD) : TightP L t ↔ ∃ i j a b, OppAt L i j a b ∧ a.K + b.K = 0 ∧ t = eqOf a := by
  constructor
  · rintro ⟨d, hd, ⟨e, he, hx, h0⟩, hp, rfl⟩
    obtain ⟨i, j, a, b, h, hK, hab⟩ := opp_places hl hd he hx
    refine ⟨i, j, a, b, h, by omega, ?_⟩
    rcases hab with ⟨rfl, rfl⟩ | ⟨rfl, rfl⟩
    · unfold eqOf signI
      rw [if_neg (by omega), sgn_one, Int.one_mul]
    · unfold eqOf signI
      rw [if_pos (by rw [hx, lead_neg]; omega), hx, sgn_sgn, show (-1 : Int) * a.K = b.K by omega]
  · rintro ⟨i, j, a, b, ⟨_, h1, h2, hx⟩, h0, rfl⟩
    have ha := List.mem_of_getElem? h1
    have hb := List.mem_of_getElem? h2
    have hne := hl a ha
    by_cases hp : leadI a.xs < 0
    · refine ⟨b, hb, ⟨a, ha, by rw [hx, sgn_sgn], by omega⟩, by rw [hx, lead_neg]; omega, ?_⟩
      unfold eqOf signI
      rw [if_pos hp, hx, show (-1 : Int) * a.K = b.K by omega]
    · refine ⟨a, ha, ⟨b, hb, hx, h0⟩, by omega, ?_⟩
      unfold eqOf signI
      rw [if_neg hp, sgn_one, Int.one_mul]
theorem gone_places {L : List CD} (hl : ∀ d ∈ L, leadI d.xs ≠ 0) (h1 : L.Pairwise fun a b => a.xs ≠ b.xs) {k : Nat} {d : CD} (hk : L[k]? = some d) : GoneP L d ↔ ∃ i j a b, OppAt L i j a b ∧ a.K + b.K = 0 ∧ (k = i ∨ k = j) := by
  have hone : ∀ {i j : Nat} {a b : CD}, L[i]? = some a → L[j]? = some b → a.xs = b.xs → i = j := fun {i j a b} ha hb hx => by
    obtain ⟨hi, e1⟩ := List.getElem?_eq_some_iff.1 ha
    obtain ⟨hj, e2⟩ := List.getElem?_eq_some_iff.1 hb
    have key := List.pairwise_iff_getElem.1 h1
    rcases Nat.lt_trichotomy i j with hlt | heq | hlt
    · exact absurd (by rw [e1, e2]; exact hx) (key i j hi hj hlt)
    · exact heq
    · exact absurd (by rw [e1, e2]; exact hx.symm) (key j i hj hi hlt)
  constructor
  · rintro ⟨e, he, hx, h0⟩
    obtain ⟨i, j, a, b, h, hK, hab⟩ := opp_places hl (List.mem_of_getElem? hk) he hx
    refine ⟨i, j, a, b, h, by omega, ?_⟩
    rcases hab with ⟨rfl, rfl⟩ | ⟨rfl, rfl⟩
    · exact .inl (hone hk h.2.1 rfl)
    · exact .inr (hone hk h.2.2.1 rfl)
  · rintro ⟨i, j, a, b, ⟨_, g1, g2, hx⟩, h0, rfl | rfl⟩
    · rw [hk] at g1; cases g1
      exact ⟨b, List.mem_of_getElem? g2, hx, h0⟩
    · rw [hk] at g2; cases g2
      exact ⟨a, List.mem_of_getElem? g1, by rw [hx, sgn_sgn], by omega⟩
end Go.Proofs.YtkgnlloioaobiaaGreat
namespace Go.Proofs.YtkgnlloioaobiaaGreat
open Go.RowKit
def CEl.withK (e : CEl) (k : Int) : CEl := ⟨e.q, e.M, e.A, e.n, e.c, k, e.xs⟩
theorem grown_set (W : World) (a : Addr) (v : Value) : W.grownBy (W.setCell a v) (some a.block) :=
  ⟨rfl, rfl, rfl, by simp [World.setCell], fun k _ hk => Below.heap_setCell _ _ _ k (fun e => hk (by rw [e]))⟩
theorem ccells_setK : ∀ (l : List CEl) (j : Nat) (e : CEl) (k : Int), l[j]? = some e → ccells (l.set j (e.withK k)) = (ccells l).set (j * 4 + 3) (.int .i64 k)
  | [], j, e, k, h => by simp at h
  | x :: l, 0, e, k, h => by simp at h; subst h; rfl
  | x :: l, j + 1, e, k, h => by
    have ih := ccells_setK l j e k (by simpa using h)
    rw [show (j + 1) * 4 + 3 = j * 4 + 3 + 1 + 1 + 1 + 1 by omega]
    simp only [List.set_cons_succ, ccells, CEl.cells, List.cons_append, List.nil_append, ih]
theorem CL2.own_at {N0 N : Nat} {W : World} {u : Value} {els : List CEl} (h : CL2 N0 N W u els) {j : Nat} (hj : j < els.length) : ∃ g c, u = .slice (some ⟨g, 0, none⟩) els.length c ∧ N ≤ g := by
  rcases h.own.2 with ⟨_, h0⟩ | ⟨g, cap, cur, rfl, hg, _⟩
  · omega
  · exact ⟨g, cap, rfl, hg⟩
theorem CL2.setK {N0 N : Nat} {W : World} {g m c : Nat} {els : List CEl} (h : CL2 N0 N W (.slice (some ⟨g, 0, none⟩) m c) els) {j : Nat} {e : CEl} (he : els[j]? = some e) (k : Int) :
    CL2 N0 N (W.setCell ⟨g, j * 4 + 3, none⟩ (.int .i64 k)) (.slice (some ⟨g, 0, none⟩) m c) (els.set j (e.withK k)) := by
  have hgr := grown_set W ⟨g, j * 4 + 3, none⟩ (.int .i64 k)
  have hty : ∀ r, some g = some r → ∃ cur fr, W.heap[r]? = some (.cells cur 56 fr) := fun r hr => h.typed r (by rw [← hr]; rfl)
  have hj := (List.getElem?_eq_some_iff.1 he).1
  have hmem : ∀ x ∈ els.set j (e.withK k), ∃ y ∈ els, x.A = y.A ∧ x.n = y.n ∧ x.xs = y.xs := fun x hx => by
    rcases List.mem_or_eq_of_mem_set hx with hx | rfl
    · exact ⟨x, hx, rfl, rfl, rfl⟩
    · exact ⟨e, List.mem_of_getElem? he, rfl, rfl, rfl⟩
  refine ⟨⟨by rw [ccells_len], ?_⟩, by rw [List.length_set]; exact h.few, fun x hx => ?_, fun x hx => ?_⟩
  · rcases h.own.2 with ⟨hv, h0⟩ | ⟨g', cap, cur, hv, hN, hc, h1, h2, h3, h4⟩
    · cases hv
    · simp only [Value.slice.injEq, Option.some.injEq, Addr.mk.injEq, and_true, true_and] at hv
      obtain ⟨rfl, rfl, rfl⟩ := hv
      refine .inr ⟨g, c, cur.setIfInBounds (j * 4 + 3) (.int .i64 k), by rw [List.length_set], hN, ?_, by rw [List.length_set]; exact h1, h2, by rw [Array.size_setIfInBounds]; exact h3, ?_⟩
      · simp only [World.setCell]
        rw [Array.getElem?_modify, if_pos rfl, hc]
        rfl
      · rw [ccells_setK els j e k he, ← h4, List.length_set, Array.toList_setIfInBounds, List.take_set]
  · obtain ⟨y, hy, e1, e2, e3⟩ := hmem x hx
    rw [e1, e2, e3]
    exact (h.ints y hy).grown (h.rows y hy) hgr hty
  · obtain ⟨y, hy, e1, e2, e3⟩ := hmem x hx
    rw [e1, e2]
    exact (h.rows y hy).grown hgr hty
theorem setK_d {els : List CEl} {j : Nat} {e : CEl} (k : Int) : (els.set j (e.withK k)).map CEl.d = (els.map CEl.d).set j ⟨e.q, e.M, e.xs, k⟩ := by
  rw [List.map_set]; rfl
theorem Three.others {n N N1 N2 : Nat} {W W' : World} {outs : List CD} {u u6 u7 u8 : Value} {G E V els : List CEl} (h : Three n N W outs u6 u7 u8 G E V) (hu : CL2 N1 N2 W u els) (hg : W.grownBy W' u.ownBlock) (a6 : RowsApart u u6) (a7 : RowsApart u u7) (a8 : RowsApart u u8) : Three n N W' outs u6 u7 u8 G E V :=
  ⟨h.g.others hu hg a6, h.e.others hu hg a7, h.v.others hu hg a8, h.gd, h.ed, h.vd, h.ge, h.gv, h.ev, h.gn, h.en, h.vn⟩
end Go.Proofs.YtkgnlloioaobiaaGreat
namespace Go.Proofs.YtkgnlloioaobiaaGreat
open Go.RowKit
structure LowE (n : Nat) (outs L : List CD) : Prop where
  of : LeastOf outs L
  one : L.Pairwise fun a b => a.xs ≠ b.xs
  norm : ∀ d ∈ L, NormE n d
theorem LowE.lead {n : Nat} {outs L : List CD} (h : LowE n outs L) : ∀ d ∈ L, leadI d.xs ≠ 0 := fun d hd => (h.norm d hd).lead (h.of.1 d hd).2
theorem LowE.gcd {n : Nat} {outs L : List CD} (h : LowE n outs L) : ∀ d ∈ L, gcdA 0 d.xs = 1 := fun d hd => (h.norm d hd).ge (h.of.1 d hd).2
theorem LowE.place {n : Nat} {outs L : List CD} (h : LowE n outs L) {i j : Nat} {a b : CD} (ha : L[i]? = some a) (hb : L[j]? = some b) (hx : a.xs = b.xs) : i = j := h.of.2.2 i j a b ha hb hx
def Seen (i j i' j' : Nat) : Prop := i' < i ∨ (i' = i ∧ j' < j)
structure Pairs (L E0 : List CD) (i j : Nat) (gs : List Bool) (E : List CD) : Prop where
  len : gs.length = L.length
  neg : ∀ i' j' a b, Seen i j i' j' → OppAt L i' j' a b → 0 ≤ a.K + b.K
  gone : ∀ k, k < L.length → (gs[k]? = some true ↔ ∃ i' j' a b, Seen i j i' j' ∧ OppAt L i' j' a b ∧ a.K + b.K = 0 ∧ (k = i' ∨ k = j'))
  eqs : ∀ t, t ∈ E ↔ t ∈ E0 ∨ ∃ i' j' a b, Seen i j i' j' ∧ OppAt L i' j' a b ∧ a.K + b.K = 0 ∧ t = eqOf a
  few : E.length ≤ E0.length + i + 1 ∧ ((∀ j' a b, j' < j → OppAt L i j' a b → a.K + b.K ≠ 0) → E.length ≤ E0.length + i)
section
variable {n : Nat} {outs L E0 E : List CD} {i j : Nat} {gs : List Bool} {a b : CD}
theorem falses_at {n k : Nat} : ¬ (falses n)[k]? = some true := by
  unfold falses
  intro h
  rw [List.getElem?_replicate] at h
  split at h <;> cases h
theorem seen_none {i' j' : Nat} {a b : CD} (h : Seen 0 1 i' j') (ho : OppAt L i' j' a b) : False := by
  have h1 := ho.1
  rcases h with h | ⟨rfl, h⟩ <;> omega
theorem Pairs.zero (L E0 : List CD) : Pairs L E0 0 1 (falses L.length) E0 :=
  ⟨by simp [falses], fun i' j' a b hs ho => (seen_none hs ho).elim, fun k _ => ⟨fun h => absurd h falses_at, fun ⟨i', j', a, b, hs, ho, _⟩ => (seen_none hs ho).elim⟩,
    fun t => ⟨.inl, fun h => h.elim id fun ⟨i', j', a, b, hs, ho, _⟩ => (seen_none hs ho).elim⟩, by omega, fun _ => by omega⟩
theorem seen_row {i' j' : Nat} {a b : CD} (ho : OppAt L i' j' a b) : Seen i L.length i' j' ↔ Seen (i + 1) (i + 1 + 1) i' j' := by
  have h1 := ho.1
  have h2 := (List.getElem?_eq_some_iff.1 ho.2.2.1).1
  unfold Seen
  omega
theorem Pairs.next (h : Pairs L E0 i L.length gs E) : Pairs L E0 (i + 1) (i + 1 + 1) gs E :=
  ⟨h.len, fun i' j' a b hs ho => h.neg i' j' a b ((seen_row ho).2 hs) ho, fun k hk => (h.gone k hk).trans ⟨fun ⟨i', j', a, b, hs, ho, r⟩ => ⟨i', j', a, b, (seen_row ho).1 hs, ho, r⟩, fun ⟨i', j', a, b, hs, ho, r⟩ => ⟨i', j', a, b, (seen_row ho).2 hs, ho, r⟩⟩,
    fun t => (h.eqs t).trans (or_congr Iff.rfl ⟨fun ⟨i', j', a, b, hs, ho, r⟩ => ⟨i', j', a, b, (seen_row ho).1 hs, ho, r⟩, fun ⟨i', j', a, b, hs, ho, r⟩ => ⟨i', j', a, b, (seen_row ho).2 hs, ho, r⟩⟩), by have := h.few.1; omega, fun _ => by have := h.few.1; omega⟩
theorem seen_step {i' j' : Nat} : Seen i (j + 1) i' j' ↔ Seen i j i' j' ∨ (i' = i ∧ j' = j) := by unfold Seen; omega
theorem Pairs.skip (h : Pairs L E0 i j gs E) (hno : ∀ a b, OppAt L i j a b → 0 < a.K + b.K) : Pairs L E0 i (j + 1) gs E := by
  have key : ∀ i' j' a b, OppAt L i' j' a b → a.K + b.K = 0 → (Seen i (j + 1) i' j' ↔ Seen i j i' j') := fun i' j' a b ho h0 => by
    rw [seen_step]
    refine ⟨fun hs => hs.elim id ?_, .inl⟩
    rintro ⟨rfl, rfl⟩
    have := hno a b ho
    omega
  refine ⟨h.len, fun i' j' a b hs ho => ?_, fun k hk => (h.gone k hk).trans ⟨?_, ?_⟩, fun t => (h.eqs t).trans (or_congr Iff.rfl ⟨?_, ?_⟩), h.few.1, fun hn => h.few.2 fun j' a b hj ho => hn j' a b (by omega) ho⟩
  · rcases seen_step.1 hs with hs | ⟨rfl, rfl⟩
    · exact h.neg i' j' a b hs ho
    · have := hno a b ho; omega
  · exact fun ⟨i', j', a, b, hs, ho, h0, r⟩ => ⟨i', j', a, b, (key i' j' a b ho h0).2 hs, ho, h0, r⟩
  · exact fun ⟨i', j', a, b, hs, ho, h0, r⟩ => ⟨i', j', a, b, (key i' j' a b ho h0).1 hs, ho, h0, r⟩
  · exact fun ⟨i', j', a, b, hs, ho, h0, r⟩ => ⟨i', j', a, b, (key i' j' a b ho h0).2 hs, ho, h0, r⟩
  · exact fun ⟨i', j', a, b, hs, ho, h0, r⟩ => ⟨i', j', a, b, (key i' j' a b ho h0).1 hs, ho, h0, r⟩
theorem opp_one (hL : LowE n outs L) {j' : Nat} {b' : CD} {a' : CD} (h : OppAt L i j a b) (h' : OppAt L i j' a' b') : j' = j := by
  have h1 := h'.2.1
  rw [h.2.1] at h1
  cases h1
  exact hL.place h'.2.2.1 h.2.2.1 (by rw [h'.2.2.2, h.2.2.2])
theorem Pairs.tight (hL : LowE n outs L) (h : Pairs L E0 i j gs E) (ho : OppAt L i j a b) (h0 : a.K + b.K = 0) : Pairs L E0 i (j + 1) ((gs.set i true).set j true) (E ++ [eqOf a]) := by
  have hi := (List.getElem?_eq_some_iff.1 ho.2.1).1
  have hj := (List.getElem?_eq_some_iff.1 ho.2.2.1).1
  have hij := ho.1
  have hab : ∀ a' b', OppAt L i j a' b' → a' = a ∧ b' = b := fun a' b' h' => by
    have e1 := h'.2.1
    have e2 := h'.2.2.1
    rw [ho.2.1] at e1
    rw [ho.2.2.1] at e2
    cases e1; cases e2
    exact ⟨rfl, rfl⟩
  refine ⟨by rw [List.length_set, List.length_set]; exact h.len, fun i' j' a' b' hs ho' => ?_, fun k hk => ?_, fun t => ?_, ?_, fun hn => absurd h0 (hn j a b (by omega) ho)⟩
  · rcases seen_step.1 hs with hs | ⟨rfl, rfl⟩
    · exact h.neg i' j' a' b' hs ho'
    · obtain ⟨rfl, rfl⟩ := hab a' b' ho'; omega
  · have hlen := h.len
    have hset : ((gs.set i true).set j true)[k]? = some true ↔ (k = j ∨ k = i ∨ gs[k]? = some true) := by
      rw [List.getElem?_set, List.getElem?_set, List.length_set]
      by_cases e1 : j = k
      · rw [if_pos e1, if_pos (by omega)]
        exact ⟨fun _ => .inl e1.symm, fun _ => rfl⟩
      · rw [if_neg e1]
        by_cases e2 : i = k
        · rw [if_pos e2, if_pos (by omega)]
          exact ⟨fun _ => .inr (.inl e2.symm), fun _ => rfl⟩
        · rw [if_neg e2]
          exact ⟨fun h => .inr (.inr h), fun h => h.elim (fun h => absurd h.symm e1) (fun h => h.elim (fun h => absurd h.symm e2) id)⟩
    rw [hset, h.gone k hk]
    constructor
    · rintro (rfl | rfl | ⟨i', j', a', b', hs, ho', h0', r⟩)
      · exact ⟨i, k, a, b, seen_step.2 (.inr ⟨rfl, rfl⟩), ho, h0, .inr rfl⟩
      · exact ⟨k, j, a, b, seen_step.2 (.inr ⟨rfl, rfl⟩), ho, h0, .inl rfl⟩
      · exact ⟨i', j', a', b', seen_step.2 (.inl hs), ho', h0', r⟩
    · rintro ⟨i', j', a', b', hs, ho', h0', r⟩
      rcases seen_step.1 hs with hs | ⟨rfl, rfl⟩
      · exact .inr (.inr ⟨i', j', a', b', hs, ho', h0', r⟩)
      · rcases r with r | r
        · exact .inr (.inl r)
        · exact .inl r
  · rw [List.mem_append, h.eqs, List.mem_singleton]
    constructor
    · rintro ((ht | ⟨i', j', a', b', hs, ho', h0', r⟩) | rfl)
      · exact .inl ht
      · exact .inr ⟨i', j', a', b', seen_step.2 (.inl hs), ho', h0', r⟩
      · exact .inr ⟨i, j, a, b, seen_step.2 (.inr ⟨rfl, rfl⟩), ho, h0, rfl⟩
    · rintro (ht | ⟨i', j', a', b', hs, ho', h0', r⟩)
      · exact .inl (.inl ht)
      · rcases seen_step.1 hs with hs | ⟨rfl, rfl⟩
        · exact .inl (.inr ⟨i', j', a', b', hs, ho', h0', r⟩)
        · obtain ⟨rfl, rfl⟩ := hab a' b' ho'
          exact .inr r
  · have := h.few.2 fun j' a' b' hlt ho' => by
      have := opp_one hL ho ho'
      omega
    rw [List.length_append, List.length_singleton]; omega
theorem va_at (hL : LowE n outs L) (ho : OppAt L i j a b) (h0 : a.K + b.K < 0) : VA L := (va_places hL.lead).2 ⟨i, j, a, b, ho, h0⟩
structure Gone0 (outs L : List CD) (gs : List Bool) (E : List CD) : Prop where
  len : gs.length = L.length
  va : ¬ VA L
  gone : ∀ (k : Nat) (d : CD), L[k]? = some d → (gs[k]? = some true ↔ GoneP L d)
  eqs : ∀ t, t ∈ E ↔ EqP outs L t
theorem Pairs.done (hL : LowE n outs L) (h : Pairs L (outs.filter fun d => d.q == 1) L.length (L.length + 1) gs E) : Gone0 outs L gs E := by
  have hs : ∀ {i' j' : Nat} {a b : CD}, OppAt L i' j' a b → Seen L.length (L.length + 1) i' j' := fun ho => .inl (List.getElem?_eq_some_iff.1 ho.2.1).1
  refine ⟨h.len, fun hv => ?_, fun k d hk => ?_, fun t => ?_⟩
  · obtain ⟨i', j', a, b, ho, h0⟩ := (va_places hL.lead).1 hv
    have := h.neg i' j' a b (hs ho) ho
    omega
  · rw [h.gone k (List.getElem?_eq_some_iff.1 hk).1, gone_places hL.lead hL.one hk]
    exact ⟨fun ⟨i', j', a, b, _, r⟩ => ⟨i', j', a, b, r⟩, fun ⟨i', j', a, b, ho, r⟩ => ⟨i', j', a, b, hs ho, ho, r⟩⟩
  · rw [h.eqs, List.mem_filter]
    unfold EqP
    rw [tight_places hL.lead]
    refine or_congr (by simp) ⟨fun ⟨i', j', a, b, _, r⟩ => ⟨i', j', a, b, r⟩, fun ⟨i', j', a, b, ho, r⟩ => ⟨i', j', a, b, hs ho, ho, r⟩⟩
end
def Mt (c e : CD) : Prop := e.xs = sgnL (signI c.xs) c.xs
structure Meets (L E : List CD) (i k : Nat) (gs : List Bool) : Prop where
  len : gs.length = L.length
  gone : ∀ k' d, L[k']? = some d → (gs[k']? = some true ↔ GoneP L d ∨ ∃ i' e, Seen i k i' k' ∧ E[i']? = some e ∧ Mt d e)
  vc : ∀ k' d i' e, L[k']? = some d → ¬ GoneP L d → Seen i k i' k' → E[i']? = some e → Mt d e → 0 ≤ d.K - signI d.xs * e.K
def OneK (E : List CD) (i : Nat) : Prop := ∀ i' j' a b, j' < i' → i' < i → E[i']? = some a → E[j']? = some b → a.xs = b.xs → a.K = b.K
def OneAt (E : List CD) (i j : Nat) (a : CD) : Prop := ∀ j' b, j' < j → E[j']? = some b → a.xs = b.xs → a.K = b.K
section
variable {n : Nat} {outs L E : List CD} {i k j : Nat} {gs gs0 : List Bool} {a b c : CD}
theorem OneK.zero (E : List CD) : OneK E 0 := fun _ _ _ _ _ h => absurd h (Nat.not_lt_zero _)
theorem OneAt.zero (E : List CD) (i : Nat) (a : CD) : OneAt E i 0 a := fun _ _ h => absurd h (Nat.not_lt_zero _)
theorem OneAt.step (h : OneAt E i j a) (hb : E[j]? = some b) (hx : a.xs = b.xs → a.K = b.K) : OneAt E i (j + 1) a := fun j' b' hj hb' => by
  rcases Nat.lt_or_eq_of_le (Nat.le_of_lt_succ hj) with h1 | rfl
  · exact h j' b' h1 hb'
  · rw [hb] at hb'; cases hb'; exact hx
theorem OneK.step (h : OneK E i) (ha : E[i]? = some a) (h1 : OneAt E i i a) : OneK E (i + 1) := fun i' j' a' b' hj hi ha' hb' hx => by
  rcases Nat.lt_or_eq_of_le (Nat.le_of_lt_succ hi) with h2 | rfl
  · exact h i' j' a' b' hj h2 ha' hb' hx
  · rw [ha] at ha'; cases ha'; exact h1 j' b' hj hb' hx
theorem OneK.all (h : OneK E E.length) : ∀ x ∈ E, ∀ y ∈ E, x.xs = y.xs → x.K = y.K := fun x hx y hy he => by
  obtain ⟨i, hi, rfl⟩ := List.getElem_of_mem hx
  obtain ⟨j, hj, rfl⟩ := List.getElem_of_mem hy
  rcases Nat.lt_trichotomy i j with h1 | rfl | h1
  · exact (h j i _ _ h1 hj (List.getElem?_eq_getElem hj) (List.getElem?_eq_getElem hi) he.symm).symm
  · rfl
  · exact h i j _ _ h1 hi (List.getElem?_eq_getElem hi) (List.getElem?_eq_getElem hj) he
theorem Meets.zero (h : Gone0 outs L gs E) : Meets L E 0 0 gs :=
  ⟨h.len, fun k d hk => (h.gone k d hk).trans ⟨.inl, fun h => h.elim id fun ⟨i', e, hs, _⟩ => by unfold Seen at hs; omega⟩, fun k' d i' e _ _ hs _ => by unfold Seen at hs; omega⟩
theorem meet_row {k' i' : Nat} {d : CD} (hk : L[k']? = some d) : Seen i L.length i' k' ↔ Seen (i + 1) 0 i' k' := by
  have := (List.getElem?_eq_some_iff.1 hk).1
  unfold Seen
  omega
theorem Meets.next (h : Meets L E i L.length gs) : Meets L E (i + 1) 0 gs :=
  ⟨h.len, fun k' d hk => (h.gone k' d hk).trans (or_congr Iff.rfl ⟨fun ⟨i', e, hs, r⟩ => ⟨i', e, (meet_row hk).1 hs, r⟩, fun ⟨i', e, hs, r⟩ => ⟨i', e, (meet_row hk).2 hs, r⟩⟩), fun k' d i' e hk hg hs => h.vc k' d i' e hk hg ((meet_row hk).2 hs)⟩
theorem Meets.there (h : Meets L E i k gs) (h1 : OneK E (i + 1)) (hb : L[k]? = some b) (ha : E[i]? = some a) (hg : gs[k]? = some true) : Meets L E i (k + 1) gs := by
  refine ⟨h.len, fun k' d hk => (h.gone k' d hk).trans ⟨?_, ?_⟩, fun k' d i' e hk hng hs he hm => ?_⟩
  · exact Or.imp_right fun ⟨i', e, hs, r⟩ => ⟨i', e, seen_step.2 (.inl hs), r⟩
  · rintro (h2 | ⟨i', e, hs, he, hm⟩)
    · exact .inl h2
    · rcases seen_step.1 hs with hs | ⟨rfl, rfl⟩
      · exact .inr ⟨i', e, hs, he, hm⟩
      · exact (h.gone k' d hk).1 hg
  · rcases seen_step.1 hs with hs | ⟨rfl, rfl⟩
    · exact h.vc k' d i' e hk hng hs he hm
    · rcases (h.gone k' d hk).1 hg with h2 | ⟨i2, e2, hs2, he2, hm2⟩
      · exact absurd h2 hng
      · have h3 := h.vc k' d i2 e2 hk hng hs2 he2 hm2
        have hlt : i2 < i' := by unfold Seen at hs2; omega
        have : e.K = e2.K := h1 i' i2 e e2 hlt (by omega) he he2 (by rw [hm, hm2])
        rw [this]; exact h3
theorem Meets.skip (h : Meets L E i k gs) (hb : L[k]? = some b) (ha : E[i]? = some a) (hm : ¬ Mt b a) : Meets L E i (k + 1) gs := by
  have key : ∀ k' i' d e, L[k']? = some d → E[i']? = some e → Mt d e → (Seen i (k + 1) i' k' ↔ Seen i k i' k') := fun k' i' d e hk he hme => by
    rw [seen_step]
    refine ⟨fun hs => hs.elim id ?_, .inl⟩
    rintro ⟨rfl, rfl⟩
    rw [hb] at hk; rw [ha] at he
    cases hk; cases he
    exact absurd hme hm
  refine ⟨h.len, fun k' d hk => (h.gone k' d hk).trans (or_congr Iff.rfl ⟨?_, ?_⟩), fun k' d i' e hk hng hs he hme => h.vc k' d i' e hk hng ((key k' i' d e hk he hme).1 hs) he hme⟩
  · exact fun ⟨i', e, hs, he, hme⟩ => ⟨i', e, (key k' i' d e hk he hme).2 hs, he, hme⟩
  · exact fun ⟨i', e, hs, he, hme⟩ => ⟨i', e, (key k' i' d e hk he hme).1 hs, he, hme⟩
theorem Meets.take (h : Meets L E i k gs) (hb : L[k]? = some b) (ha : E[i]? = some a) (hm : Mt b a) (h0 : 0 ≤ b.K - signI b.xs * a.K) : Meets L E i (k + 1) (gs.set k true) := by
  have hk := (List.getElem?_eq_some_iff.1 hb).1
  have hlen := h.len
  refine ⟨by rw [List.length_set]; exact h.len, fun k' d hk' => ?_, fun k' d i' e hk' hng hs he hme => ?_⟩
  · rw [List.getElem?_set]
    by_cases e1 : k = k'
    · rw [if_pos e1, if_pos (by omega)]
      subst e1
      rw [hb] at hk'; cases hk'
      exact ⟨fun _ => .inr ⟨i, a, seen_step.2 (.inr ⟨rfl, rfl⟩), ha, hm⟩, fun _ => rfl⟩
    · rw [if_neg e1, h.gone k' d hk']
      refine or_congr Iff.rfl ⟨fun ⟨i', e, hs, r⟩ => ⟨i', e, seen_step.2 (.inl hs), r⟩, fun ⟨i', e, hs, r⟩ => ⟨i', e, ?_, r⟩⟩
      rcases seen_step.1 hs with hs | ⟨_, h9⟩
      · exact hs
      · exact absurd h9.symm e1
  · rcases seen_step.1 hs with hs | ⟨rfl, rfl⟩
    · exact h.vc k' d i' e hk' hng hs he hme
    · rw [hb] at hk'; rw [ha] at he
      cases hk'; cases he
      exact h0
theorem Meets.not_gone (h : Meets L E i k gs) (hb : L[k]? = some b) (hg : gs[k]? = some false) : ¬ GoneP L b := fun hG => by
  have := (h.gone k b hb).2 (.inl hG)
  rw [hg] at this; cases this
theorem sides_meet (ha : 0 < leadI a.xs) (hb : leadI b.xs ≠ 0) : (sidesI a.xs b.xs = 0 ↔ ¬ Mt b a) ∧ (Mt b a → sidesI a.xs b.xs = signI b.xs) := by
  have h1 : ∀ {t}, a.xs = sgnL (-1) t → leadI t < 0 := fun {t} h => by have := lead_neg t; rw [← h] at this; omega
  have key : Mt b a → sidesI a.xs b.xs = signI b.xs := fun hm => by
    unfold Mt at hm
    unfold sidesI
    by_cases hl : leadI b.xs < 0
    · have hs : signI b.xs = -1 := by unfold signI; rw [if_pos hl]
      rw [hs] at hm ⊢
      rw [if_neg (fun h => by rw [h] at ha; omega), if_pos hm]
    · have hs : signI b.xs = 1 := by unfold signI; rw [if_neg hl]
      rw [hs, sgn_one] at hm
      rw [hs, if_pos hm]
  refine ⟨⟨fun h hm => ?_, fun hn => ?_⟩, key⟩
  · rw [key hm] at h
    unfold signI at h
    split at h <;> cases h
  · unfold sidesI
    by_cases e1 : a.xs = b.xs
    · exfalso
      refine hn ?_
      unfold Mt signI
      rw [if_neg (by rw [← e1]; omega), sgn_one]
      exact e1
    · rw [if_neg e1]
      by_cases e2 : a.xs = sgnL (-1) b.xs
      · exfalso
        refine hn ?_
        unfold Mt signI
        rw [if_pos (h1 e2)]
        exact e2
      · rw [if_neg e2]
theorem vc_at (h0 : Gone0 outs L gs0 E) (h : Meets L E i k gs) (hb : L[k]? = some b) (ha : E[i]? = some a) (hg : gs[k]? = some false) (hm : Mt b a) (hK : b.K - signI b.xs * a.K < 0) : VC (EqP outs L) L :=
  ⟨b, List.mem_of_getElem? hb, h.not_gone hb hg, a, ⟨(h0.eqs a).1 (List.mem_of_getElem? ha), hm⟩, hK⟩
theorem vb_at (h0 : Gone0 outs L gs0 E) (ha : E[i]? = some a) (hb : E[j]? = some b) (hx : a.xs = b.xs) (hK : a.K ≠ b.K) : VB (EqP outs L) :=
  ⟨a, b, (h0.eqs a).1 (List.mem_of_getElem? ha), (h0.eqs b).1 (List.mem_of_getElem? hb), hx, hK⟩
structure Gone1 (outs L : List CD) (gs : List Bool) : Prop where
  len : gs.length = L.length
  void : ¬ VoidP outs L
  gone : ∀ (k : Nat) (d : CD), L[k]? = some d → (gs[k]? = some true ↔ GoneP L d ∨ ∃ e, MeetP (EqP outs L) d e)
theorem Meets.done (h0 : Gone0 outs L gs0 E) (h : Meets L E E.length 0 gs) (h1 : OneK E E.length) : Gone1 outs L gs := by
  have hs : ∀ {k' i' : Nat} {e : CD}, E[i']? = some e → Seen E.length 0 i' k' := fun he => .inl (List.getElem?_eq_some_iff.1 he).1
  refine ⟨h.len, ?_, fun k d hk => ?_⟩
  · rintro (hv | ⟨x, y, hx, hy, he, hK⟩ | ⟨c, hc, hg, e, ⟨he, hm⟩, hK⟩)
    · exact h0.va hv
    · exact hK (h1.all x ((h0.eqs x).2 hx) y ((h0.eqs y).2 hy) he)
    · obtain ⟨k, hk, e1⟩ := List.getElem_of_mem hc
      obtain ⟨i', hi', e2⟩ := List.getElem_of_mem ((h0.eqs e).2 he)
      have g2 : E[i']? = some e := by rw [List.getElem?_eq_getElem hi', e2]
      have := h.vc k c i' e (by rw [List.getElem?_eq_getElem hk, e1]) hg (hs g2) g2 hm
      omega
  · rw [h.gone k d hk]
    refine or_congr Iff.rfl ⟨?_, ?_⟩
    · rintro ⟨i', e, _, he, hm⟩
      exact ⟨e, (h0.eqs e).1 (List.mem_of_getElem? he), hm⟩
    · rintro ⟨e, he, hm⟩
      obtain ⟨i', hi', e2⟩ := List.getElem_of_mem ((h0.eqs e).2 he)
      have g2 : E[i']? = some e := by rw [List.getElem?_eq_getElem hi', e2]
      exact ⟨i', e, hs g2, g2, hm⟩
end
def Outs (L : List CD) (gs : List Bool) (E : List CD) (k : Nat) (O : List CD) : Prop := ∀ t, t ∈ O ↔ t ∈ E ∨ ∃ k', k' < k ∧ L[k']? = some t ∧ gs[k']? = some false
section
variable {n : Nat} {outs L E O V : List CD} {k : Nat} {gs gs0 : List Bool} {c : CD}
theorem Outs.zero (L : List CD) (gs : List Bool) (E : List CD) : Outs L gs E 0 E := fun t => ⟨.inl, fun h => h.elim id fun ⟨_, h, _⟩ => absurd h (Nat.not_lt_zero _)⟩
theorem Outs.skip (h : Outs L gs E k O) (hg : gs[k]? = some true) : Outs L gs E (k + 1) O := fun t => (h t).trans (or_congr Iff.rfl ⟨fun ⟨k', hk, r⟩ => ⟨k', by omega, r⟩, fun ⟨k', hk, hc, hf⟩ => by
  rcases Nat.lt_or_eq_of_le (Nat.le_of_lt_succ hk) with h1 | rfl
  · exact ⟨k', h1, hc, hf⟩
  · rw [hg] at hf; cases hf⟩)
theorem Outs.put (h : Outs L gs E k O) (hc : L[k]? = some c) (hg : gs[k]? = some false) : Outs L gs E (k + 1) (O ++ [c]) := fun t => by
  rw [List.mem_append, h t, List.mem_singleton]
  constructor
  · rintro ((ht | ⟨k', hk, r⟩) | rfl)
    · exact .inl ht
    · exact .inr ⟨k', by omega, r⟩
    · exact .inr ⟨k, by omega, hc, hg⟩
  · rintro (ht | ⟨k', hk, r1, r2⟩)
    · exact .inl (.inl ht)
    · rcases Nat.lt_or_eq_of_le (Nat.le_of_lt_succ hk) with h1 | rfl
      · exact .inl (.inr ⟨k', h1, r1, r2⟩)
      · rw [hc] at r1; cases r1; exact .inr rfl
theorem Outs.done (h : Outs L gs E L.length O) (h0 : Gone0 outs L gs0 E) (h1 : Gone1 outs L gs) (hV : V = outs.filter fun d => d.q == 2) : ∀ t, t ∈ O ++ V ↔ OutP outs L t := fun t => by
  rw [List.mem_append, h t, h0.eqs, hV, List.mem_filter]
  unfold OutP RestP
  rw [or_assoc]
  refine or_congr Iff.rfl (or_congr ⟨?_, ?_⟩ (by simp))
  · rintro ⟨k', hk, hc, hf⟩
    have hn : ¬ (GoneP L t ∨ ∃ e, MeetP (EqP outs L) t e) := fun hg => by
      have := (h1.gone k' t hc).2 hg
      rw [hf] at this; cases this
    exact ⟨List.mem_of_getElem? hc, fun hg => hn (.inl hg), fun hg => hn (.inr hg)⟩
  · rintro ⟨ht, hg, hm⟩
    obtain ⟨k', hk, e1⟩ := List.getElem_of_mem ht
    have g1 : L[k']? = some t := by rw [List.getElem?_eq_getElem hk, e1]
    have hlen := h1.len
    refine ⟨k', hk, g1, ?_⟩
    have hl : k' < gs.length := by omega
    cases hb : gs[k']
    · rw [List.getElem?_eq_getElem hl, hb]
    · rcases (h1.gone k' t g1).1 (by rw [List.getElem?_eq_getElem hl, hb]) with h2 | h2
      · exact absurd h2 hg
      · exact absurd h2 hm
end
theorem eqp_norm {n : Nat} {outs L : List CD} (hE : ∀ d ∈ outs, NormE n d) (hL : LowE n outs L) {t : CD} (h : EqP outs L t) : NormE n t ∧ t.q = 1 := by
  rcases h with ⟨ht, hq⟩ | ⟨d, hd, _, hl, rfl⟩
  · exact ⟨hE t ht, hq⟩
  · have hn := (hL.norm d hd).nd
    exact ⟨⟨⟨.inr (.inl rfl), fun _ => rfl, hn.len, hn.x, hn.k, (show (0 : Int) ≤ 0 ∧ (0 : Int) ≤ 512 from ⟨by omega, by omega⟩)⟩, fun hq => (by cases hq), fun _ => hl⟩, rfl⟩
theorem sides_opp {xs ys : List Int} (hl : leadI xs ≠ 0) : sidesI xs ys = -1 ↔ ys = sgnL (-1) xs := by
  unfold sidesI
  constructor
  · intro h
    split at h
    · cases h
    · split at h
      · rename_i h2
        rw [h2, sgn_sgn]
      · cases h
  · intro h
    rw [if_neg (fun e => by rw [← e] at h; exact lead_ne_neg hl h.symm), if_pos (by rw [h, sgn_sgn])]
theorem outp_norm {n : Nat} {outs L : List CD} (hE : ∀ d ∈ outs, NormE n d) (hL : LowE n outs L) {t : CD} (h : OutP outs L t) : NormD n t := by
  rcases h with h | h | h
  · exact (eqp_norm hE hL h).1.nd
  · exact (hL.norm t h.1).nd
  · exact (hE t h.1).nd
theorem kinds_sum : ∀ l : List CD, (l.filter fun d => d.q == 0).length + (l.filter fun d => d.q == 1).length + (l.filter fun d => d.q == 2).length ≤ l.length
  | [] => by simp
  | d :: l => by
    have ih := kinds_sum l
    simp only [List.filter_cons, List.length_cons]
    by_cases h0 : d.q = 0
    · simp [h0]; omega
    · by_cases h1 : d.q = 1
      · simp [h1]; omega
      · by_cases h2 : d.q = 2
        · simp [h2]; omega
        · simp [h0, h1, h2]; omega
theorem Pairs.size {L E0 E : List CD} {gs : List Bool} (h : Pairs L E0 L.length (L.length + 1) gs E) : E.length ≤ E0.length + L.length := h.few.2 fun j' a b _ ho => by
  have := (List.getElem?_eq_some_iff.1 ho.2.1).1
  exact absurd this (Nat.lt_irrefl _)
theorem least_len {G : List CD} (hq : ∀ a ∈ G, a.q = 0 ∧ a.M = 0) : (G.foldl lowS []).length ≤ G.length := by
  have key : ∀ (l acc : List CD), (l.foldl lowS acc).length ≤ acc.length + l.length := by
    intro l
    induction l with
    | nil => intro acc; simp
    | cons d l ih =>
      intro acc
      have h1 := ih (lowS acc d)
      have h2 : (lowS acc d).length ≤ acc.length + 1 := by unfold lowS; split <;> simp
      simp only [List.foldl_cons, List.length_cons]
      omega
  simpa using key G []
end Go.Proofs.YtkgnlloioaobiaaGreat
namespace Go.Proofs.YtkgnlloioaobiaaGreat
open Go.RowKit
theorem CL2.away {N0 N : Nat} {W : World} {u : Value} {els : List CEl} (h : CL2 N0 N W u els) {b : Nat} {gs : List Bool} (hb : BRow W b gs) (j : Nat) (v : Value) : CL2 N0 N (W.setCell ⟨b, j, none⟩ v) u els := by
  have hoth : ∀ k, k ≠ b → (W.setCell ⟨b, j, none⟩ v).heap[k]? = W.heap[k]? := fun k hk => by
    simp only [World.setCell]
    rw [Array.getElem?_modify, if_neg fun e => hk e.symm]
  have hsz : (W.setCell ⟨b, j, none⟩ v).heap.size = W.heap.size := by simp [World.setCell]
  unfold BRow at hb
  refine ⟨⟨h.own.1, ?_⟩, h.few, fun e he => ?_, fun e he => ?_⟩
  · rcases h.own.2 with h0 | ⟨g, cap, cur, hv, hg, hc, rest⟩
    · exact .inl h0
    · refine .inr ⟨g, cap, cur, hv, hg, (hoth g fun e => ?_).trans hc, rest⟩
      rw [e, hb] at hc
      simp at hc
  · have hI := h.ints e he
    refine ⟨hI.len, hI.small, hI.wf, fun hn => ?_⟩
    obtain ⟨bb, off, hA, hlt, hc⟩ := hI.cells hn
    refine ⟨bb, off, hA, by rw [hsz]; exact hlt, fun q hq => ?_⟩
    rw [← hc q hq]
    refine World.cell?_of_block (hoth bb fun e' => ?_)
    rcases h.rows e he with h0 | ⟨b', hA', _, cur, h1, _⟩
    · omega
    · rw [hA] at hA'
      cases hA'
      rw [e', hb] at h1
      simp at h1
  · refine (h.rows e he).imp id ?_
    rintro ⟨b', hA', hN0, cur, h1, h2⟩
    refine ⟨b', hA', hN0, cur, (hoth b' fun e' => ?_).trans h1, h2⟩
    rw [e', hb] at h1
    simp at h1
structure PSt (n N : Nat) (W : World) (u uE uV : Value) (L E V : List CEl) (g : Nat) (gs : List Bool) : Prop where
  l : CL2 N N W u L
  e : CL2 N N W uE E
  v : CL2 N N W uV V
  le : RowsApart u uE
  lv : RowsApart u uV
  ev : RowsApart uE uV
  ln : ∀ x ∈ L, x.n = n
  en : ∀ x ∈ E, x.n = n
  vn : ∀ x ∈ V, x.n = n
  b : BRow W g gs
  hg : N ≤ g
section
variable {n N : Nat} {W W' : World} {u uE uV : Value} {L E V : List CEl} {g : Nat} {gs : List Bool}
theorem PSt.step (h : PSt n N W u uE uV L E V g gs) (hb : Below W.heap.size W W') : PSt n N W' u uE uV L E V g gs :=
  ⟨h.l.step hb, h.e.step hb, h.v.step hb, h.le, h.lv, h.ev, h.ln, h.en, h.vn, h.b.step hb, h.hg⟩
theorem PSt.set (h : PSt n N W u uE uV L E V g gs) (j : Nat) (x : Bool) : PSt n N (W.setCell ⟨g, j, none⟩ (.bool x)) u uE uV L E V g (gs.set j x) :=
  ⟨h.l.away h.b j _, h.e.away h.b j _, h.v.away h.b j _, h.le, h.lv, h.ev, h.ln, h.en, h.vn, h.b.set j x, h.hg⟩
theorem PSt.put (h : PSt n N W u uE uV L E V g gs) {x : CEl} {g' k c : Nat} (hn : x.n = n) (hL : CL2 N N W' (.slice (some ⟨g', 0, none⟩) k c) (E ++ [x])) (hg : W.grownBy W' uE.ownBlock) (hf : uE.ownBlock = some g' ∨ g' = W.heap.size) :
    PSt n N W' u (.slice (some ⟨g', 0, none⟩) k c) uV L (E ++ [x]) V g gs := by
  refine ⟨h.l.others h.e hg h.le.symm, hL, h.v.others h.e hg h.ev, (h.le.symm.grown h.l rfl hf).symm, h.lv, h.ev.grown h.v rfl hf, h.ln, fun y hy => ?_, h.vn, ?_, h.hg⟩
  · rcases List.mem_append.1 hy with hy | hy
    · exact h.en y hy
    · rw [List.mem_singleton.1 hy]; exact hn
  · have hb := h.b
    unfold BRow at hb ⊢
    refine (hg.block g (Array.getElem?_eq_some_iff.1 hb).1 fun e => ?_).trans hb
    obtain ⟨cur, fr, h1⟩ := h.e.typed g e.symm
    rw [hb] at h1
    simp at h1
theorem PSt.start {outs : List CD} {u6 : Value} {G : List CEl} (hT : Three n N W outs u6 uE uV G E V) (hU : CL2 N N W u L) (h1 : RowsApart u uE) (h2 : RowsApart u uV) (hn : ∀ x ∈ L, x.n = n) (hN : N ≤ W.heap.size) (m : Nat) :
    PSt n N (W.alloc (.cells ((falses m).map Value.bool).toArray 4)) u uE uV L E V W.heap.size (falses m) :=
  have b := below_alloc W (.cells ((falses m).map Value.bool).toArray 4)
  ⟨hU.step b, hT.e.step b, hT.v.step b, h1, h2, hT.ev, hn, hT.en, hT.vn, BRow.new W (falses m), hN⟩
end
end Go.Proofs.YtkgnlloioaobiaaGreat
