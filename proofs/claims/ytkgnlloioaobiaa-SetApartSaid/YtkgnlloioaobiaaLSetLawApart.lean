/-
  For all sets b of the law's bounds and all lists x, SetApart returns true and leaves memory as it was. No condition.
-/
import Derived.Test.YtkgnlloioaobiaaRows
import Derived.Test.YtkgnlloioaobiaaMf

set_option linter.unusedVariables false
set_option linter.unusedSimpArgs false
namespace Go.Proofs.Ytkgnlloioaobiaa.setApart
open Go.ChangeShapes Go.WideShapes Go.ChangeAt Go.RowKit

theorem any_take {α : Type} {f : α → Bool} {l : List α} {j : Nat} {x : α} (h : l[j]? = some x) : (l.take (j + 1)).any f = ((l.take j).any f || f x) := by
  rw [List.take_add_one, h]
  simp
theorem s_elim {D : Int} {ps : List PEl} {xs : List Int} (h : sErr D ps xs = 0) : validS D ps = true ∧ (xs.length : Int) = D ∧ pointB xs = true := by
  unfold sErr at h
  split at h
  · rename_i h1
    split at h
    · rename_i h2
      split at h
      · rename_i h3; exact ⟨h1, h2, h3⟩
      · cases h
    · cases h
  · cases h
/-- Minus at whatever sets. -/
theorem minus_any (D : Int) (A : Option Addr) (n c : Nat) (ps : List PEl) (D' : Int) (A' : Option Addr) (n' c' : Nat) (ps' : List PEl) (w : World) (h : PiecesAt w A n ps) (h' : PiecesAt w A' n' ps') :
    Calls Try.prog 28 #[setV D A n c, setV D' A' n' c'] w fun e w' => ∃ D2 A2 k2 c2 er, e = .returned (.tuple #[setV D2 A2 k2 c2, .int .i64 er]) ∧ Below w.heap.size w w' := by
  by_cases hb : bothE D ps D' ps' = 0
  · obtain ⟨h1, h2, rfl⟩ := both_ok hb
    refine (set_minus D A n c ps A' n' c' ps' w h h' h1 h2).mono ?_
    rintro e w' ⟨A2, k2, c2, us, he, _, _, _, _, hb⟩
    exact ⟨_, _, _, _, _, he, hb⟩
  · refine (set_minus_bad D A n c ps D' A' n' c' ps' w h h' hb).mono ?_
    rintro e w' ⟨he, hb⟩
    exact ⟨_, _, _, _, _, he, hb⟩
/-- Minus at valid sets. -/
theorem minus_ok {nn : Nat} {A : Option Addr} {n c : Nat} {ps : List PEl} {A' : Option Addr} {n' c' : Nat} {ps' : List PEl} {w : World} {er : Int} {r : List (List CD)} (h : PiecesAt w A n ps) (h' : PiecesAt w A' n' ps') (hv : validS nn ps = true) (hv' : validS nn ps' = true) (hm : minusD nn (ps.map PEl.dat) (ps'.map PEl.dat) = (er, r)) :
    Calls Try.prog 28 #[setV nn A n c, setV nn A' n' c'] w fun e w' => GatherRet nn w e w' nn (er, r) := by
  have := set_minus nn A n c ps A' n' c' ps' w h h' hv hv'
  rw [show ((nn : Int)).toNat = nn from rfl, hm] at this
  exact this




set_option maxRecDepth 100000 in
set_option maxHeartbeats 16000000 in
theorem walk (w : World) (D : Int) (A : Option Addr) (n c : Nat) (ps : List PEl) (h : PiecesAt w A n ps) (_ : -9223372036854775808 ≤ D ∧ D ≤ 9223372036854775807) (A' : Option Addr) (k c' : Nat) (xs : List Int) (hI : IntsAt w A' k xs) :
    Calls Try.prog 7 #[setV D A n c, .slice A' k c'] w fun e w' => e = .returned (.bool true) ∧ Below w.heap.size w w' := by
  have hB := below_alloc w (.cells #[.int .i64 D, .slice A n c] 24)
  have P1 := h.step hB
  have I1 := hI.step hB
  have X1 := SetBox.new w D A n c
  have HXL := Lib.hid hI.len
  have HLP := Lib.hid (pieces_lens h)
  obtain ⟨sv, hv⟩ : ∃ v, sVal D ps xs = v := ⟨_, rfl⟩
  obtain ⟨er, her⟩ : ∃ v, sErr D ps xs = v := ⟨_, rfl⟩
  have HV := Lib.hid hv
  have HE := Lib.hid her
  obtain ⟨fw, hfw⟩ : ∃ v, fewB 6 8 [⟨D, A, n, c, ps⟩] = v := ⟨_, rfl⟩
  have HF := Lib.hid hfw
  have x0 := X1.c0
  have x1 := X1.c1
  have T1 : True := trivial
  have T2 : True := trivial
  have T3 : True := trivial
  have T4 : True := trivial
  clear h hI hfw
  cases fw
  · clear hv her
    go_enter Try.func7, Try.ntmps7
    go_wp2_with (first
      | (go_at_call 10; refine (few_one _ 1 (by simp) P1).mono ?_; rintro e w1 ⟨rfl, hb⟩; rw [HF.out]; replace hB := below_step hB hb; replace P1 := P1.step hb; replace I1 := I1.step hb; replace X1 := X1.step hb; clear x0 x1 hb; have x0 := X1.c0; have x1 := X1.c1)
      | (go_at_call 11; refine (awake4 _).mono ?_; rintro e w9 ⟨rfl, hb⟩; replace hB := below_step hB hb))
    go_ret
    exact ⟨rfl, hB⟩
  · by_cases h0 : er = 0
    · subst h0
      obtain ⟨hvs, hdim, hpt⟩ := s_elim her
      have hdd := (valid_elim hvs).1
      obtain ⟨nn, rfl⟩ := Int.eq_ofNat_of_zero_le hdd.1
      have hn12 : nn ≤ 12 := by omega
      have hxl : xs.length = nn := by omega
      have hknn : k = nn := by have := HXL.out; omega
      have hsv : hasS xs ps = sv := by rw [← hv]; unfold sVal; rw [if_pos her]
      have HVP := Lib.hid hvs
      have hvw : validS nn onePs = true := valid_good hn12 (fun p hp e he => by
        rw [onePs, List.mem_singleton] at hp
        subst hp
        cases he) ⟨fun u hu => by
          have : u = [] := by simpa [onePs, PEl.dat] using hu
          subst this
          exact ⟨(fun d hd => nomatch hd), by simp⟩, by simp [onePs]⟩
      have HVW := Lib.hid hvw
      have hmk := m_ok (n := (nn : Int)) (by omega)
      have HW := Lib.hid (fun W => set_whole nn W)
      rw [hmk.1, hmk.2.1, hmk.2.2] at HW
      have hwl : ∀ p ∈ onePs, ∀ e ∈ p.els, e.xs.length = e.n := fun p hp e he => by
        rw [onePs, List.mem_singleton] at hp
        subst hp
        cases he
      have hw1 : hasS xs onePs = true := by simp [hasS, hasP, onePs]
      obtain ⟨m1, hm1⟩ : ∃ m, minusD nn (onePs.map PEl.dat) (ps.map PEl.dat) = m := ⟨_, rfl⟩
      obtain ⟨g1, r1⟩ := m1
      obtain ⟨m2, hm2⟩ : ∃ m, minusD nn (ps.map PEl.dat) (ps.map PEl.dat) = m := ⟨_, rfl⟩
      obtain ⟨e2, r2⟩ := m2
      obtain ⟨m3, hm3⟩ : ∃ m, minusD nn (onePs.map PEl.dat) r1 = m := ⟨_, rfl⟩
      obtain ⟨e3, r3⟩ := m3
      have HM1 := Lib.hid hm1
      have HM2 := Lib.hid hm2
      by_cases hg : g1 = 0
      · subst hg
        have HIS := Lib.hid (fun W B kb cb (us : List PEl) (P : PiecesAt W B kb us) (I : IntsAt W A' k xs) (hd : us.map PEl.dat = r1) => show Calls Try.prog 29 #[setV nn B kb cb, .slice A' k c'] W fun e w' => e = .returned (.bool (!sv)) ∧ Below W.heap.size W w' by
          obtain ⟨g, e⟩ := minus_has hn12 hxl hpt hwl HLP.out (pieces_lens P) hvw hvs (hm1.trans (by rw [hd]))
          have := ref_sis nn B kb cb us A' k c' xs W P I hpt (by rw [hknn]; exact conds_good (pieces_lens P) g)
          rw [e, hw1, hsv, Bool.true_and] at this
          exact this)
        have HIN := Lib.hid (fun (us : List PEl) (hlu : ∀ p ∈ us, ∀ e ∈ p.els, e.xs.length = e.n) (hd : us.map PEl.dat = r1) => show (∀ p ∈ us, ∀ W B kb cb, CondsAt W B kb p.els → IntsAt W A' k xs → Calls Try.prog 30 #[.slice B kb cb, .slice A' k c'] W fun e w' => e = .returned (.bool (hasP xs p.els)) ∧ Below W.heap.size W w') ∧ us.any (fun p => hasP xs p.els) = !sv by
          obtain ⟨g, e⟩ := minus_has hn12 hxl hpt hwl HLP.out hlu hvw hvs (hm1.trans (by rw [hd]))
          refine ⟨fun p hp W B kb cb C I => ref_in B kb cb p.els A' k c' xs W C I hpt (by rw [hknn]; exact conds_good hlu g p hp), ?_⟩
          rw [hw1, hsv, Bool.true_and] at e
          exact e)
        have HIS2 := Lib.hid (fun (h2 : e2 = 0) W B kb cb (us : List PEl) (P : PiecesAt W B kb us) (I : IntsAt W A' k xs) (hd : us.map PEl.dat = r2) => show Calls Try.prog 29 #[setV nn B kb cb, .slice A' k c'] W fun e w' => e = .returned (.bool false) ∧ Below W.heap.size W w' by
          obtain ⟨g, e⟩ := minus_has hn12 hxl hpt HLP.out HLP.out (pieces_lens P) hvs hvs (hm2.trans (by rw [hd, h2]))
          have := ref_sis nn B kb cb us A' k c' xs W P I hpt (by rw [hknn]; exact conds_good (pieces_lens P) g)
          rw [e, Bool.and_not_self] at this
          exact this)
        have HVM0 := Lib.hid (fun W B kb (us : List PEl) (P : PiecesAt W B kb us) (hd : us.map PEl.dat = r1) => (minus_has hn12 hxl hpt hwl HLP.out (pieces_lens P) hvw hvs (hm1.trans (by rw [hd]))))
        have HIS3 := Lib.hid (fun (h3 : e3 = 0) (ms : List PEl) (hlm : ∀ p ∈ ms, ∀ e ∈ p.els, e.xs.length = e.n) (hdm : ms.map PEl.dat = r1) (hgm : GoodU nn (ms.map PEl.dat)) (hhm : hasS xs ms = !sv) W B kb cb (us : List PEl) (P : PiecesAt W B kb us) (I : IntsAt W A' k xs) (hd : us.map PEl.dat = r3) => show Calls Try.prog 29 #[setV nn B kb cb, .slice A' k c'] W fun e w' => e = .returned (.bool sv) ∧ Below W.heap.size W w' by
          obtain ⟨g, e⟩ := minus_has hn12 hxl hpt hwl hlm (pieces_lens P) hvw (valid_good hn12 hlm hgm) (by rw [hdm, hm3, hd, h3])
          have := ref_sis nn B kb cb us A' k c' xs W P I hpt (by rw [hknn]; exact conds_good (pieces_lens P) g)
          rw [e, hw1, hhm, Bool.true_and, Bool.not_not] at this
          exact this)
        have HN12 := Lib.hid hn12
        have HM3' := Lib.hid hm3
        have HSV := Lib.hid (fun W B kb (us : List PEl) (P : PiecesAt W B kb us) (hd : us.map PEl.dat = r1) => show hasS xs us = !sv by
          have := (HVM0.out W B kb us P hd).2
          rw [hw1, hsv, Bool.true_and] at this
          exact this)
        clear hvs hdim hpt hdd hn12 hxl hknn hsv hvw hmk hwl hw1 hm1 hm2 hm3 hv her
        cases sv
        · go_enter Try.func7, Try.ntmps7
          go_wp2_with (first
            | (go_at_call 10; refine (few_one _ 1 (by simp) P1).mono ?_; rintro e w1 ⟨rfl, hb⟩; rw [HF.out]; replace hB := below_step hB hb; replace P1 := P1.step hb; replace I1 := I1.step hb; replace X1 := X1.step hb; clear x0 x1 hb; have x0 := X1.c0; have x1 := X1.c1)
            | (go_at_call 12; refine (HW.out _).mono ?_; rintro e w2 ⟨Aw, nw, cw, rfl, Iw, hb⟩; have b9 := below_alloc w2 (.cells #[.int .i64 nn, .slice Aw nw cw] 24); have hx := below_step hb b9; replace hB := below_step hB hx; replace P1 := P1.step hx; replace I1 := I1.step hx; replace X1 := X1.step hx; replace Iw := Iw.step b9; have RW := SetBox.new w2 nn Aw nw cw; clear x0 x1 hb b9 hx; have x0 := X1.c0; have x1 := X1.c1; have y0 := RW.c0; have y1 := RW.c1)
            | (go_at_call 19; refine (set_has nn A n c ps A' k c' xs _ P1 I1).mono ?_; rintro e w3 ⟨rfl, hb⟩; rw [HV.out, HE.out]; replace hB := below_step hB hb; replace P1 := P1.step hb; replace I1 := I1.step hb; replace X1 := X1.step hb; replace Iw := Iw.step hb; replace RW := RW.step hb; clear x0 x1 y0 y1 hb; have x0 := X1.c0; have x1 := X1.c1; have y0 := RW.c0; have y1 := RW.c1)
            | (go_at_call 28; have t1 := T1; clear T1 t1; refine (minus_ok Iw P1 HVW.out HVP.out HM1.out).mono ?_; rintro e w4 hG; obtain ⟨Am, km, cm, us, rfl, Pm, -, hdm, -, hb⟩ := gather_ok hG; have b9 := below_alloc w4 (.cells #[.int .i64 nn, .slice Am km cm] 24); have hx := below_step hb b9; replace hB := below_step hB hx; replace P1 := P1.step hx; replace I1 := I1.step hx; replace X1 := X1.step hx; replace Iw := Iw.step hx; replace RW := RW.step hx; replace Pm := Pm.step b9; have RM := SetBox.new w4 nn Am km cm; have HDM := Lib.hid hdm; clear x0 x1 y0 y1 hb b9 hx hG hdm; have x0 := X1.c0; have x1 := X1.c1; have y0 := RW.c0; have y1 := RW.c1; have z0 := RM.c0; have z1 := RM.c1)
            | (go_at_call 29; have t1 := T2; clear T2 t1; refine (HIS.out _ Am km cm us Pm I1 HDM.out).mono ?_; rintro e w5 ⟨rfl, hb⟩; replace hB := below_step hB hb; replace P1 := P1.step hb; replace I1 := I1.step hb; replace X1 := X1.step hb; replace Iw := Iw.step hb; replace RW := RW.step hb; replace Pm := Pm.step hb; replace RM := RM.step hb; clear x0 x1 y0 y1 z0 z1 hb; have x0 := X1.c0; have x1 := X1.c1; have y0 := RW.c0; have y1 := RW.c1; have z0 := RM.c0; have z1 := RM.c1))
          have HLU := Lib.hid (pieces_lens Pm)
          have HINS := Lib.hid (HIN.out us HLU.out HDM.out)
          have HGM := Lib.hid (HVM0.out _ _ _ _ Pm HDM.out)
          have HSU := Lib.hid (HSV.out _ _ _ _ Pm HDM.out)
          have HVM := Lib.hid (valid_good HN12.out HLU.out HGM.out.1)
          have HKM := Lib.hid Pm.len
          have hkm : km ≤ 400 := by have h1 := HGM.out.1.2; have h2 := Pm.len; rw [List.length_map] at h1; omega
          have HM3 := Lib.hid (show minusD nn (onePs.map PEl.dat) (us.map PEl.dat) = (e3, r3) by rw [HDM.out]; exact HM3'.out)
          generalize hus : us = us0 at *
          clear hus
          go_loopw [11, 60] (fun u v wr => ∃ (i : Nat) (N : Int), i ≤ km ∧ v = .int .i64 i ∧ u = .int .i64 N ∧ (0 ≤ N ∧ N ≤ i) ∧ Hid (0 < N ↔ (us0.take i).any (fun p => hasP xs p.els) = true) ∧ Below w5.heap.size w5 wr) (fun _ v _ => km - (intOf v).toNat)
          case atStart => exact ⟨0, 0, Nat.zero_le _, rfl, rfl, by omega, Lib.hid (by simp), Below.refl _ _⟩
          case round =>
            obtain ⟨i, N, hi, rfl, rfl, ⟨hN0, hN1⟩, HG, hbr⟩ := hrel
            by_cases hlt : i < km
            · obtain ⟨b1, off1, p, rfl, hblt, hpj, hmem, hcell, hCp⟩ := (Pm.step hbr).at hlt
              have HPJ := Lib.hid hpj
              have HCA := Lib.hid (HINS.out.1 p hmem)
              have HAT := Lib.hid (any_take (f := fun p : PEl => hasP xs p.els) hpj)
              obtain ⟨pA, pn, pc, pels⟩ := p
              simp only at hcell hCp HCA HAT
              have hq1 : (i : Int) < km := by omega
              have I2 := I1.step hbr
              have hwN : IntKind.i64.wrap (N + 1) = N + 1 := IntWalk.i64_in _ (by omega)
              obtain ⟨hp, hhp⟩ : ∃ b, hasP xs pels = b := ⟨_, rfl⟩
              have HHP := Lib.hid hhp
              clear hmem hpj hhp
              cases hp
              · go_wp2_with (go_at_call 30; refine (HCA.out _ _ _ _ hCp I2).mono ?_; rintro e w1 ⟨rfl, hb⟩; rw [HHP.out]; replace hbr := hbr.trans (hb.mono hbr.size))
                go_roundw
                case rel => exact ⟨i + 1, N, by omega, by go_num, rfl, by omega, Lib.hid (by rw [HAT.out, HHP.out, Bool.or_false]; exact HG.out), hbr⟩
                case measure => simp [intOf]; omega
              · go_wp2_with (go_at_call 30; refine (HCA.out _ _ _ _ hCp I2).mono ?_; rintro e w1 ⟨rfl, hb⟩; rw [HHP.out]; replace hbr := hbr.trans (hb.mono hbr.size))
                go_roundw
                case rel => exact ⟨i + 1, N + 1, by omega, by go_num, by go_num, by omega, Lib.hid (by rw [HAT.out, HHP.out, Bool.or_true]; exact ⟨fun _ => rfl, fun _ => by omega⟩), hbr⟩
                case measure => simp [intOf]; omega
            · have hge : ¬ ((i : Int) < km) := by omega
              have hN : 0 < N := by
                have h1 := HG.out
                rw [List.take_of_length_le (by have := HKM.out; omega), HINS.out.2] at h1
                simp at h1
                omega
              have hN2 : ¬ N ≤ 0 := by omega
              replace hB := below_step hB hbr
              replace P1 := P1.step hbr
              replace I1 := I1.step hbr
              replace X1 := X1.step hbr
              replace Iw := Iw.step hbr
              replace RW := RW.step hbr
              replace Pm := Pm.step hbr
              replace RM := RM.step hbr
              clear x0 x1 y0 y1 z0 z1
              have x0 := X1.c0
              have x1 := X1.c1
              have y0 := RW.c0
              have y1 := RW.c1
              have z0 := RM.c0
              have z1 := RM.c1
              by_cases h2 : e2 = 0
              · subst h2
                have HIST := Lib.hid (HIS2.out rfl)
                by_cases h12 : km ≤ 12
                · have hk12 : (km : Int) ≤ 12 := by omega
                  by_cases h3 : e3 = 0
                  · subst h3
                    have HISR := Lib.hid (fun W B kb cb us P I hd => HIS3.out rfl us0 HLU.out HDM.out HGM.out.1 HSU.out W B kb cb us P I hd)
                    go_wp2_with (first
                      | (go_at_call 28; have t1 := T3; clear T3 t1; refine (minus_ok P1 P1 HVP.out HVP.out HM2.out).mono ?_; rintro e w6 hG; obtain ⟨A6, k6, c6, us6, rfl, P6, -, hd6, -, hb⟩ := gather_ok hG; have b9 := below_alloc w6 (.cells #[.int .i64 nn, .slice A6 k6 c6] 24); have hx := below_step hb b9; replace hB := below_step hB hx; replace P1 := P1.step hx; replace I1 := I1.step hx; replace X1 := X1.step hx; replace Iw := Iw.step hx; replace RW := RW.step hx; replace Pm := Pm.step hx; replace RM := RM.step hx; replace P6 := P6.step b9; have R6 := SetBox.new w6 nn A6 k6 c6; have HD6 := Lib.hid hd6; clear x0 x1 y0 y1 z0 z1 hb b9 hx hG hd6; have x0 := X1.c0; have x1 := X1.c1; have y0 := RW.c0; have y1 := RW.c1; have z0 := RM.c0; have z1 := RM.c1; have u0 := R6.c0; have u1 := R6.c1)
                      | (go_at_call 29; have t1 := T4; clear T4 t1; refine (HIST.out _ A6 k6 c6 us6 P6 I1 HD6.out).mono ?_; rintro e w7 ⟨rfl, hb⟩; replace hB := below_step hB hb; replace P1 := P1.step hb; replace I1 := I1.step hb; replace X1 := X1.step hb; replace Iw := Iw.step hb; replace RW := RW.step hb; replace Pm := Pm.step hb; replace RM := RM.step hb; clear x0 x1 y0 y1 z0 z1 u0 u1 hb; have x0 := X1.c0; have x1 := X1.c1; have y0 := RW.c0; have y1 := RW.c1; have z0 := RM.c0; have z1 := RM.c1)
                      | (go_at_call 28; refine (minus_ok Iw Pm HVW.out HVM.out HM3.out).mono ?_; rintro e w8 hG; obtain ⟨A8, k8, c8, us8, rfl, P8, -, hd8, -, hb⟩ := gather_ok hG; have b9 := below_alloc w8 (.cells #[.int .i64 nn, .slice A8 k8 c8] 24); have hx := below_step hb b9; replace hB := below_step hB hx; replace I1 := I1.step hx; replace P8 := P8.step b9; have R8 := SetBox.new w8 nn A8 k8 c8; have HD8 := Lib.hid hd8; clear x0 x1 y0 y1 z0 z1 hb b9 hx hG hd8; have v0 := R8.c0; have v1 := R8.c1)
                      | (go_at_call 29; refine (HISR.out _ A8 k8 c8 us8 P8 I1 HD8.out).mono ?_; rintro e w9 ⟨rfl, hb⟩; replace hB := below_step hB hb; clear hb)
                      | (go_at_call 11; refine (awake4 _).mono ?_; rintro e w9 ⟨rfl, hb⟩; replace hB := below_step hB hb))
                    go_ret
                    exact ⟨rfl, hB⟩
                  · have q3 : (e3 == 0) = false := by simpa using h3
                    have q3' : (e3 != 0) = true := by simpa using h3
                    go_wp2_with (first
                      | (go_at_call 28; have t1 := T3; clear T3 t1; refine (minus_ok P1 P1 HVP.out HVP.out HM2.out).mono ?_; rintro e w6 hG; obtain ⟨A6, k6, c6, us6, rfl, P6, -, hd6, -, hb⟩ := gather_ok hG; have b9 := below_alloc w6 (.cells #[.int .i64 nn, .slice A6 k6 c6] 24); have hx := below_step hb b9; replace hB := below_step hB hx; replace P1 := P1.step hx; replace I1 := I1.step hx; replace X1 := X1.step hx; replace Iw := Iw.step hx; replace RW := RW.step hx; replace Pm := Pm.step hx; replace RM := RM.step hx; replace P6 := P6.step b9; have R6 := SetBox.new w6 nn A6 k6 c6; have HD6 := Lib.hid hd6; clear x0 x1 y0 y1 z0 z1 hb b9 hx hG hd6; have x0 := X1.c0; have x1 := X1.c1; have y0 := RW.c0; have y1 := RW.c1; have z0 := RM.c0; have z1 := RM.c1; have u0 := R6.c0; have u1 := R6.c1)
                      | (go_at_call 29; have t1 := T4; clear T4 t1; refine (HIST.out _ A6 k6 c6 us6 P6 I1 HD6.out).mono ?_; rintro e w7 ⟨rfl, hb⟩; replace hB := below_step hB hb; replace P1 := P1.step hb; replace I1 := I1.step hb; replace X1 := X1.step hb; replace Iw := Iw.step hb; replace RW := RW.step hb; replace Pm := Pm.step hb; replace RM := RM.step hb; clear x0 x1 y0 y1 z0 z1 u0 u1 hb; have x0 := X1.c0; have x1 := X1.c1; have y0 := RW.c0; have y1 := RW.c1; have z0 := RM.c0; have z1 := RM.c1)
                      | (go_at_call 28; refine (minus_ok Iw Pm HVW.out HVM.out HM3.out).mono ?_; rintro e w8 hG; obtain ⟨A8, k8, c8, rfl, hb⟩ := gather_bad h3 hG; have b9 := below_alloc w8 (.cells #[.int .i64 0, .slice A8 k8 c8] 24); have hx := below_step hb b9; replace hB := below_step hB hx; clear x0 x1 y0 y1 z0 z1 hb b9 hx hG)
                      | (go_at_call 11; refine (awake4 _).mono ?_; rintro e w9 ⟨rfl, hb⟩; replace hB := below_step hB hb))
                    go_ret
                    exact ⟨rfl, hB⟩
                · have hk12 : ¬ (km : Int) ≤ 12 := by omega
                  have hk13 : 12 < (km : Int) := by omega
                  go_wp2_with (first
                    | (go_at_call 28; have t1 := T3; clear T3 t1; refine (minus_ok P1 P1 HVP.out HVP.out HM2.out).mono ?_; rintro e w6 hG; obtain ⟨A6, k6, c6, us6, rfl, P6, -, hd6, -, hb⟩ := gather_ok hG; have b9 := below_alloc w6 (.cells #[.int .i64 nn, .slice A6 k6 c6] 24); have hx := below_step hb b9; replace hB := below_step hB hx; replace P1 := P1.step hx; replace I1 := I1.step hx; replace X1 := X1.step hx; replace Iw := Iw.step hx; replace RW := RW.step hx; replace Pm := Pm.step hx; replace RM := RM.step hx; replace P6 := P6.step b9; have R6 := SetBox.new w6 nn A6 k6 c6; have HD6 := Lib.hid hd6; clear x0 x1 y0 y1 z0 z1 hb b9 hx hG hd6; have x0 := X1.c0; have x1 := X1.c1; have y0 := RW.c0; have y1 := RW.c1; have z0 := RM.c0; have z1 := RM.c1; have u0 := R6.c0; have u1 := R6.c1)
                    | (go_at_call 29; have t1 := T4; clear T4 t1; refine (HIST.out _ A6 k6 c6 us6 P6 I1 HD6.out).mono ?_; rintro e w7 ⟨rfl, hb⟩; replace hB := below_step hB hb; replace P1 := P1.step hb; replace I1 := I1.step hb; replace X1 := X1.step hb; replace Iw := Iw.step hb; replace RW := RW.step hb; replace Pm := Pm.step hb; replace RM := RM.step hb; clear x0 x1 y0 y1 z0 z1 u0 u1 hb; have x0 := X1.c0; have x1 := X1.c1; have y0 := RW.c0; have y1 := RW.c1; have z0 := RM.c0; have z1 := RM.c1)
                    | (go_at_call 11; refine (awake4 _).mono ?_; rintro e w9 ⟨rfl, hb⟩; replace hB := below_step hB hb))
                  go_ret
                  exact ⟨rfl, hB⟩
              · have q2 : (e2 == 0) = false := by simpa using h2
                have q2' : (e2 != 0) = true := by simpa using h2
                by_cases h12 : km ≤ 12
                · have hk12 : (km : Int) ≤ 12 := by omega
                  by_cases h3 : e3 = 0
                  · subst h3
                    have HISR := Lib.hid (fun W B kb cb us P I hd => HIS3.out rfl us0 HLU.out HDM.out HGM.out.1 HSU.out W B kb cb us P I hd)
                    go_wp2_with (first
                      | (go_at_call 28; have t1 := T3; clear T3 t1; refine (minus_ok P1 P1 HVP.out HVP.out HM2.out).mono ?_; rintro e w6 hG; obtain ⟨A6, k6, c6, rfl, hb⟩ := gather_bad h2 hG; have b9 := below_alloc w6 (.cells #[.int .i64 0, .slice A6 k6 c6] 24); have hx := below_step hb b9; replace hB := below_step hB hx; replace P1 := P1.step hx; replace I1 := I1.step hx; replace X1 := X1.step hx; replace Iw := Iw.step hx; replace RW := RW.step hx; replace Pm := Pm.step hx; replace RM := RM.step hx; clear x0 x1 y0 y1 z0 z1 hb b9 hx hG; have x0 := X1.c0; have x1 := X1.c1; have y0 := RW.c0; have y1 := RW.c1; have z0 := RM.c0; have z1 := RM.c1)
                      | (go_at_call 28; refine (minus_ok Iw Pm HVW.out HVM.out HM3.out).mono ?_; rintro e w8 hG; obtain ⟨A8, k8, c8, us8, rfl, P8, -, hd8, -, hb⟩ := gather_ok hG; have b9 := below_alloc w8 (.cells #[.int .i64 nn, .slice A8 k8 c8] 24); have hx := below_step hb b9; replace hB := below_step hB hx; replace I1 := I1.step hx; replace P8 := P8.step b9; have R8 := SetBox.new w8 nn A8 k8 c8; have HD8 := Lib.hid hd8; clear x0 x1 y0 y1 z0 z1 hb b9 hx hG hd8; have v0 := R8.c0; have v1 := R8.c1)
                      | (go_at_call 29; refine (HISR.out _ A8 k8 c8 us8 P8 I1 HD8.out).mono ?_; rintro e w9 ⟨rfl, hb⟩; replace hB := below_step hB hb; clear hb)
                      | (go_at_call 11; refine (awake4 _).mono ?_; rintro e w9 ⟨rfl, hb⟩; replace hB := below_step hB hb))
                    go_ret
                    exact ⟨rfl, hB⟩
                  · have q3 : (e3 == 0) = false := by simpa using h3
                    have q3' : (e3 != 0) = true := by simpa using h3
                    go_wp2_with (first
                      | (go_at_call 28; have t1 := T3; clear T3 t1; refine (minus_ok P1 P1 HVP.out HVP.out HM2.out).mono ?_; rintro e w6 hG; obtain ⟨A6, k6, c6, rfl, hb⟩ := gather_bad h2 hG; have b9 := below_alloc w6 (.cells #[.int .i64 0, .slice A6 k6 c6] 24); have hx := below_step hb b9; replace hB := below_step hB hx; replace P1 := P1.step hx; replace I1 := I1.step hx; replace X1 := X1.step hx; replace Iw := Iw.step hx; replace RW := RW.step hx; replace Pm := Pm.step hx; replace RM := RM.step hx; clear x0 x1 y0 y1 z0 z1 hb b9 hx hG; have x0 := X1.c0; have x1 := X1.c1; have y0 := RW.c0; have y1 := RW.c1; have z0 := RM.c0; have z1 := RM.c1)
                      | (go_at_call 28; refine (minus_ok Iw Pm HVW.out HVM.out HM3.out).mono ?_; rintro e w8 hG; obtain ⟨A8, k8, c8, rfl, hb⟩ := gather_bad h3 hG; have b9 := below_alloc w8 (.cells #[.int .i64 0, .slice A8 k8 c8] 24); have hx := below_step hb b9; replace hB := below_step hB hx; clear x0 x1 y0 y1 z0 z1 hb b9 hx hG)
                      | (go_at_call 11; refine (awake4 _).mono ?_; rintro e w9 ⟨rfl, hb⟩; replace hB := below_step hB hb))
                    go_ret
                    exact ⟨rfl, hB⟩
                · have hk12 : ¬ (km : Int) ≤ 12 := by omega
                  have hk13 : 12 < (km : Int) := by omega
                  go_wp2_with (first
                    | (go_at_call 28; have t1 := T3; clear T3 t1; refine (minus_ok P1 P1 HVP.out HVP.out HM2.out).mono ?_; rintro e w6 hG; obtain ⟨A6, k6, c6, rfl, hb⟩ := gather_bad h2 hG; have b9 := below_alloc w6 (.cells #[.int .i64 0, .slice A6 k6 c6] 24); have hx := below_step hb b9; replace hB := below_step hB hx; replace P1 := P1.step hx; replace I1 := I1.step hx; replace X1 := X1.step hx; replace Iw := Iw.step hx; replace RW := RW.step hx; replace Pm := Pm.step hx; replace RM := RM.step hx; clear x0 x1 y0 y1 z0 z1 hb b9 hx hG; have x0 := X1.c0; have x1 := X1.c1; have y0 := RW.c0; have y1 := RW.c1; have z0 := RM.c0; have z1 := RM.c1)
                    | (go_at_call 11; refine (awake4 _).mono ?_; rintro e w9 ⟨rfl, hb⟩; replace hB := below_step hB hb))
                  go_ret
                  exact ⟨rfl, hB⟩
        · go_enter Try.func7, Try.ntmps7
          go_wp2_with (first
            | (go_at_call 10; refine (few_one _ 1 (by simp) P1).mono ?_; rintro e w1 ⟨rfl, hb⟩; rw [HF.out]; replace hB := below_step hB hb; replace P1 := P1.step hb; replace I1 := I1.step hb; replace X1 := X1.step hb; clear x0 x1 hb; have x0 := X1.c0; have x1 := X1.c1)
            | (go_at_call 12; refine (HW.out _).mono ?_; rintro e w2 ⟨Aw, nw, cw, rfl, Iw, hb⟩; have b9 := below_alloc w2 (.cells #[.int .i64 nn, .slice Aw nw cw] 24); have hx := below_step hb b9; replace hB := below_step hB hx; replace P1 := P1.step hx; replace I1 := I1.step hx; replace X1 := X1.step hx; replace Iw := Iw.step b9; have RW := SetBox.new w2 nn Aw nw cw; clear x0 x1 hb b9 hx; have x0 := X1.c0; have x1 := X1.c1; have y0 := RW.c0; have y1 := RW.c1)
            | (go_at_call 19; refine (set_has nn A n c ps A' k c' xs _ P1 I1).mono ?_; rintro e w3 ⟨rfl, hb⟩; rw [HV.out, HE.out]; replace hB := below_step hB hb; replace P1 := P1.step hb; replace I1 := I1.step hb; replace X1 := X1.step hb; replace Iw := Iw.step hb; replace RW := RW.step hb; clear x0 x1 y0 y1 hb; have x0 := X1.c0; have x1 := X1.c1; have y0 := RW.c0; have y1 := RW.c1)
            | (go_at_call 28; have t1 := T1; clear T1 t1; refine (minus_ok Iw P1 HVW.out HVP.out HM1.out).mono ?_; rintro e w4 hG; obtain ⟨Am, km, cm, us, rfl, Pm, -, hdm, -, hb⟩ := gather_ok hG; have b9 := below_alloc w4 (.cells #[.int .i64 nn, .slice Am km cm] 24); have hx := below_step hb b9; replace hB := below_step hB hx; replace P1 := P1.step hx; replace I1 := I1.step hx; replace X1 := X1.step hx; replace Iw := Iw.step hx; replace RW := RW.step hx; replace Pm := Pm.step b9; have RM := SetBox.new w4 nn Am km cm; have HDM := Lib.hid hdm; clear x0 x1 y0 y1 hb b9 hx hG hdm; have x0 := X1.c0; have x1 := X1.c1; have y0 := RW.c0; have y1 := RW.c1; have z0 := RM.c0; have z1 := RM.c1)
            | (go_at_call 29; have t1 := T2; clear T2 t1; refine (HIS.out _ Am km cm us Pm I1 HDM.out).mono ?_; rintro e w5 ⟨rfl, hb⟩; replace hB := below_step hB hb; replace P1 := P1.step hb; replace I1 := I1.step hb; replace X1 := X1.step hb; replace Iw := Iw.step hb; replace RW := RW.step hb; replace Pm := Pm.step hb; replace RM := RM.step hb; clear x0 x1 y0 y1 z0 z1 hb; have x0 := X1.c0; have x1 := X1.c1; have y0 := RW.c0; have y1 := RW.c1; have z0 := RM.c0; have z1 := RM.c1))
          have HLU := Lib.hid (pieces_lens Pm)
          have HINS := Lib.hid (HIN.out us HLU.out HDM.out)
          have HGM := Lib.hid (HVM0.out _ _ _ _ Pm HDM.out)
          have HSU := Lib.hid (HSV.out _ _ _ _ Pm HDM.out)
          have HVM := Lib.hid (valid_good HN12.out HLU.out HGM.out.1)
          have HKM := Lib.hid Pm.len
          have hkm : km ≤ 400 := by have h1 := HGM.out.1.2; have h2 := Pm.len; rw [List.length_map] at h1; omega
          have HM3 := Lib.hid (show minusD nn (onePs.map PEl.dat) (us.map PEl.dat) = (e3, r3) by rw [HDM.out]; exact HM3'.out)
          generalize hus : us = us0 at *
          clear hus
          go_loopw [11, 60] (fun u v wr => ∃ (i : Nat) (N : Int), i ≤ km ∧ v = .int .i64 i ∧ u = .int .i64 N ∧ (0 ≤ N ∧ N ≤ i) ∧ Hid (0 < N ↔ (us0.take i).any (fun p => hasP xs p.els) = true) ∧ Below w5.heap.size w5 wr) (fun _ v _ => km - (intOf v).toNat)
          case atStart => exact ⟨0, 0, Nat.zero_le _, rfl, rfl, by omega, Lib.hid (by simp), Below.refl _ _⟩
          case round =>
            obtain ⟨i, N, hi, rfl, rfl, ⟨hN0, hN1⟩, HG, hbr⟩ := hrel
            by_cases hlt : i < km
            · obtain ⟨b1, off1, p, rfl, hblt, hpj, hmem, hcell, hCp⟩ := (Pm.step hbr).at hlt
              have HPJ := Lib.hid hpj
              have HCA := Lib.hid (HINS.out.1 p hmem)
              have HAT := Lib.hid (any_take (f := fun p : PEl => hasP xs p.els) hpj)
              obtain ⟨pA, pn, pc, pels⟩ := p
              simp only at hcell hCp HCA HAT
              have hq1 : (i : Int) < km := by omega
              have I2 := I1.step hbr
              have hwN : IntKind.i64.wrap (N + 1) = N + 1 := IntWalk.i64_in _ (by omega)
              obtain ⟨hp, hhp⟩ : ∃ b, hasP xs pels = b := ⟨_, rfl⟩
              have HHP := Lib.hid hhp
              clear hmem hpj hhp
              cases hp
              · go_wp2_with (go_at_call 30; refine (HCA.out _ _ _ _ hCp I2).mono ?_; rintro e w1 ⟨rfl, hb⟩; rw [HHP.out]; replace hbr := hbr.trans (hb.mono hbr.size))
                go_roundw
                case rel => exact ⟨i + 1, N, by omega, by go_num, rfl, by omega, Lib.hid (by rw [HAT.out, HHP.out, Bool.or_false]; exact HG.out), hbr⟩
                case measure => simp [intOf]; omega
              · go_wp2_with (go_at_call 30; refine (HCA.out _ _ _ _ hCp I2).mono ?_; rintro e w1 ⟨rfl, hb⟩; rw [HHP.out]; replace hbr := hbr.trans (hb.mono hbr.size))
                go_roundw
                case rel => exact ⟨i + 1, N + 1, by omega, by go_num, by go_num, by omega, Lib.hid (by rw [HAT.out, HHP.out, Bool.or_true]; exact ⟨fun _ => rfl, fun _ => by omega⟩), hbr⟩
                case measure => simp [intOf]; omega
            · have hge : ¬ ((i : Int) < km) := by omega
              have hN : N = 0 := by
                have h1 := HG.out
                rw [List.take_of_length_le (by have := HKM.out; omega), HINS.out.2] at h1
                simp at h1
                omega
              subst hN
              replace hB := below_step hB hbr
              replace P1 := P1.step hbr
              replace I1 := I1.step hbr
              replace X1 := X1.step hbr
              replace Iw := Iw.step hbr
              replace RW := RW.step hbr
              replace Pm := Pm.step hbr
              replace RM := RM.step hbr
              clear x0 x1 y0 y1 z0 z1
              have x0 := X1.c0
              have x1 := X1.c1
              have y0 := RW.c0
              have y1 := RW.c1
              have z0 := RM.c0
              have z1 := RM.c1
              by_cases h2 : e2 = 0
              · subst h2
                have HIST := Lib.hid (HIS2.out rfl)
                by_cases h12 : km ≤ 12
                · have hk12 : (km : Int) ≤ 12 := by omega
                  by_cases h3 : e3 = 0
                  · subst h3
                    have HISR := Lib.hid (fun W B kb cb us P I hd => HIS3.out rfl us0 HLU.out HDM.out HGM.out.1 HSU.out W B kb cb us P I hd)
                    go_wp2_with (first
                      | (go_at_call 28; have t1 := T3; clear T3 t1; refine (minus_ok P1 P1 HVP.out HVP.out HM2.out).mono ?_; rintro e w6 hG; obtain ⟨A6, k6, c6, us6, rfl, P6, -, hd6, -, hb⟩ := gather_ok hG; have b9 := below_alloc w6 (.cells #[.int .i64 nn, .slice A6 k6 c6] 24); have hx := below_step hb b9; replace hB := below_step hB hx; replace P1 := P1.step hx; replace I1 := I1.step hx; replace X1 := X1.step hx; replace Iw := Iw.step hx; replace RW := RW.step hx; replace Pm := Pm.step hx; replace RM := RM.step hx; replace P6 := P6.step b9; have R6 := SetBox.new w6 nn A6 k6 c6; have HD6 := Lib.hid hd6; clear x0 x1 y0 y1 z0 z1 hb b9 hx hG hd6; have x0 := X1.c0; have x1 := X1.c1; have y0 := RW.c0; have y1 := RW.c1; have z0 := RM.c0; have z1 := RM.c1; have u0 := R6.c0; have u1 := R6.c1)
                      | (go_at_call 29; have t1 := T4; clear T4 t1; refine (HIST.out _ A6 k6 c6 us6 P6 I1 HD6.out).mono ?_; rintro e w7 ⟨rfl, hb⟩; replace hB := below_step hB hb; replace P1 := P1.step hb; replace I1 := I1.step hb; replace X1 := X1.step hb; replace Iw := Iw.step hb; replace RW := RW.step hb; replace Pm := Pm.step hb; replace RM := RM.step hb; clear x0 x1 y0 y1 z0 z1 u0 u1 hb; have x0 := X1.c0; have x1 := X1.c1; have y0 := RW.c0; have y1 := RW.c1; have z0 := RM.c0; have z1 := RM.c1)
                      | (go_at_call 28; refine (minus_ok Iw Pm HVW.out HVM.out HM3.out).mono ?_; rintro e w8 hG; obtain ⟨A8, k8, c8, us8, rfl, P8, -, hd8, -, hb⟩ := gather_ok hG; have b9 := below_alloc w8 (.cells #[.int .i64 nn, .slice A8 k8 c8] 24); have hx := below_step hb b9; replace hB := below_step hB hx; replace I1 := I1.step hx; replace P8 := P8.step b9; have R8 := SetBox.new w8 nn A8 k8 c8; have HD8 := Lib.hid hd8; clear x0 x1 y0 y1 z0 z1 hb b9 hx hG hd8; have v0 := R8.c0; have v1 := R8.c1)
                      | (go_at_call 29; refine (HISR.out _ A8 k8 c8 us8 P8 I1 HD8.out).mono ?_; rintro e w9 ⟨rfl, hb⟩; replace hB := below_step hB hb; clear hb)
                      | (go_at_call 11; refine (awake4 _).mono ?_; rintro e w9 ⟨rfl, hb⟩; replace hB := below_step hB hb))
                    go_ret
                    exact ⟨rfl, hB⟩
                  · have q3 : (e3 == 0) = false := by simpa using h3
                    have q3' : (e3 != 0) = true := by simpa using h3
                    go_wp2_with (first
                      | (go_at_call 28; have t1 := T3; clear T3 t1; refine (minus_ok P1 P1 HVP.out HVP.out HM2.out).mono ?_; rintro e w6 hG; obtain ⟨A6, k6, c6, us6, rfl, P6, -, hd6, -, hb⟩ := gather_ok hG; have b9 := below_alloc w6 (.cells #[.int .i64 nn, .slice A6 k6 c6] 24); have hx := below_step hb b9; replace hB := below_step hB hx; replace P1 := P1.step hx; replace I1 := I1.step hx; replace X1 := X1.step hx; replace Iw := Iw.step hx; replace RW := RW.step hx; replace Pm := Pm.step hx; replace RM := RM.step hx; replace P6 := P6.step b9; have R6 := SetBox.new w6 nn A6 k6 c6; have HD6 := Lib.hid hd6; clear x0 x1 y0 y1 z0 z1 hb b9 hx hG hd6; have x0 := X1.c0; have x1 := X1.c1; have y0 := RW.c0; have y1 := RW.c1; have z0 := RM.c0; have z1 := RM.c1; have u0 := R6.c0; have u1 := R6.c1)
                      | (go_at_call 29; have t1 := T4; clear T4 t1; refine (HIST.out _ A6 k6 c6 us6 P6 I1 HD6.out).mono ?_; rintro e w7 ⟨rfl, hb⟩; replace hB := below_step hB hb; replace P1 := P1.step hb; replace I1 := I1.step hb; replace X1 := X1.step hb; replace Iw := Iw.step hb; replace RW := RW.step hb; replace Pm := Pm.step hb; replace RM := RM.step hb; clear x0 x1 y0 y1 z0 z1 u0 u1 hb; have x0 := X1.c0; have x1 := X1.c1; have y0 := RW.c0; have y1 := RW.c1; have z0 := RM.c0; have z1 := RM.c1)
                      | (go_at_call 28; refine (minus_ok Iw Pm HVW.out HVM.out HM3.out).mono ?_; rintro e w8 hG; obtain ⟨A8, k8, c8, rfl, hb⟩ := gather_bad h3 hG; have b9 := below_alloc w8 (.cells #[.int .i64 0, .slice A8 k8 c8] 24); have hx := below_step hb b9; replace hB := below_step hB hx; clear x0 x1 y0 y1 z0 z1 hb b9 hx hG)
                      | (go_at_call 11; refine (awake4 _).mono ?_; rintro e w9 ⟨rfl, hb⟩; replace hB := below_step hB hb))
                    go_ret
                    exact ⟨rfl, hB⟩
                · have hk12 : ¬ (km : Int) ≤ 12 := by omega
                  have hk13 : 12 < (km : Int) := by omega
                  go_wp2_with (first
                    | (go_at_call 28; have t1 := T3; clear T3 t1; refine (minus_ok P1 P1 HVP.out HVP.out HM2.out).mono ?_; rintro e w6 hG; obtain ⟨A6, k6, c6, us6, rfl, P6, -, hd6, -, hb⟩ := gather_ok hG; have b9 := below_alloc w6 (.cells #[.int .i64 nn, .slice A6 k6 c6] 24); have hx := below_step hb b9; replace hB := below_step hB hx; replace P1 := P1.step hx; replace I1 := I1.step hx; replace X1 := X1.step hx; replace Iw := Iw.step hx; replace RW := RW.step hx; replace Pm := Pm.step hx; replace RM := RM.step hx; replace P6 := P6.step b9; have R6 := SetBox.new w6 nn A6 k6 c6; have HD6 := Lib.hid hd6; clear x0 x1 y0 y1 z0 z1 hb b9 hx hG hd6; have x0 := X1.c0; have x1 := X1.c1; have y0 := RW.c0; have y1 := RW.c1; have z0 := RM.c0; have z1 := RM.c1; have u0 := R6.c0; have u1 := R6.c1)
                    | (go_at_call 29; have t1 := T4; clear T4 t1; refine (HIST.out _ A6 k6 c6 us6 P6 I1 HD6.out).mono ?_; rintro e w7 ⟨rfl, hb⟩; replace hB := below_step hB hb; replace P1 := P1.step hb; replace I1 := I1.step hb; replace X1 := X1.step hb; replace Iw := Iw.step hb; replace RW := RW.step hb; replace Pm := Pm.step hb; replace RM := RM.step hb; clear x0 x1 y0 y1 z0 z1 u0 u1 hb; have x0 := X1.c0; have x1 := X1.c1; have y0 := RW.c0; have y1 := RW.c1; have z0 := RM.c0; have z1 := RM.c1)
                    | (go_at_call 11; refine (awake4 _).mono ?_; rintro e w9 ⟨rfl, hb⟩; replace hB := below_step hB hb))
                  go_ret
                  exact ⟨rfl, hB⟩
              · have q2 : (e2 == 0) = false := by simpa using h2
                have q2' : (e2 != 0) = true := by simpa using h2
                by_cases h12 : km ≤ 12
                · have hk12 : (km : Int) ≤ 12 := by omega
                  by_cases h3 : e3 = 0
                  · subst h3
                    have HISR := Lib.hid (fun W B kb cb us P I hd => HIS3.out rfl us0 HLU.out HDM.out HGM.out.1 HSU.out W B kb cb us P I hd)
                    go_wp2_with (first
                      | (go_at_call 28; have t1 := T3; clear T3 t1; refine (minus_ok P1 P1 HVP.out HVP.out HM2.out).mono ?_; rintro e w6 hG; obtain ⟨A6, k6, c6, rfl, hb⟩ := gather_bad h2 hG; have b9 := below_alloc w6 (.cells #[.int .i64 0, .slice A6 k6 c6] 24); have hx := below_step hb b9; replace hB := below_step hB hx; replace P1 := P1.step hx; replace I1 := I1.step hx; replace X1 := X1.step hx; replace Iw := Iw.step hx; replace RW := RW.step hx; replace Pm := Pm.step hx; replace RM := RM.step hx; clear x0 x1 y0 y1 z0 z1 hb b9 hx hG; have x0 := X1.c0; have x1 := X1.c1; have y0 := RW.c0; have y1 := RW.c1; have z0 := RM.c0; have z1 := RM.c1)
                      | (go_at_call 28; refine (minus_ok Iw Pm HVW.out HVM.out HM3.out).mono ?_; rintro e w8 hG; obtain ⟨A8, k8, c8, us8, rfl, P8, -, hd8, -, hb⟩ := gather_ok hG; have b9 := below_alloc w8 (.cells #[.int .i64 nn, .slice A8 k8 c8] 24); have hx := below_step hb b9; replace hB := below_step hB hx; replace I1 := I1.step hx; replace P8 := P8.step b9; have R8 := SetBox.new w8 nn A8 k8 c8; have HD8 := Lib.hid hd8; clear x0 x1 y0 y1 z0 z1 hb b9 hx hG hd8; have v0 := R8.c0; have v1 := R8.c1)
                      | (go_at_call 29; refine (HISR.out _ A8 k8 c8 us8 P8 I1 HD8.out).mono ?_; rintro e w9 ⟨rfl, hb⟩; replace hB := below_step hB hb; clear hb)
                      | (go_at_call 11; refine (awake4 _).mono ?_; rintro e w9 ⟨rfl, hb⟩; replace hB := below_step hB hb))
                    go_ret
                    exact ⟨rfl, hB⟩
                  · have q3 : (e3 == 0) = false := by simpa using h3
                    have q3' : (e3 != 0) = true := by simpa using h3
                    go_wp2_with (first
                      | (go_at_call 28; have t1 := T3; clear T3 t1; refine (minus_ok P1 P1 HVP.out HVP.out HM2.out).mono ?_; rintro e w6 hG; obtain ⟨A6, k6, c6, rfl, hb⟩ := gather_bad h2 hG; have b9 := below_alloc w6 (.cells #[.int .i64 0, .slice A6 k6 c6] 24); have hx := below_step hb b9; replace hB := below_step hB hx; replace P1 := P1.step hx; replace I1 := I1.step hx; replace X1 := X1.step hx; replace Iw := Iw.step hx; replace RW := RW.step hx; replace Pm := Pm.step hx; replace RM := RM.step hx; clear x0 x1 y0 y1 z0 z1 hb b9 hx hG; have x0 := X1.c0; have x1 := X1.c1; have y0 := RW.c0; have y1 := RW.c1; have z0 := RM.c0; have z1 := RM.c1)
                      | (go_at_call 28; refine (minus_ok Iw Pm HVW.out HVM.out HM3.out).mono ?_; rintro e w8 hG; obtain ⟨A8, k8, c8, rfl, hb⟩ := gather_bad h3 hG; have b9 := below_alloc w8 (.cells #[.int .i64 0, .slice A8 k8 c8] 24); have hx := below_step hb b9; replace hB := below_step hB hx; clear x0 x1 y0 y1 z0 z1 hb b9 hx hG)
                      | (go_at_call 11; refine (awake4 _).mono ?_; rintro e w9 ⟨rfl, hb⟩; replace hB := below_step hB hb))
                    go_ret
                    exact ⟨rfl, hB⟩
                · have hk12 : ¬ (km : Int) ≤ 12 := by omega
                  have hk13 : 12 < (km : Int) := by omega
                  go_wp2_with (first
                    | (go_at_call 28; have t1 := T3; clear T3 t1; refine (minus_ok P1 P1 HVP.out HVP.out HM2.out).mono ?_; rintro e w6 hG; obtain ⟨A6, k6, c6, rfl, hb⟩ := gather_bad h2 hG; have b9 := below_alloc w6 (.cells #[.int .i64 0, .slice A6 k6 c6] 24); have hx := below_step hb b9; replace hB := below_step hB hx; replace P1 := P1.step hx; replace I1 := I1.step hx; replace X1 := X1.step hx; replace Iw := Iw.step hx; replace RW := RW.step hx; replace Pm := Pm.step hx; replace RM := RM.step hx; clear x0 x1 y0 y1 z0 z1 hb b9 hx hG; have x0 := X1.c0; have x1 := X1.c1; have y0 := RW.c0; have y1 := RW.c1; have z0 := RM.c0; have z1 := RM.c1)
                    | (go_at_call 11; refine (awake4 _).mono ?_; rintro e w9 ⟨rfl, hb⟩; replace hB := below_step hB hb))
                  go_ret
                  exact ⟨rfl, hB⟩
      · have q1 : (g1 != 0) = true := by simpa using hg
        have q1' : (g1 == 0) = false := by simpa using hg
        have HIW := Lib.hid HW.out
        clear hvs hdim hpt hdd hn12 hxl hknn hsv hvw hmk hwl hw1 hm1 hm2 hm3 hv her
        go_enter Try.func7, Try.ntmps7
        go_wp2_with (first
          | (go_at_call 10; refine (few_one _ 1 (by simp) P1).mono ?_; rintro e w1 ⟨rfl, hb⟩; rw [HF.out]; replace hB := below_step hB hb; replace P1 := P1.step hb; replace I1 := I1.step hb; replace X1 := X1.step hb; clear x0 x1 hb; have x0 := X1.c0; have x1 := X1.c1)
          | (go_at_call 12; refine (HW.out _).mono ?_; rintro e w2 ⟨Aw, nw, cw, rfl, Iw, hb⟩; have b9 := below_alloc w2 (.cells #[.int .i64 nn, .slice Aw nw cw] 24); have hx := below_step hb b9; replace hB := below_step hB hx; replace P1 := P1.step hx; replace I1 := I1.step hx; replace X1 := X1.step hx; replace Iw := Iw.step b9; have RW := SetBox.new w2 nn Aw nw cw; clear x0 x1 hb b9 hx; have x0 := X1.c0; have x1 := X1.c1; have y0 := RW.c0; have y1 := RW.c1)
          | (go_at_call 19; refine (set_has nn A n c ps A' k c' xs _ P1 I1).mono ?_; rintro e w3 ⟨rfl, hb⟩; rw [HV.out, HE.out]; replace hB := below_step hB hb; replace P1 := P1.step hb; replace I1 := I1.step hb; replace X1 := X1.step hb; replace Iw := Iw.step hb; replace RW := RW.step hb; clear x0 x1 y0 y1 hb; have x0 := X1.c0; have x1 := X1.c1; have y0 := RW.c0; have y1 := RW.c1)
          | (go_at_call 28; refine (minus_ok Iw P1 HVW.out HVP.out HM1.out).mono ?_; rintro e w4 hG; obtain ⟨Am, km, cm, rfl, hb⟩ := gather_bad hg hG; replace hB := below_step hB (below_step hb (below_alloc w4 (.cells #[.int .i64 0, .slice Am km cm] 24))); clear hG hb)
          | (go_at_call 11; refine (awake4 _).mono ?_; rintro e w9 ⟨rfl, hb⟩; replace hB := below_step hB hb))
        go_ret
        exact ⟨rfl, hB⟩
    · have q0 : (er != 0) = true := by simpa using h0
      have q0' : (er == 0) = false := by simpa using h0
      have HW := Lib.hid (fun W => set_whole D W)
      generalize mD D = md at HW
      generalize mPs D = mp at HW
      generalize mErr D = me at HW
      clear hv her
      by_cases hme : me = 0
      · subst hme
        go_enter Try.func7, Try.ntmps7
        go_wp2_with (first
          | (go_at_call 10; refine (few_one _ 1 (by simp) P1).mono ?_; rintro e w1 ⟨rfl, hb⟩; rw [HF.out]; replace hB := below_step hB hb; replace P1 := P1.step hb; replace I1 := I1.step hb; replace X1 := X1.step hb; clear x0 x1 hb; have x0 := X1.c0; have x1 := X1.c1)
          | (go_at_call 12; refine (HW.out _).mono ?_; rintro e w2 ⟨Aw, nw, cw, rfl, Iw, hb⟩; have b9 := below_alloc w2 (.cells #[.int .i64 md, .slice Aw nw cw] 24); have hx := below_step hb b9; replace hB := below_step hB hx; replace P1 := P1.step hx; replace I1 := I1.step hx; replace X1 := X1.step hx; replace Iw := Iw.step b9; have RW := SetBox.new w2 md Aw nw cw; clear x0 x1 hb b9 hx; have x0 := X1.c0; have x1 := X1.c1; have y0 := RW.c0; have y1 := RW.c1)
          | (go_at_call 19; refine (set_has D A n c ps A' k c' xs _ P1 I1).mono ?_; rintro e w3 ⟨rfl, hb⟩; rw [HV.out, HE.out]; replace hB := below_step hB hb; replace P1 := P1.step hb; replace I1 := I1.step hb; replace X1 := X1.step hb; replace Iw := Iw.step hb; replace RW := RW.step hb; clear x0 x1 y0 y1 hb; have x0 := X1.c0; have x1 := X1.c1; have y0 := RW.c0; have y1 := RW.c1)
          | (go_at_call 28; refine (minus_any md Aw nw cw mp D A n c ps _ Iw P1).mono ?_; rintro e w4 ⟨D2, A2, k2, c2, g2, rfl, hb⟩; replace hB := below_step hB (below_step hb (below_alloc w4 (.cells #[.int .i64 D2, .slice A2 k2 c2] 24))); clear hb)
          | (go_at_call 11; refine (awake4 _).mono ?_; rintro e w9 ⟨rfl, hb⟩; replace hB := below_step hB hb))
        go_ret
        exact ⟨rfl, hB⟩
      · have q1 : (me != 0) = true := by simpa using hme
        have q1' : (me == 0) = false := by simpa using hme
        go_enter Try.func7, Try.ntmps7
        go_wp2_with (first
          | (go_at_call 10; refine (few_one _ 1 (by simp) P1).mono ?_; rintro e w1 ⟨rfl, hb⟩; rw [HF.out]; replace hB := below_step hB hb; replace P1 := P1.step hb; replace I1 := I1.step hb; replace X1 := X1.step hb; clear x0 x1 hb; have x0 := X1.c0; have x1 := X1.c1)
          | (go_at_call 12; refine (HW.out _).mono ?_; rintro e w2 ⟨Aw, nw, cw, rfl, Iw, hb⟩; have b9 := below_alloc w2 (.cells #[.int .i64 md, .slice Aw nw cw] 24); have hx := below_step hb b9; replace hB := below_step hB hx; replace P1 := P1.step hx; replace I1 := I1.step hx; replace X1 := X1.step hx; replace Iw := Iw.step b9; have RW := SetBox.new w2 md Aw nw cw; clear x0 x1 hb b9 hx; have x0 := X1.c0; have x1 := X1.c1; have y0 := RW.c0; have y1 := RW.c1)
          | (go_at_call 19; refine (set_has D A n c ps A' k c' xs _ P1 I1).mono ?_; rintro e w3 ⟨rfl, hb⟩; rw [HV.out, HE.out]; replace hB := below_step hB hb; replace P1 := P1.step hb; replace I1 := I1.step hb; replace X1 := X1.step hb; replace Iw := Iw.step hb; replace RW := RW.step hb; clear x0 x1 y0 y1 hb; have x0 := X1.c0; have x1 := X1.c1; have y0 := RW.c0; have y1 := RW.c1)
          | (go_at_call 28; refine (minus_any md Aw nw cw mp D A n c ps _ Iw P1).mono ?_; rintro e w4 ⟨D2, A2, k2, c2, g2, rfl, hb⟩; replace hB := below_step hB (below_step hb (below_alloc w4 (.cells #[.int .i64 D2, .slice A2 k2 c2] 24))); clear hb)
          | (go_at_call 11; refine (awake4 _).mono ?_; rintro e w9 ⟨rfl, hb⟩; replace hB := below_step hB hb))
        go_ret
        exact ⟨rfl, hB⟩

set_option maxRecDepth 100000 in
theorem lifted (os : Os) (started : os.Started) (H : Type) (enc : TypeId × Value → H) :
    ReturnsInHanded {} Try.checked os 7 .any (Rows.setApartSpec.pre6 enc Try.prog Try.f7 Rows.setApartRow.domain false) (Rows.setApartSpec.post enc Try.prog Try.f7 false true false false) := by
  refine returnsInHanded_of_change_sized (C := Try.checked) own started (by kernel_rfl) Try.func7
    (ChangeSpec.witness6 (enc := enc) (C := Try.checked) false ⟨#[], #[.agg #[.int .i64 0, .slice none 0 0], .slice none 0 0], []⟩ 8 (by kernel_rfl) (by kernel_rfl) (by kernel_rfl) (by kernel_rfl)) ?_
  intro W base args ds gs before hval0 hW _ hsz0 _
  have hval : ∀ (j : Nat) t v, Try.f7.params[j]? = some t → args[j]? = some v → Value.okWide Try.prog W .any base t v := hval0
  have hW' := hW
  have hlt := hW.lt
  obtain ⟨p, q, hA0, hV, rfl, hfz, hnd⟩ := hW
  have hA : DataW.TrodAll enc Try.prog W 0 (fun _ => true) true Try.f7.params.toList args.toList ds p := hA0
  have hsz : (DataW.weightsEach Try.prog (Try.f7.params.toList ++ []) (ds ++ gs)).all (· ≤ reachBytes) = true := hsz0
  rw [Try.params7] at hA hval hsz
  obtain ⟨rfl, rfl⟩ := trodVars_none hV
  obtain ⟨v0, vs0, d0, ds0, p0, q0, hargs, rfl, rfl, h0, r0⟩ := trodAll_cons hA
  obtain ⟨v1, vs1, d1, ds1, p1, q1, rfl, rfl, rfl, h1, r1⟩ := trodAll_cons r0
  obtain ⟨rfl, rfl, rfl⟩ := trodAll_nil r1
  obtain rfl : args = #[v0, v1] := by cases args; simp_all
  obtain ⟨z0, hsz⟩ := weights_cons hsz
  obtain ⟨z1, hsz⟩ := weights_cons hsz
  have hpost : ∀ W' : World, Below W.heap.size W W' → ∃ v, Ending.returned (.bool true) = .returned v ∧ Rows.setApartSpec.post enc Try.prog Try.f7 false true false false W #[v0, v1] v W' :=
    fun W' hb => ⟨_, rfl, law_post laidOut (of_decide_eq_true (by kernel_rfl)) rfl rfl Try.underlying4 rfl hW' hb⟩
  obtain ⟨D0, A0, n0, c0, ps0, rfl, I0, k0⟩ := set_of (hval 0 24 v0 rfl rfl) (fun x hx => hlt x (by simp only [List.mem_append]; simp [hx])) z0 h0
  obtain ⟨A1, n1, c1, xs1, rfl, I1⟩ := ints_of Try.underlying33 Try.underlying3 (by kernel_rfl) (by kernel_rfl) (hval 1 33 v1 rfl rfl) (fun x hx => hlt x (by simp only [List.mem_append]; simp [hx])) z1 h1
  refine (walk D0 A0 n0 c0 ps0 I0 k0 A1 n1 c1 xs1 I1 (w := W)).mono fun e W' ⟨he, hb⟩ => ?_
  subst he
  exact hpost W' hb

theorem proved : Rows.SetApartSaid :=
  OpenClaim.holds_of_wide 7 Try.f7 rfl rfl rfl rfl rfl rfl rfl ⟨rfl, rfl, rfl, rfl, rfl⟩ rfl rfl rfl rfl rfl (by kernel_rfl) Try.func7 (by kernel_rfl)
    (of_decide_eq_true (by kernel_rfl)) (by unfold Func.isWrapper; first | (rw [if_pos (by decide +kernel)]; kernel_rfl) | (rw [if_neg (by decide +kernel)]; exact ⟨rfl, rfl⟩))
    (fun os started H enc _ => lifted os started H enc)
#print axioms proved
end Go.Proofs.Ytkgnlloioaobiaa.setApart
