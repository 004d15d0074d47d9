/-
  Part 9 of the texts that the laws stand on, merged: what each part says stands at its own head.
-/
import Derived.Test.YtkgnlloioaobiaaGreatMh
set_option linter.unusedVariables false
set_option linter.unusedSimpArgs false
set_option maxRecDepth 100000
namespace Go.Proofs.YtkgnlloioaobiaaGreat
open Go.RowKit Go.Shelf
theorem neg_few {q M : Int} {n : Nat} {xs : List Int} {K : Int} : (negL q M n xs K).length ≤ 400 := by
  unfold negL
  split
  · split
    · simp
    · rename_i h
      unfold negFull at h
      have h2 : ¬ 400 < (negOut n (oppL q M n xs K)).length := fun h9 => h (by rw [Bool.or_eq_true]; exact .inr (decide_eq_true h9))
      omega
  · simp
theorem flat_snoc2 {α β : Type} (f : α → List β) {l : List α} {i : Nat} {x : α} (h : l[i]? = some x) : (l.take (i + 1)).flatMap f = (l.take i).flatMap f ++ f x := by
  obtain ⟨hi, rfl⟩ := List.getElem?_eq_some_iff.1 h
  rw [List.take_succ_eq_append_getElem hi, List.flatMap_append]
  simp
theorem minus_err {n : Nat} {ps qs : List (List CD)} (h : (gatherD n ps).1 ≠ 0 ∨ (gatherD n qs).1 ≠ 0) : (minusD n ps qs).1 = 3 := by
  unfold minusD
  split
  · rename_i h1; exact (gather_errs n ps).resolve_left h1
  · rename_i h1
    rw [if_pos (h.resolve_left h1)]
    exact (gather_errs n qs).resolve_left (h.resolve_left h1)
set_option maxHeartbeats 8000000 in
theorem ref_minus (D : Int) (A : Option Addr) (n c : Nat) (ps : List PEl) (A' : Option Addr) (n' c' : Nat) (ps' : List PEl) (w : World) (h : PiecesAt w A n ps) (h' : PiecesAt w A' n' ps') (hv1 : validS D ps = true) (hv2 : validS D ps' = true) :
    Calls Tryz.prog 19 #[setV D A n c, setV D A' n' c'] w fun e w' => GatherRet D.toNat w e w' D (minusD D.toNat (ps.map PEl.dat) (ps'.map PEl.dat)) := by
  have HE := Lib.hid (show bothE D ps D ps' = 0 by unfold bothE; rw [if_pos ⟨hv1, hv2⟩, if_pos rfl])
  have hn12 : D.toNat ≤ 12 := by have := (valid_parts hv1).1; omega
  have HN1 := Lib.hid (fun W (I : PiecesAt W A n ps) => ref_normals D A n c ps W I hv1)
  have HN2 := Lib.hid (fun W (I : PiecesAt W A' n' ps') => ref_normals D A' n' c' ps' W I hv2)
  have hB := below_step (below_step (below_alloc w (.cells #[.int .i64 D, .slice A n c] 24)) (below_alloc _ (.cells #[.int .i64 D, .slice A' n' c'] 24))) (below_alloc _ (.cells #[.int .i64 0, .slice none 0 0] 24))
  have X1 := ((SetBox.new w D A n c).alloc (.cells #[.int .i64 D, .slice A' n' c'] 24)).alloc (.cells #[.int .i64 0, .slice none 0 0] 24)
  have X2 := (SetBox.new (w.alloc (.cells #[.int .i64 D, .slice A n c] 24)) D A' n' c').alloc (.cells #[.int .i64 0, .slice none 0 0] 24)
  have X3 := SetBox.new ((w.alloc (.cells #[.int .i64 D, .slice A n c] 24)).alloc (.cells #[.int .i64 D, .slice A' n' c'] 24)) 0 none 0 0
  have P1 := h.step hB
  have P2 := h'.step hB
  have HG1 := Lib.hid (show (∀ u ∈ (gatherD D.toNat (ps.map PEl.dat)).2, Idem D.toNat u) ∧ GoodU D.toNat (gatherD D.toNat (ps.map PEl.dat)).2 from by
    have key : ∀ ds ∈ ps.map PEl.dat, KindsOk D.toNat ds ∧ ∀ z ∈ normOut D.toNat ds, NormD D.toNat z := fun ds hds => by
      obtain ⟨p, hp, rfl⟩ := List.mem_map.1 hds
      have h9 := (valid_parts hv1).2 p hp
      refine ⟨fun d hd => ?_, norm_all (h.conds p hp).ints h9.1⟩
      obtain ⟨e, he, rfl⟩ := List.mem_map.1 hd
      obtain ⟨h1, h2, _⟩ := h9.1 e he
      exact ⟨h2, by rw [← h1]; exact ((h.conds p hp).ints e he).len⟩
    exact ⟨gather_idem key, gather_good fun ds hds => (key ds hds).1⟩)
  have HG2 := Lib.hid (show GoodU D.toNat (gatherD D.toNat (ps'.map PEl.dat)).2 from gather_good fun ds hds d hd => by
    obtain ⟨p, hp, rfl⟩ := List.mem_map.1 hds
    have h9 := (valid_parts hv2).2 p hp
    obtain ⟨e, he, rfl⟩ := List.mem_map.1 hd
    obtain ⟨h1, h2, _⟩ := h9.1 e he
    exact ⟨h2, by rw [← h1]; exact ((h'.conds p hp).ints e he).len⟩)
  obtain ⟨nn, hnn⟩ : ∃ nn, D.toNat = nn := ⟨_, rfl⟩
  rw [hnn] at HN1 HN2 HG1 HG2 hn12 ⊢
  obtain ⟨md, hmd⟩ : ∃ md, minusD nn (ps.map PEl.dat) (ps'.map PEl.dat) = md := ⟨_, rfl⟩
  rw [hmd]
  have HME := Lib.hid (fun hh : (gatherD nn (ps.map PEl.dat)).1 ≠ 0 ∨ (gatherD nn (ps'.map PEl.dat)).1 ≠ 0 => (show md.1 = 3 from by rw [← hmd]; exact minus_err hh))
  have HMD := Lib.hid hmd
  clear hmd hnn hv1 hv2 h h'
  obtain ⟨m1, hm1⟩ : ∃ m1, gatherD nn (ps.map PEl.dat) = m1 := ⟨_, rfl⟩
  obtain ⟨m2, hm2⟩ : ∃ m2, gatherD nn (ps'.map PEl.dat) = m2 := ⟨_, rfl⟩
  rw [hm1] at HN1 HG1 HME
  rw [hm2] at HN2 HG2 HME
  have HM1 := Lib.hid hm1
  have HM2 := Lib.hid hm2
  obtain ⟨D3, hD3⟩ : ∃ D3, (if m1.1 ≠ 0 then (0 : Int) else D) = D3 := ⟨_, rfl⟩
  obtain ⟨D4, hD4⟩ : ∃ D4, (if m2.1 ≠ 0 then (0 : Int) else D) = D4 := ⟨_, rfl⟩
  have HD3 := Lib.hid hD3
  have HD4 := Lib.hid hD4
  have x0 := X1.c0
  have x1 := X1.c1
  have y0 := X2.c0
  have y1 := X2.c1
  simp only [World.size_alloc] at X2 X3 y0 y1
  have T1 : True := trivial
  have HSZ0 := Lib.hid hB.size
  clear hm1 hm2 hD3 hD4
  by_cases h1 : m1.1 = 0
  · by_cases h2 : m2.1 = 0
    · have q1 : (m1.1 != 0) = false := by simpa using h1
      have q2 : (m2.1 != 0) = false := by simpa using h2
      have q3 : (m1.1 == 0) = true := by simpa using h1
      have q4 : (m2.1 == 0) = true := by simpa using h2
      have H1 := Lib.hid h1
      have H2 := Lib.hid h2
      clear h1 h2
      go_enter Tryz.func19, Tryz.ntmps19
      go_wp2_with (first | (go_at_call 50; refine (ref_boths D A n c ps D A' n' c' ps' _ P1 P2).mono ?_; rintro e w1 ⟨rfl, hb⟩; rw [HE.out]; replace hB := below_step hB hb; replace P1 := P1.step hb; replace P2 := P2.step hb; replace X1 := X1.step hb; replace X2 := X2.step hb; replace X3 := X3.step hb; have HL3 := Lib.hid X3.lt; clear hb x0 x1 y0 y1; have x0 := X1.c0; have x1 := X1.c1; have y0 := X2.c0; have y1 := X2.c1) | (go_at_call 12; have t1 := T1; clear T1 t1; refine (HN1.out _ P1).mono ?_; rintro e w2 ⟨A3, k3, c3, us0, rfl, hP3, hok3, hd3, hA3, hb⟩; rw [HD3.out]; have b9 := below_alloc w2 (.cells #[.int .i64 D3, .slice A3 k3 c3] 24); have hx := below_step hb b9; replace hB := below_step hB hx; replace P2 := P2.step hx; replace X1 := X1.step hx; replace X2 := X2.step hx; replace X3 := X3.step hx; have Q3 := hP3.step b9; have HA3 := Lib.hid (show 0 < k3 → ∃ g o, A3 = some ⟨g, o, none⟩ ∧ w.heap.size + 1 + 1 < g from fun h9 => (let ⟨g, o, h7, h8⟩ := hA3 h9; ⟨g, o, h7, Nat.lt_of_lt_of_le HL3.out h8⟩)); have O3 := Lib.hid (fun p hp => (hok3 p hp).keep (.of_below b9)); have Y3 := SetBox.new w2 D3 A3 k3 c3; have HD3b := Lib.hid hd3; clear hb b9 hx x0 x1 y0 y1 P1 hP3 hok3 hA3 hd3; have x0 := X1.c0; have x1 := X1.c1; have y0 := X2.c0; have y1 := X2.c1; have z0 := Y3.c0; have z1 := Y3.c1) | (go_at_call 12; refine (HN2.out _ P2).mono ?_; rintro e w3 ⟨A4, k4, c4, qs0, rfl, hP4, hok4, hd4, hA4, hb⟩; rw [HD4.out]; have b9 := below_alloc w3 (.cells #[.int .i64 D4, .slice A4 k4 c4] 24); have hx := below_step hb b9; replace hB := below_step hB hx; replace X1 := X1.step hx; replace X3 := X3.step hx; replace Y3 := Y3.step hx; replace Q3 := Q3.step hx; have O4 := Lib.hid (fun p hp => (O3.out p hp).keep (.of_below hx)); have Q4 := hP4.step b9; have O5 := Lib.hid (fun p hp => (hok4 p hp).keep (.of_below b9)); have Y4 := SetBox.new w3 D4 A4 k4 c4; have HD4b := Lib.hid hd4; clear hb b9 hx x0 x1 y0 y1 z0 z1 P2 hP4 hok4 hA4 hd4 O3; have x0 := X1.c0; have x1 := X1.c1; have z0 := Y3.c0; have z1 := Y3.c1; have y0 := Y4.c0; have y1 := Y4.c1; have r0 := X3.c0; have r1 := X3.c1; have f0 := X3.f 0; have f1 := X3.f 1))
      generalize w3.alloc (.cells #[.int .i64 D4, .slice A4 k4 c4] 24) = wA at *
      have hd3 : us0.map PEl.dat = m1.2 := by have h9 := HD3b.out; rw [if_neg (by rw [H1.out]; decide)] at h9; exact h9
      have hd4 : qs0.map PEl.dat = m2.2 := by have h9 := HD4b.out; rw [if_neg (by rw [H2.out]; decide)] at h9; exact h9
      have HVU := Lib.hid (pieceV_of O4.out hd3 HG1.out.2)
      have HVQ := Lib.hid (pieceV_of O5.out hd4 HG2.out)
      have HID := Lib.hid (show ∀ p ∈ us0, Idem nn p.dat from fun p hp => HG1.out.1 p.dat (by rw [← hd3]; exact List.mem_map_of_mem hp))
      have HMX := Lib.hid (show md = foldE (withoutD nn) (qs0.map PEl.dat) (us0.map PEl.dat) by
        rw [← HMD.out]
        unfold minusD
        rw [HM1.out, HM2.out, if_neg (by rw [H1.out]; decide), if_neg (by rw [H2.out]; decide), hd3, hd4])
      obtain rfl : k3 = us0.length := Q3.len.symm
      obtain rfl : k4 = qs0.length := Q4.len.symm
      have hq4 : qs0.length ≤ 400 := HVQ.out.2
      have HSZA := Lib.hid (show w.heap.size + 1 + 1 < wA.heap.size from X3.lt)
      clear hd3 hd4 HD3b HD4b O4 O5 r0 r1 f0 f1 x0 x1 y0 y1 z0 z1 Y3 Y4
      go_loopw [11, 57] (fun u k wr => ∃ (i : Nat) (us : List PEl) (A5 : Option Addr) (c5 : Nat), Hid (0 < us.length → ∃ g o, A5 = some ⟨g, o, none⟩ ∧ w.heap.size + 1 + 1 < g) ∧ i ≤ qs0.length ∧ k = .int .i64 i ∧ u = .slice A5 us.length c5 ∧ PiecesAt wr A5 us.length us ∧ Hid (∀ p ∈ us, PieceV nn wr p) ∧ Hid (us.length ≤ 400) ∧ Hid (∀ p ∈ us, Idem nn p.dat) ∧ Hid (foldE (withoutD nn) ((qs0.map PEl.dat).take i) (us0.map PEl.dat) = (0, us.map PEl.dat)) ∧ Below wA.heap.size wA wr) (fun _ k _ => qs0.length - (intOf k).toNat)
      case atStart => exact ⟨0, us0, A3, c3, HA3, Nat.zero_le _, rfl, rfl, Q3, Lib.hid HVU.out.1, Lib.hid HVU.out.2, HID, Lib.hid rfl, Below.refl _ _⟩
      case round =>
        clear Q3
        obtain ⟨i, us, A5, c5, HA5, hi, rfl, rfl, hUs, HVS, HUL, HIS, HFO, hbr⟩ := hrel
        by_cases hlt : i < qs0.length
        · obtain ⟨bq, offq, q, hA4, hbqlt, hqj, hqm, hcell, hCq⟩ := (Q4.step hbr).at hlt
          have HQJ := Lib.hid (show (qs0.map PEl.dat)[i]? = some q.dat by rw [List.getElem?_map, hqj]; rfl)
          have HQV := Lib.hid (fun (W : World) (hb : Below wA.heap.size wA W) => ((HVQ.out.1 q hqm).step hb))
          obtain ⟨qA, qn, qc, qels⟩ := q
          simp only at hcell
          obtain ⟨cd, hcd⟩ : ∃ cd, (⟨qA, qn, qc, qels⟩ : PEl).dat = cd := ⟨_, rfl⟩
          rw [hcd] at HQJ
          have HCD := Lib.hid hcd
          have HCV := Lib.hid (show ∀ d ∈ cd, ValidD nn d by rw [← hcd]; exact (HQV.out _ (Below.refl _ _)).2.1)
          have HQN := Lib.hid (show qels.length = qn ∧ qels.length ≤ 96 from ⟨(HQV.out _ (Below.refl _ _)).1.1.len, (HQV.out _ (Below.refl _ _)).2.2⟩)
          have HST := Lib.hid (fold_take (f := withoutD nn) HQJ.out HFO.out)
          have HWR := Lib.hid (without_ref (ps := us.map PEl.dat) HCV.out (fun p hp => by obtain ⟨x, hx, rfl⟩ := List.mem_map.1 hp; exact HIS.out x hx))
          have HBD := Lib.hid (show ∀ x ∈ us, withBad nn cd x.dat = true → md.1 = 3 from fun x hx hb => by
            rcases HWR.out with ⟨h9, _⟩ | ⟨_, h9⟩
            · rw [h9 x.dat (List.mem_map_of_mem hx)] at hb; cases hb
            · rw [HMX.out, fold_fail HST.out (by rw [h9]; decide)]; exact h9)
          have hq1 : (i : Int) < (qs0.length : Nat) := by omega
          have hul : us.length ≤ 400 := HUL.out
          subst hA4
          clear hqj hqm hCq hcd
          go_wp2
          generalize hwB : wr = wB at *
          clear hwB
          have HBB := Lib.hid hbr.size
          go_loopw [14, 63] (fun v k wt => ∃ (j : Nat) (nx : List PEl), j ≤ us.length ∧ k = .int .i64 j ∧ PL nn wB.heap.size wt v nx ∧ Hid (∀ p ∈ nx, ∀ d ∈ p.dat, ValidD nn d) ∧ Hid (nx.map PEl.dat = ((us.map PEl.dat).take j).flatMap (withL nn cd)) ∧ Hid (∀ p ∈ (us.map PEl.dat).take j, withBad nn cd p = false) ∧ Hid (nx.length ≤ j * 40000) ∧ Below wB.heap.size wB wt) (fun _ k _ => us.length - (intOf k).toNat)
          case atStart => exact ⟨0, [], Nat.zero_le _, rfl, PL.nil _ _ _, Lib.hid (fun p h => nomatch h), Lib.hid rfl, Lib.hid (fun p h => nomatch h), Lib.hid (Nat.le_refl _), Below.refl _ _⟩
          case round =>
            obtain ⟨j, nx, hj, rfl, hNX, HNV, HND, HNB, HNL, hbt⟩ := hrel
            by_cases hlt2 : j < us.length
            · obtain ⟨b2, off2, p, hA5, hblt2, hpj, hpm, hcell2, hCp⟩ := (hUs.step hbt).at hlt2
              have HPJ := Lib.hid (show (us.map PEl.dat)[j]? = some p.dat by rw [List.getElem?_map, hpj]; rfl)
              have HPV := Lib.hid (fun (W : World) (hb : Below wB.heap.size wB W) => ((HVS.out p hpm).step hb))
              have HPB := Lib.hid (HBD.out p hpm)
              obtain ⟨pA, pn, pc, pels⟩ := p
              simp only at hcell2
              obtain ⟨pd, hpd⟩ : ∃ pd, (⟨pA, pn, pc, pels⟩ : PEl).dat = pd := ⟨_, rfl⟩
              rw [hpd] at HPJ HPB
              have HPD := Lib.hid hpd
              have HPN := Lib.hid (show pels.length = pn ∧ pels.length ≤ 96 from ⟨(HPV.out _ (Below.refl _ _)).1.1.len, (HPV.out _ (Below.refl _ _)).2.2⟩)
              have hq2 : (j : Int) < (us.length : Nat) := by omega
              obtain ⟨pq, hpq⟩ : ∃ pq, pels ++ qels = pq := ⟨_, rfl⟩
              obtain ⟨q9, hq9⟩ : ∃ q9, pieceD nn (pq.map CEl.d) = q9 := ⟨_, rfl⟩
              have HDD := Lib.hid hq9
              have HPC := Lib.hid (show pieceD nn (pd ++ cd) = q9 by rw [← hq9, ← hpq, List.map_append, ← hpd, ← HCD.out]; rfl)
              have hbA := hbr.trans (hbt.mono hbr.size)
              have HAW := Lib.hid (And.intro (HPV.out _ hbt).w (HQV.out _ hbA).w)
              have h192 : pels.length + qels.length ≤ 1000 := by have h1 := HPN.out.2; have h2 := HQN.out.2; omega
              have H192 := Lib.hid (show pq.length ≤ 1000 by rw [← hpq, List.length_append]; exact h192)
              have HAN := Lib.hid (show Calls Tryz.prog 53 #[.slice pA pn pc, .slice qA qn qc] wr fun e w' => AndRet nn wr e w' pq from by rw [← hpq]; exact ref_and pA pn pc pels qA qn qc qels _ HAW.out.1 HAW.out.2 h192)
              have HFS := Lib.hid (flat_snoc2 (withL nn cd) HPJ.out)
              have HTS := Lib.hid (show ∀ x ∈ (us.map PEl.dat).take (j + 1), x ∈ (us.map PEl.dat).take j ∨ x = pd from fun x hx => by
                rw [List.take_add_one, HPJ.out] at hx
                rcases List.mem_append.1 hx with h9 | h9
                · exact .inl h9
                · exact .inr (by simpa using h9))
              subst hA5
              obtain ⟨l1, vd, er⟩ := q9
              clear hpj hpm hCp hpd hq9 hpq h192
              by_cases h0 : er = 0
              · subst h0
                cases vd
                · have HWL := Lib.hid (show withL nn cd pd = (List.range cd.length).flatMap (cutL nn pd cd) by unfold withL; rw [HPC.out]; rfl)
                  have HCL := Lib.hid (show cd.length = qn by rw [← HCD.out]; show (qels.map CEl.d).length = qn; rw [List.length_map]; exact HQN.out.1)
                  go_wp2_with (first | (go_at_call 53; refine HAN.out.mono ?_; rintro e w4 ⟨A6, c6, rfl, hW6, hb6⟩) | (go_at_call 55; refine (ref_piece hn12 (c := c6) w4 hW6.1.1.conds hW6.pre H192.out).mono ?_; rw [HDD.out]; rintro e w5 ⟨A7, k7, c7, l7, rfl, hL7, hd7, hn7, hb7⟩; have hx := below_step hb6 hb7; have hbt5 := hbt.trans (hx.mono hbt.size); have NX5 := hNX.step hx; have hbA5 := hbr.trans (hbt5.mono hbr.size); have X5 := X3.step hbA5; have r0 := X5.c0; have r1 := X5.c1; have f0 := X5.f 0; have f1 := X5.f 1; have b9 := below_alloc w5 (.cells #[.slice pA pn pc] 34); clear hb6 hb7 hL7 hd7 hn7 hW6))
                  clear X5 r0 r1 f0 f1 b9 hx hbA5
                  have hqn : qn ≤ 96 := by have h9 := HQN.out; omega
                  go_loopw [14, 86] (fun v k wt => ∃ (t : Nat) (nx3 : List PEl), t ≤ qn ∧ k = .int .i64 t ∧ PL nn wB.heap.size wt v nx3 ∧ Hid (∀ p ∈ nx3, ∀ d ∈ p.dat, ValidD nn d) ∧ Hid (nx3.map PEl.dat = nx.map PEl.dat ++ (List.range t).flatMap (cutL nn pd cd)) ∧ Hid (∀ s, s < t → cutBad nn cd s = false) ∧ Hid (nx3.length ≤ nx.length + t * 400) ∧ Below wB.heap.size wB wt) (fun _ k _ => qn - (intOf k).toNat)
                  case atStart => exact ⟨0, nx, Nat.zero_le _, rfl, NX5, HNV, Lib.hid (by simp), Lib.hid (fun s h => absurd h (Nat.not_lt_zero _)), Lib.hid (by omega), hbt5⟩
                  case round =>
                    clear NX5 hbt5
                    obtain ⟨t, nx3, ht, rfl, hN3, HV3, HX3, HB3, HLE3, hbx⟩ := hrel
                    by_cases hlt3 : t < qn
                    · have hbAx := hbr.trans (hbx.mono hbr.size)
                      have hVq := HQV.out _ hbAx
                      obtain ⟨b3, off3, e, hqA, hblt3, hej, hem, hcs, hin⟩ := CondsAt.at (A := qA) (m := qn) (els := qels) hVq.1.1.conds hlt3
                      obtain ⟨s0, s1, s2, s3⟩ := hcs
                      have hen : e.n = nn := (hVq.1.2.1 e hem).2.1
                      have HVE := Lib.hid (HCV.out e.d (by rw [← HCD.out]; exact List.mem_map_of_mem hem))
                      have HEJ := Lib.hid (show cd[t]? = some e.d by rw [← HCD.out]; show (qels.map CEl.d)[t]? = _; rw [List.getElem?_map, hej]; rfl)
                      obtain ⟨eq, eM, eA, en, ec, eK, exs⟩ := e
                      simp only at s0 s1 s2 s3 hin hen
                      subst hen
                      have hq3 : (t : Int) < (qn : Nat) := by omega
                      have b5 := below_alloc wr (.cells #[.int .i64 eq, .int .i64 eM, .slice eA en ec, .int .i64 eK] 56)
                      have y1 := hin.step b5
                      have Z1 := CBox.new wr eq eM eA en ec eK
                      have c0 := Z1.c0
                      have c1 := Z1.c1
                      have c2 := Z1.c2
                      have c3 := Z1.c3
                      have N5 := hN3.step b5
                      have hbx5 := hbx.trans (b5.mono hbx.size)
                      have HNC := Lib.hid (fun W (I : IntsAt W eA en exs) => ref_neg eq eM eA en ec eK exs W I)
                      obtain ⟨e2, he2⟩ : ∃ e2, negE eq eM en exs eK = e2 := ⟨_, rfl⟩
                      obtain ⟨nl, hnl⟩ : ∃ nl, negL eq eM en exs eK = nl := ⟨_, rfl⟩
                      rw [he2, hnl] at HNC
                      have HE2 := Lib.hid (show negE eq eM en exs eK = e2 from he2)
                      have HNL2 := Lib.hid (show negL eq eM en exs eK = nl from hnl)
                      have HCB := Lib.hid (show cutBad en cd t = decide (e2 ≠ 0) by unfold cutBad; rw [HEJ.out, ← he2]; rfl)
                      subst hqA
                      clear hej hem hVq hin hN3 hbAx he2 hnl b5
                      by_cases h0 : e2 = 0
                      · subst h0
                        have HCT := Lib.hid (show cutL en pd cd t = nl.map fun z => pd ++ (cd.take t ++ [z]) by unfold cutL; rw [HEJ.out, ← HNL2.out]; rfl)
                        have HNF := Lib.hid (show nl.length ≤ 400 by rw [← HNL2.out]; exact neg_few)
                        go_wp2_with (first
                          | (go_at_call 56; refine (HNC.out _ y1).mono ?_; rintro e w6 ⟨u6, els6, rfl, hL6, hd6, hn6, hb6⟩; obtain ⟨lA, lc, rfl⟩ := hL6.slice; have N6 := N5.step hb6; have hbx6 := hbx5.trans (hb6.mono hbx5.size); have hfew6 := hL6.few; have HLS := Lib.hid (And.intro hL6 (And.intro hd6 hn6)); clear hL6 hd6 hn6 hb6))
                        go_loopw [14, 102] (fun v k wt => ∃ (z : Nat) (nx4 : List PEl), z ≤ els6.length ∧ k = .int .i64 z ∧ PL en wB.heap.size wt v nx4 ∧ Hid (∀ p ∈ nx4, ∀ d ∈ p.dat, ValidD en d) ∧ Hid (nx4.map PEl.dat = nx3.map PEl.dat ++ (nl.take z).map fun d => pd ++ (cd.take t ++ [d])) ∧ Hid (nx4.length = nx3.length + z) ∧ KeepU w6 wt ∧ Below wB.heap.size wB wt) (fun _ k _ => els6.length - (intOf k).toNat)
                        case atStart => exact ⟨0, nx3, Nat.zero_le _, rfl, N6, HV3, Lib.hid (by simp), Lib.hid (by omega), KeepU.refl _, hbx6⟩
                        case round =>
                          clear N6 N5 c0 c1 c2 c3 Z1 y1 s0 s1 s2 s3 hbx5
                          obtain ⟨z, nx4, hz, rfl, hN4, HV4, HX4, HLE4, hku, hbz⟩ := hrel
                          by_cases hlt4 : z < els6.length
                          · have hCV := CV.keep ((CV.of_cl HLS.out.1).mono (Nat.zero_le _) (Nat.zero_le _)) hku
                            obtain ⟨b4, off4, f, hlA, hblt4, hfj, hfm, hcs4, hin4⟩ := hCV.conds.at hlt4
                            obtain ⟨v0, v1, v2, v3⟩ := hcs4
                            have hro4 := hCV.rows f hfm
                            have hne4 : f.n = en := HLS.out.2.2 f hfm
                            have HVF := Lib.hid (show ValidD en f.d from neg_valid hn12 HVE.out.1 HVE.out.2 f.d (by show f.d ∈ negL eq eM en exs eK; rw [HNL2.out, ← HLS.out.2.1]; exact List.mem_map_of_mem hfm))
                            have HFZ := Lib.hid (show nl.take (z + 1) = nl.take z ++ [f.d] by
                              have h9 : nl[z]? = some f.d := by rw [← HLS.out.2.1, List.getElem?_map, hfj]; rfl
                              rw [List.take_add_one, h9]; rfl)
                            obtain ⟨fq, fM, fA, fn, fc, fK, fxs⟩ := f
                            simp only at v0 v1 v2 v3 hin4 hro4 hne4
                            have hfn : en = fn := hne4.symm
                            subst hfn
                            have hq5 : (z : Int) < (els6.length : Nat) := by omega
                            have b6 := below_alloc wr (.cells #[.int .i64 fq, .int .i64 fM, .slice fA en fc, .int .i64 fK] 56)
                            have XF := CBox.new wr fq fM fA en fc fK
                            have N7 := hN4.step b6
                            have hbz6 := hbz.trans (b6.mono hbz.size)
                            have hkz := hku.trans (KeepU.of_below b6)
                            have IF := hin4.step b6
                            have RF := hro4.step b6
                            have hpl9 : t ≤ qn := Nat.le_of_lt hlt3
                            have hqc : qn ≤ qc := (HQV.out _ (hbr.trans (hbz.mono hbr.size))).1.2.2.2.2
                            have hj5 : (t : Int) ≤ qc := by omega
                            have hj6 : (qn : Int) ≤ qc := by omega
                            have hj7 : (t : Int) ≤ qn := by omega
                            have hul4 : nx4.length + 1 ≤ 4000000000 := by have h1 := HLE4.out; have h2 := HLE3.out; have h3 := HNL.out; omega
                            subst hlA
                            clear hfj hfm hCV hin4 hro4 b6
                            go_wp2
                            generalize wr.alloc (.cells #[.int .i64 fq, .int .i64 fM, .slice fA en fc, .int .i64 fK] 56) = W0 at *
                            generalize wr.heap.size = bf at *
                            clear v0 v1 v2 v3
                            obtain ⟨pt, hpt⟩ : ∃ pt, pels ++ qels.take t = pt := ⟨_, rfl⟩
                            obtain ⟨ptf, hptf⟩ : ∃ ptf, pt ++ [(⟨fq, fM, fA, en, fc, fK, fxs⟩ : CEl)] = ptf := ⟨_, rfl⟩
                            have hptl : pt.length + 1 ≤ 1000 := by have h1 := HPN.out; rw [← hpt, List.length_append, List.length_take]; omega
                            have HA1 := Lib.hid (fun (W : World) (hb : Below W0.heap.size W0 W) => (show Calls Tryz.prog 53 #[.slice pA pn pc, .slice (some ⟨b3, off3, none⟩) t qc] W fun e w' => AndRet en W e w' pt from by
                              rw [← hpt]
                              refine ref_and pA pn pc pels (some ⟨b3, off3, none⟩) t qc (qels.take t) W (HPV.out W (hbz6.trans (hb.mono hbz6.size))).w (PieceV.take (HQV.out W ((hbr.trans (hbz6.mono hbr.size)).trans (hb.mono (hbr.trans (hbz6.mono hbr.size)).size))) hpl9 qc (fun h => nomatch h) (by omega)).w ?_
                              have h1 := HPN.out; have h2 := HQN.out; rw [List.length_take]; omega))
                            have HF1 := Lib.hid (fun (W : World) (g : Nat) (hb : Below W0.heap.size W0 W) (hg : W.heap[g]? = some (.cells (ccells [(⟨fq, fM, fA, en, fc, fK, fxs⟩ : CEl)]).toArray 56 (0, 0))) => (one_piece (n := en) hg (IF.step hb) (RF.step hb) rfl HVF.out).w)
                            have HA2 := Lib.hid (fun (W : World) (A7 : Option Addr) (c7 g : Nat) (h1 : PieceW en W ⟨A7, pt.length, c7, pt⟩) (h2 : PieceW en W ⟨some ⟨g, 0, none⟩, 1, 1, [⟨fq, fM, fA, en, fc, fK, fxs⟩]⟩) => (show Calls Tryz.prog 53 #[.slice A7 pt.length c7, .slice (some ⟨g, 0, none⟩) 1 1] W fun e w' => AndRet en W e w' ptf from by
                              rw [← hptf]
                              exact ref_and A7 pt.length c7 pt (some ⟨g, 0, none⟩) 1 1 [⟨fq, fM, fA, en, fc, fK, fxs⟩] W h1 h2 (by simpa using hptl)))
                            have HPTF := Lib.hid (show ptf.map CEl.d = pd ++ (cd.take t ++ [⟨fq, fM, fxs, fK⟩]) by
                              rw [← hptf, ← hpt, List.map_append, List.map_append, List.map_take, ← HPD.out, ← HCD.out, List.append_assoc]; rfl)
                            clear hpt hptf hptl
                            have g0 := XF.c0
                            have g1 := XF.c1
                            have g2 := XF.c2
                            have g3 := XF.c3
                            have HSF := Lib.hid (fun (W : World) (X : CBox W bf fq fM fA en fc fK) => (⟨X.c0, X.c1, X.c2, X.c3⟩ : (fun W : World => W.cell? ⟨bf, 0, none⟩ = some (.int .i64 fq) ∧ W.cell? ⟨bf, 1, none⟩ = some (.int .i64 fM) ∧ W.cell? ⟨bf, 2, none⟩ = some (.slice fA en fc) ∧ W.cell? ⟨bf, 3, none⟩ = some (.int .i64 fK)) W))
                            have HSA := Lib.hid (HSF.out _ (XF.step (Below.refl _ W0).drew))
                            have HSB := Lib.hid (HSF.out _ (XF.step (below_alloc W0 (.cells #[.int .i64 fq, .int .i64 fM, .slice fA en fc, .int .i64 fK] 56)).drew))
                            have HSC := Lib.hid (HSF.out _ (XF.step (below_alloc W0 (.cells #[.int .i64 fq, .int .i64 fM, .slice fA en fc, .int .i64 fK] 56))))
                            have T2 : True := trivial
                            go_region_held3 (fun W => W.cell? ⟨bf, 0, none⟩ = some (.int .i64 fq) ∧ W.cell? ⟨bf, 1, none⟩ = some (.int .i64 fM) ∧ W.cell? ⟨bf, 2, none⟩ = some (.slice fA en fc) ∧ W.cell? ⟨bf, 3, none⟩ = some (.int .i64 fK)) (first | with_reducible exact ⟨g0, g1, g2, g3⟩ | with_reducible exact HSA.out | with_reducible exact HSB.out | with_reducible exact HSC.out | with_reducible exact HSD.out | with_reducible exact HSE.out | with_reducible exact HSG.out | go_keep)
                              (first | (go_at_call 53; have t1 := T2; clear T2 t1; refine (HA1.out _ (by first | exact Below.refl _ _ | exact (Below.refl _ _).drew | exact below_alloc _ _ | exact (below_alloc _ _).drew)).mono ?_; rintro e w7 ⟨A7, c7, rfl, hW7, hb7⟩; have hx7 : Below W0.heap.size W0 w7 := (by first | exact hb7 | exact below_step (Below.refl _ W0).drew hb7 | exact below_step (below_alloc W0 (.cells #[.int .i64 fq, .int .i64 fM, .slice fA en fc, .int .i64 fK] 56)) hb7 | exact below_step (below_alloc W0 (.cells #[.int .i64 fq, .int .i64 fM, .slice fA en fc, .int .i64 fK] 56)).drew hb7); (try (have R7 : w7.heap[W0.heap.size]? = some (.cells (ccells [(⟨fq, fM, fA, en, fc, fK, fxs⟩ : CEl)]).toArray 56 (0, 0)) := (hb7.block _ (by simp)).trans (heap_alloc_new W0 (.cells #[.int .i64 fq, .int .i64 fM, .slice fA en fc, .int .i64 fK] 56)))); have XF7 := XF.step hx7; clear g0 g1 g2 g3; have g0 := XF7.c0; have g1 := XF7.c1; have g2 := XF7.c2; have g3 := XF7.c3; have HSD := Lib.hid (HSF.out _ (XF7.step (Below.refl _ w7).drew)); have HSE := Lib.hid (HSF.out _ (XF7.step (below_alloc w7 (.cells #[.int .i64 fq, .int .i64 fM, .slice fA en fc, .int .i64 fK] 56)).drew)); have HSG := Lib.hid (HSF.out _ (XF7.step (below_alloc w7 (.cells #[.int .i64 fq, .int .i64 fM, .slice fA en fc, .int .i64 fK] 56))))) | (go_at_call 53; (first | refine (HA2.out _ A7 c7 W0.heap.size (hW7.step (by first | exact Below.refl _ w7 | exact (Below.refl _ w7).drew)) (HF1.out _ _ (hx7.trans ((by first | exact Below.refl _ w7 | exact (Below.refl _ w7).drew : Below w7.heap.size w7 _).mono hx7.size)) R7)).mono ?_ | refine (HA2.out _ A7 c7 w7.heap.size (hW7.step (by first | exact below_alloc w7 (.cells #[.int .i64 fq, .int .i64 fM, .slice fA en fc, .int .i64 fK] 56) | exact (below_alloc w7 (.cells #[.int .i64 fq, .int .i64 fM, .slice fA en fc, .int .i64 fK] 56)).drew)) (HF1.out _ _ (hx7.trans ((by first | exact below_alloc w7 (.cells #[.int .i64 fq, .int .i64 fM, .slice fA en fc, .int .i64 fK] 56) | exact (below_alloc w7 (.cells #[.int .i64 fq, .int .i64 fM, .slice fA en fc, .int .i64 fK] 56)).drew : Below w7.heap.size w7 _).mono hx7.size)) (heap_alloc_new w7 (.cells #[.int .i64 fq, .int .i64 fM, .slice fA en fc, .int .i64 fK] 56)))).mono ?_); rintro e w8 ⟨A8, c8, rfl, hW8, hb8⟩; have hx8 : Below w7.heap.size w7 w8 := (by first | exact hb8 | exact below_step (Below.refl _ w7).drew hb8 | exact below_step (below_alloc w7 (.cells #[.int .i64 fq, .int .i64 fM, .slice fA en fc, .int .i64 fK] 56)) hb8 | exact below_step (below_alloc w7 (.cells #[.int .i64 fq, .int .i64 fM, .slice fA en fc, .int .i64 fK] 56)).drew hb8); have hy8 := hx7.trans (hx8.mono hx7.size); have N8 := N7.step hy8; have XF8 := XF.step hy8; clear g0 g1 g2 g3; have g0 := XF8.c0; have g1 := XF8.c1; have g2 := XF8.c2; have g3 := XF8.c3; have b10 := below_alloc w8 (.cells #[.slice A8 ptf.length c8] 34); have hbz8 := hbz6.trans (hy8.mono hbz6.size); have hkz8 := hkz.trans (KeepU.of_below hy8); have HW8 := Lib.hid hW8) | (refine step_append_piece rfl _ _ 22 rfl rfl rfl (N8.step b10) w8.heap.size ⟨A8, ptf.length, c8, ptf⟩ rfl (heap_alloc_new w8 (.cells #[.slice A8 ptf.length c8] 34)) (hW8.step b10).1 hul4 (hbz8.trans (b10.mono hbz8.size)).size ?_; intro A9 c9 w9 NX9 hk9 hb9; have XF9 : CBox w9 bf fq fM fA en fc fK := hk9.rows _ _ _ _ (XF8.step b10) (.inl rfl); clear g0 g1 g2 g3; have g0 := XF9.c0; have g1 := XF9.c1; have g2 := XF9.c2; have g3 := XF9.c3; have HK9 := Lib.hid ((hkz8.trans (KeepU.of_below b10)).trans hk9); have HB9 := Lib.hid ((hbz8.trans (b10.mono hbz8.size)).trans hb9)))
                            all_goals
                              rename_i hHeld
                              clear hHeld
                              go_wp2
                              go_roundw
                              case rel => exact ⟨z + 1, nx4 ++ [⟨A8, ptf.length, c8, ptf⟩], by omega, by go_num, NX9, Lib.hid (fun x hx => by
                                rcases List.mem_append.1 hx with hx | hx
                                · exact HV4.out x hx
                                · rw [List.mem_singleton.1 hx]; exact HW8.out.2), Lib.hid (by
                                rw [List.map_append, HX4.out, HFZ.out, List.map_append, List.append_assoc]
                                show _ ++ (_ ++ [ptf.map CEl.d]) = _
                                rw [HPTF.out]; rfl), Lib.hid (by rw [List.length_append, List.length_singleton]; have h9 := HLE4.out; omega), HK9.out, HB9.out⟩
                              case measure => simp [intOf]; omega
                          · obtain rfl : z = els6.length := by omega
                            have hen6 : els6.length = nl.length := by rw [← HLS.out.2.1, List.length_map]
                            have HX5 := Lib.hid (show nx4.map PEl.dat = nx.map PEl.dat ++ (List.range (t + 1)).flatMap (cutL en pd cd) by
                              rw [HX4.out, hen6, List.take_length, HX3.out, List.range_succ, List.flatMap_append, List.append_assoc]
                              simp [HCT.out])
                            have HLE5 := Lib.hid (show nx4.length ≤ nx.length + (t + 1) * 400 by have h1 := HLE4.out; have h2 := HLE3.out; have h3 := HNF.out; omega)
                            clear hen6
                            go_wp2
                            go_roundw
                            case rel => exact ⟨t + 1, nx4, by omega, by go_num, hN4, HV4, HX5, Lib.hid (fun s hs => by
                              rcases Nat.lt_or_eq_of_le (Nat.le_of_lt_succ hs) with h9 | rfl
                              · exact HB3.out s h9
                              · rw [HCB.out]; rfl), HLE5, hbz⟩
                            case measure => simp [intOf]; omega
                      · have q5 : (e2 != 0) = true := by simpa using h0
                        have q6 : (e2 == 0) = false := by simpa using h0
                        have HR := Lib.hid (show md.1 = e2 from by
                          have h3 := (neg_errs (n := en) (xs := exs) (K := eK) (q := eq) (M := eM) HVE.out.1).resolve_left (by rw [HE2.out]; exact h0)
                          rw [HE2.out] at h3
                          rw [h3]
                          refine HPB.out ?_
                          unfold withBad
                          rw [HPC.out]
                          have h4 : (List.range cd.length).any (cutBad en cd) = true := List.any_eq_true.2 ⟨t, List.mem_range.2 (by rw [HCL.out]; exact hlt3), by rw [HCB.out]; exact decide_eq_true h0⟩
                          simp [h4])
                        have HH0 := Lib.hid h0
                        clear h0
                        go_wp2_with (first
                          | (go_at_call 56; refine (HNC.out _ y1).mono ?_; rintro e w6 ⟨u6, els6, rfl, hL6, hd6, hn6, hb6⟩; have hbx6 := hbx5.trans (hb6.mono hbx5.size); have hbA6 := hbr.trans (hbx6.mono hbr.size); have X5 := X3.step hbA6; have r0 := X5.c0; have r1 := X5.c1; have f0 := X5.f 0; have f1 := X5.f 1; clear hL6 hd6 hn6 hb6))
                        have X6 := X5.put 0 none 0 0
                        have hb9 := (hB.trans (hbA6.mono hB.size)).trans (below_put (N := w.heap.size) (b := w.heap.size + 1 + 1) (w := w6) (by omega) (.int .i64 0) (.slice none 0 0))
                        have v0 := X6.c0
                        have v1 := X6.c1
                        refine bodyPost_ret (v := .tuple #[setV 0 none 0 0, .int .i64 e2]) (by simp [results, Tryz.results19, go_sem, v0, v1]) rfl ?_
                        exact gather_fail HR.out HH0.out hb9
                    · obtain rfl : t = qn := by omega
                      have HWB := Lib.hid (show withBad nn cd pd = false by
                        unfold withBad
                        rw [HPC.out]
                        have h4 : (List.range cd.length).any (cutBad nn cd) = false := by
                          rw [List.any_eq_false]
                          intro x hx
                          rw [HB3.out x (by have := List.mem_range.1 hx; rw [HCL.out] at this; exact this)]
                          simp
                        simp [h4])
                      have HND2 := Lib.hid (show nx3.map PEl.dat = ((us.map PEl.dat).take (j + 1)).flatMap (withL nn cd) by
                        rw [HX3.out, HND.out, HFS.out, HWL.out, HCL.out])
                      have HLE5 := Lib.hid (show nx3.length ≤ (j + 1) * 40000 by have h1 := HLE3.out; have h2 := HNL.out; have h3 := HQN.out; omega)
                      go_wp2
                      go_roundw
                      case rel => exact ⟨j + 1, nx3, by omega, by go_num, hN3, HV3, HND2, Lib.hid (fun x hx => by
                        rcases HTS.out x hx with hx | rfl
                        · exact HNB.out x hx
                        · exact HWB.out), HLE5, hbx⟩
                      case measure => simp [intOf]; omega
                · have HWL := Lib.hid (show withL nn cd pd = [pd] by unfold withL; rw [HPC.out]; rfl)
                  have HWB := Lib.hid (show withBad nn cd pd = false by unfold withBad; rw [HPC.out]; rfl)
                  have hnl : nx.length + 1 ≤ 4000000000 := by have h9 := HNL.out; omega
                  go_wp2_with (first | (go_at_call 53; refine HAN.out.mono ?_; rintro e w4 ⟨A6, c6, rfl, hW6, hb6⟩) | (go_at_call 55; refine (ref_piece hn12 (c := c6) w4 hW6.1.1.conds hW6.pre H192.out).mono ?_; rw [HDD.out]; rintro e w5 ⟨A7, k7, c7, l7, rfl, hL7, hd7, hn7, hb7⟩; have hx := below_step hb6 hb7; have hbt5 := hbt.trans (hx.mono hbt.size); have NX5 := hNX.step hx; have hbA5 := hbr.trans (hbt5.mono hbr.size); have X5 := X3.step hbA5; have r0 := X5.c0; have r1 := X5.c1; have f0 := X5.f 0; have f1 := X5.f 1; have b9 := below_alloc w5 (.cells #[.slice pA pn pc] 34); clear hb6 hb7 hL7 hd7 hn7 hW6) | (at_builtin; refine wpList_append_piece rfl _ _ 22 rfl rfl rfl (NX5.step b9) w5.heap.size ⟨pA, pn, pc, pels⟩ rfl (heap_alloc_new w5 (.cells #[.slice pA pn pc] 34)) (HPV.out _ (hbt5.trans (b9.mono hbt5.size))).1 hnl (hbt5.trans (b9.mono hbt5.size)).size ?_; intro A8 c8 w8 NX8 hk8 hb8; have hbt8 := (hbt5.trans (b9.mono hbt5.size)).trans hb8))
                  go_roundw
                  case rel => exact ⟨j + 1, nx ++ [⟨pA, pn, pc, pels⟩], by omega, by go_num, NX8, Lib.hid (fun x hx => by
                    rcases List.mem_append.1 hx with hx | hx
                    · exact HNV.out x hx
                    · rw [List.mem_singleton.1 hx]; exact (HPV.out _ hbt).2.1), Lib.hid (by rw [List.map_append, HND.out, HFS.out, HWL.out, ← HPD.out]; rfl), Lib.hid (fun x hx => by
                    rcases HTS.out x hx with hx | rfl
                    · exact HNB.out x hx
                    · exact HWB.out), Lib.hid (by rw [List.length_append, List.length_singleton]; have h9 := HNL.out; omega), hbt8⟩
                  case measure => simp [intOf]; omega
              · have q5 : (er != 0) = true := by simpa using h0
                have q6 : (er == 0) = false := by simpa using h0
                have HR := Lib.hid (show md.1 = er from by
                  have h3 := (piece_errs nn (pd ++ cd)).resolve_left (by rw [HPC.out]; exact h0)
                  rw [HPC.out] at h3
                  have h3 : er = 3 := h3
                  rw [h3]
                  refine HPB.out ?_
                  unfold withBad
                  rw [HPC.out, decide_eq_true (show ((l1, vd, er).2.2 ≠ 0) from h0), Bool.true_or])
                have HH0 := Lib.hid h0
                clear h0
                go_wp2_with (first | (go_at_call 53; refine HAN.out.mono ?_; rintro e w4 ⟨A6, c6, rfl, hW6, hb6⟩) | (go_at_call 55; refine (ref_piece hn12 (c := c6) w4 hW6.1.1.conds hW6.pre H192.out).mono ?_; rw [HDD.out]; rintro e w5 ⟨A7, k7, c7, l7, rfl, hL7, hd7, hn7, hb7⟩; have hx := below_step hb6 hb7; have hbt5 := hbt.trans (hx.mono hbt.size); have NX5 := hNX.step hx; have hbA5 := hbr.trans (hbt5.mono hbr.size); have X5 := X3.step hbA5; have r0 := X5.c0; have r1 := X5.c1; have f0 := X5.f 0; have f1 := X5.f 1; have b9 := below_alloc w5 (.cells #[.slice pA pn pc] 34); clear hb6 hb7 hL7 hd7 hn7 hW6))
                have X6 := X5.put 0 none 0 0
                have hb9 := (hB.trans (hbA5.mono hB.size)).trans (below_put (N := w.heap.size) (b := w.heap.size + 1 + 1) (w := w5) (by omega) (.int .i64 0) (.slice none 0 0))
                have v0 := X6.c0
                have v1 := X6.c1
                refine bodyPost_ret (v := .tuple #[setV 0 none 0 0, .int .i64 er]) (by simp [results, Tryz.results19, go_sem, v0, v1]) rfl ?_
                exact gather_fail HR.out HH0.out hb9
            · obtain rfl : j = us.length := by omega
              have htk : (us.map PEl.dat).take us.length = us.map PEl.dat := List.take_of_length_le (by rw [List.length_map]; exact Nat.le_refl _)
              have HGD := Lib.hid (show withoutD nn (us.map PEl.dat) cd = gatherD nn (nx.map PEl.dat) by
                rcases HWR.out with ⟨_, h9⟩ | ⟨⟨x, hx, h9⟩, _⟩
                · rw [h9, HND.out, htk]
                · rw [HNB.out x (by rw [htk]; exact hx)] at h9; cases h9)
              have HKV := Lib.hid (show ∀ ds ∈ nx.map PEl.dat, KindsOk nn ds ∧ ∀ z ∈ normOut nn ds, NormD nn z from fun ds hds => by
                obtain ⟨p, hp, rfl⟩ := List.mem_map.1 hds
                exact ⟨fun d hd => (HNV.out p hp d hd).kind, valid_norm (HNV.out p hp)⟩)
              have HPR := Lib.hid (show ∀ p ∈ nx, (∀ e ∈ p.els, PreB nn e) ∧ p.n ≤ 1000 from fun p hp => ⟨PieceW.pre ⟨hNX.ok p hp, HNV.out p hp⟩, (hNX.ok p hp).2.2.1⟩)
              obtain ⟨m9, hm9⟩ : ∃ m9, gatherD nn (nx.map PEl.dat) = m9 := ⟨_, rfl⟩
              have HM9 := Lib.hid hm9
              have HG9 := Lib.hid (show (∀ u ∈ m9.2, Idem nn u) ∧ GoodU nn m9.2 from by rw [← hm9]; exact ⟨gather_idem HKV.out, gather_good fun ds hds => (HKV.out ds hds).1⟩)
              have hnl : nx.length ≤ 2000000000 := by have h9 := HNL.out; omega
              obtain ⟨A14, c14, he14, hP14, _⟩ := hNX.pieces
              subst he14
              have hbA := hbr.trans (hbt.mono hbr.size)
              have W1 := X1.step hbA
              have x0 := W1.c0
              obtain ⟨D9, hD9⟩ : ∃ D9, (if m9.1 ≠ 0 then (0 : Int) else D) = D9 := ⟨_, rfl⟩
              have HD9 := Lib.hid hD9
              have HMC := Lib.hid ((ref_mades hn12 D A14 nx.length c14 nx wr hP14 hnl HPR.out).mono fun e w' h9 => (show GatherRet nn wr e w' D m9 from by rw [← HM9.out]; exact h9))
              clear htk hm9 hD9 hNX hP14
              by_cases h9 : m9.1 = 0
              · have q5 : (m9.1 != 0) = false := by simpa using h9
                have q6 : (m9.1 == 0) = true := by simpa using h9
                have H9 := Lib.hid h9
                clear h9
                go_wp2_with (first
                  | (go_at_call 47; refine HMC.out.mono ?_; rintro e w5 ⟨A9, k9, c9, us9, rfl, hP9, hok9, hd9, hA9, hb9⟩; rw [HD9.out]; have b9 := below_alloc w5 (.cells #[.int .i64 D9, .slice A9 k9 c9] 24); have hbt9 := (hbt.trans (hb9.mono hbt.size)).trans (b9.mono (hbt.trans (hb9.mono hbt.size)).size); have Y9 := SetBox.new w5 D9 A9 k9 c9; have y0 := Y9.c0; have y1 := Y9.c1; have P9 := hP9.step b9; have O9 := Lib.hid (fun p hp => (hok9 p hp).keep (.of_below b9)); have HD9b := Lib.hid hd9; have HA9 := Lib.hid hA9; clear hP9 hok9 hd9 hA9 hb9 b9))
                obtain rfl : k9 = us9.length := P9.len.symm
                have hd9 : us9.map PEl.dat = m9.2 := by have h7 := HD9b.out; rw [if_neg (by rw [H9.out]; decide)] at h7; exact h7
                have HV9 := Lib.hid (pieceV_of O9.out hd9 HG9.out.2)
                go_roundw
                case rel => exact ⟨i + 1, us9, A9, c9, Lib.hid (fun h7 => (let ⟨g, o, h1, h2⟩ := HA9.out h7; ⟨g, o, h1, by have := HSZA.out; have := hbA.size; omega⟩)), by omega, by go_num, rfl, P9, Lib.hid HV9.out.1, Lib.hid HV9.out.2, Lib.hid (fun p hp => HG9.out.1 p.dat (by rw [← hd9]; exact List.mem_map_of_mem hp)), Lib.hid (by rw [HST.out, HGD.out, HM9.out, hd9]; exact Prod.ext H9.out rfl), hbr.trans (hbt9.mono hbr.size)⟩
                case measure => simp [intOf]; omega
              · have q5 : (m9.1 != 0) = true := by simpa using h9
                have q6 : (m9.1 == 0) = false := by simpa using h9
                have HR := Lib.hid (show md.1 = m9.1 from by rw [HMX.out, fold_fail HST.out (by rw [HGD.out, HM9.out]; exact h9), HGD.out, HM9.out])
                have H9 := Lib.hid h9
                clear h9
                go_wp2_with (first
                  | (go_at_call 47; refine HMC.out.mono ?_; rintro e w5 ⟨A9, k9, c9, us9, rfl, hP9, hok9, hd9, hA9, hb9⟩; rw [HD9.out]; have b9 := below_alloc w5 (.cells #[.int .i64 D9, .slice A9 k9 c9] 24); have hbA9 := (hbA.trans (hb9.mono hbA.size)).trans (b9.mono (hbA.trans (hb9.mono hbA.size)).size); have X5 := X3.step hbA9; have r0 := X5.c0; have r1 := X5.c1; have f0 := X5.f 0; have f1 := X5.f 1; clear hP9 hok9 hd9 hA9 hb9 b9))
                have X6 := X5.put 0 none 0 0
                have hb9 := (hB.trans (hbA9.mono hB.size)).trans (below_put (N := w.heap.size) (b := w.heap.size + 1 + 1) (w := w5.alloc (.cells #[.int .i64 D9, .slice A9 k9 c9] 24)) (by omega) (.int .i64 0) (.slice none 0 0))
                have v0 := X6.c0
                have v1 := X6.c1
                refine bodyPost_ret (v := .tuple #[setV 0 none 0 0, .int .i64 m9.1]) (by simp [results, Tryz.results19, go_sem, v0, v1]) rfl ?_
                exact gather_fail HR.out H9.out hb9
        · obtain rfl : i = qs0.length := by omega
          have HFE := Lib.hid (show md = (0, us.map PEl.dat) by
            rw [HMX.out, ← HFO.out, List.take_of_length_le (by rw [List.length_map]; exact Nat.le_refl _)])
          have W1 := X1.step hbr
          have x0 := W1.c0
          have X5 := X3.step hbr
          have r0 := X5.c0
          have r1 := X5.c1
          have f0 := X5.f 0
          have f1 := X5.f 1
          go_wp2
          have X6 := X5.put D A5 us.length c5
          have hku := X5.keepU (.int .i64 D) (.slice A5 us.length c5)
          have hok4 := fun p hp => (HVS.out p hp).1.keep hku
          have hP4 := pieces_move hUs hok4 hku.size (fun h0 g o hA => by
            obtain ⟨g', o', h1, h2⟩ := HA5.out h0
            rw [hA] at h1
            cases h1
            exact put_other (by omega) _ _)
          have hb4 := (hB.trans (hbr.mono hB.size)).trans (below_put (w := wr) (N := w.heap.size) (b := w.heap.size + 1 + 1) (by omega) (.int .i64 D) (.slice A5 us.length c5))
          generalize (wr.setCell ⟨w.heap.size + 1 + 1, 0, none⟩ (.int .i64 D)).setCell ⟨w.heap.size + 1 + 1, 1, none⟩ (.slice A5 us.length c5) = w4 at *
          have v0 := X6.c0
          have v1 := X6.c1
          refine bodyPost_ret (v := .tuple #[setV D A5 us.length c5, .int .i64 0]) (by simp [results, Tryz.results19, go_sem, v0, v1]) rfl ?_
          rw [HFE.out]
          exact ⟨A5, us.length, c5, us, rfl, hP4, hok4, rfl, (fun h => let ⟨g, o, h1, h2⟩ := HA5.out h; ⟨g, o, h1, by omega⟩), hb4⟩
    · have q1 : (m1.1 != 0) = false := by simpa using h1
      have q2 : (m2.1 != 0) = true := by simpa using h2
      have q3 : (m1.1 == 0) = true := by simpa using h1
      have q4 : (m2.1 == 0) = false := by simpa using h2
      have HR := Lib.hid (HME.out (.inr h2))
      clear h1 h2
      go_enter Tryz.func19, Tryz.ntmps19
      go_wp2_with (first | (go_at_call 50; refine (ref_boths D A n c ps D A' n' c' ps' _ P1 P2).mono ?_; rintro e w1 ⟨rfl, hb⟩; rw [HE.out]; replace hB := below_step hB hb; replace P1 := P1.step hb; replace P2 := P2.step hb; replace X1 := X1.step hb; replace X2 := X2.step hb; replace X3 := X3.step hb; have HL3 := Lib.hid X3.lt; clear hb x0 x1 y0 y1; have x0 := X1.c0; have x1 := X1.c1; have y0 := X2.c0; have y1 := X2.c1) | (go_at_call 12; have t1 := T1; clear T1 t1; refine (HN1.out _ P1).mono ?_; rintro e w2 ⟨A3, k3, c3, us0, rfl, hP3, hok3, hd3, hA3, hb⟩; rw [HD3.out]; have b9 := below_alloc w2 (.cells #[.int .i64 D3, .slice A3 k3 c3] 24); have hx := below_step hb b9; replace hB := below_step hB hx; replace P2 := P2.step hx; replace X1 := X1.step hx; replace X2 := X2.step hx; replace X3 := X3.step hx; have Q3 := hP3.step b9; have HA3 := Lib.hid (show 0 < k3 → ∃ g o, A3 = some ⟨g, o, none⟩ ∧ w.heap.size + 1 + 1 < g from fun h9 => (let ⟨g, o, h7, h8⟩ := hA3 h9; ⟨g, o, h7, Nat.lt_of_lt_of_le HL3.out h8⟩)); have O3 := Lib.hid (fun p hp => (hok3 p hp).keep (.of_below b9)); have Y3 := SetBox.new w2 D3 A3 k3 c3; have HD3b := Lib.hid hd3; clear hb b9 hx x0 x1 y0 y1 P1 hP3 hok3 hA3 hd3; have x0 := X1.c0; have x1 := X1.c1; have y0 := X2.c0; have y1 := X2.c1; have z0 := Y3.c0; have z1 := Y3.c1) | (go_at_call 12; refine (HN2.out _ P2).mono ?_; rintro e w3 ⟨A4, k4, c4, qs0, rfl, hP4, hok4, hd4, hA4, hb⟩; rw [HD4.out]; have b9 := below_alloc w3 (.cells #[.int .i64 D4, .slice A4 k4 c4] 24); have hx := below_step hb b9; replace hB := below_step hB hx; replace X1 := X1.step hx; replace X3 := X3.step hx; replace Y3 := Y3.step hx; replace Q3 := Q3.step hx; have O4 := Lib.hid (fun p hp => (O3.out p hp).keep (.of_below hx)); have Q4 := hP4.step b9; have O5 := Lib.hid (fun p hp => (hok4 p hp).keep (.of_below b9)); have Y4 := SetBox.new w3 D4 A4 k4 c4; have HD4b := Lib.hid hd4; clear hb b9 hx x0 x1 y0 y1 z0 z1 P2 hP4 hok4 hA4 hd4 O3; have x0 := X1.c0; have x1 := X1.c1; have z0 := Y3.c0; have z1 := Y3.c1; have y0 := Y4.c0; have y1 := Y4.c1; have r0 := X3.c0; have r1 := X3.c1; have f0 := X3.f 0; have f1 := X3.f 1))
      have X4 := X3.put 0 none 0 0
      have hb4 := hB.trans (below_put (N := w.heap.size) (b := w.heap.size + 1 + 1) (w := w3.alloc (.cells #[.int .i64 D4, .slice A4 k4 c4] 24)) (by omega) (.int .i64 0) (.slice none 0 0))
      have v0 := X4.c0
      have v1 := X4.c1
      refine bodyPost_ret (v := .tuple #[setV 0 none 0 0, .int .i64 3]) (by simp [results, Tryz.results19, go_sem, v0, v1]) rfl ?_
      exact gather_fail HR.out (by decide) hb4
  · have q1 : (m1.1 != 0) = true := by simpa using h1
    have q3 : (m1.1 == 0) = false := by simpa using h1
    have HR := Lib.hid (HME.out (.inl h1))
    clear h1
    go_enter Tryz.func19, Tryz.ntmps19
    go_wp2_with (first | (go_at_call 50; refine (ref_boths D A n c ps D A' n' c' ps' _ P1 P2).mono ?_; rintro e w1 ⟨rfl, hb⟩; rw [HE.out]; replace hB := below_step hB hb; replace P1 := P1.step hb; replace P2 := P2.step hb; replace X1 := X1.step hb; replace X2 := X2.step hb; replace X3 := X3.step hb; have HL3 := Lib.hid X3.lt; clear hb x0 x1 y0 y1; have x0 := X1.c0; have x1 := X1.c1; have y0 := X2.c0; have y1 := X2.c1) | (go_at_call 12; have t1 := T1; clear T1 t1; refine (HN1.out _ P1).mono ?_; rintro e w2 ⟨A3, k3, c3, us0, rfl, hP3, hok3, hd3, hA3, hb⟩; rw [HD3.out]; have b9 := below_alloc w2 (.cells #[.int .i64 D3, .slice A3 k3 c3] 24); have hx := below_step hb b9; replace hB := below_step hB hx; replace P2 := P2.step hx; replace X1 := X1.step hx; replace X2 := X2.step hx; replace X3 := X3.step hx; have Q3 := hP3.step b9; have HA3 := Lib.hid (show 0 < k3 → ∃ g o, A3 = some ⟨g, o, none⟩ ∧ w.heap.size + 1 + 1 < g from fun h9 => (let ⟨g, o, h7, h8⟩ := hA3 h9; ⟨g, o, h7, Nat.lt_of_lt_of_le HL3.out h8⟩)); have O3 := Lib.hid (fun p hp => (hok3 p hp).keep (.of_below b9)); have Y3 := SetBox.new w2 D3 A3 k3 c3; have HD3b := Lib.hid hd3; clear hb b9 hx x0 x1 y0 y1 P1 hP3 hok3 hA3 hd3; have x0 := X1.c0; have x1 := X1.c1; have y0 := X2.c0; have y1 := X2.c1; have z0 := Y3.c0; have z1 := Y3.c1) | (go_at_call 12; refine (HN2.out _ P2).mono ?_; rintro e w3 ⟨A4, k4, c4, qs0, rfl, hP4, hok4, hd4, hA4, hb⟩; rw [HD4.out]; have b9 := below_alloc w3 (.cells #[.int .i64 D4, .slice A4 k4 c4] 24); have hx := below_step hb b9; replace hB := below_step hB hx; replace X1 := X1.step hx; replace X3 := X3.step hx; replace Y3 := Y3.step hx; replace Q3 := Q3.step hx; have O4 := Lib.hid (fun p hp => (O3.out p hp).keep (.of_below hx)); have Q4 := hP4.step b9; have O5 := Lib.hid (fun p hp => (hok4 p hp).keep (.of_below b9)); have Y4 := SetBox.new w3 D4 A4 k4 c4; have HD4b := Lib.hid hd4; clear hb b9 hx x0 x1 y0 y1 z0 z1 P2 hP4 hok4 hA4 hd4 O3; have x0 := X1.c0; have x1 := X1.c1; have z0 := Y3.c0; have z1 := Y3.c1; have y0 := Y4.c0; have y1 := Y4.c1; have r0 := X3.c0; have r1 := X3.c1; have f0 := X3.f 0; have f1 := X3.f 1))
    have X4 := X3.put 0 none 0 0
    have hb4 := hB.trans (below_put (N := w.heap.size) (b := w.heap.size + 1 + 1) (w := w3.alloc (.cells #[.int .i64 D4, .slice A4 k4 c4] 24)) (by omega) (.int .i64 0) (.slice none 0 0))
    have v0 := X4.c0
    have v1 := X4.c1
    refine bodyPost_ret (v := .tuple #[setV 0 none 0 0, .int .i64 3]) (by simp [results, Tryz.results19, go_sem, v0, v1]) rfl ?_
    exact gather_fail HR.out (by decide) hb4
end Go.Proofs.YtkgnlloioaobiaaGreat
namespace Go.Proofs.YtkgnlloioaobiaaGreat
open Go.RowKit Go.Shelf
set_option maxHeartbeats 4000000 in
theorem ref_minus_bad (D : Int) (A : Option Addr) (n c : Nat) (ps : List PEl) (D' : Int) (A' : Option Addr) (n' c' : Nat) (ps' : List PEl) (w : World) (h : PiecesAt w A n ps) (h' : PiecesAt w A' n' ps') (hbe : bothE D ps D' ps' ≠ 0) :
    Calls Tryz.prog 19 #[setV D A n c, setV D' A' n' c'] w fun e w' => e = .returned (.tuple #[setV 0 none 0 0, .int .i64 (bothE D ps D' ps')]) ∧ Below w.heap.size w w' := by
  obtain ⟨er, her⟩ : ∃ er, bothE D ps D' ps' = er := ⟨_, rfl⟩
  rw [her] at hbe ⊢
  have HE := Lib.hid her
  have B1 := below_step (below_step (below_alloc w (.cells #[.int .i64 D, .slice A n c] 24)) (below_alloc _ (.cells #[.int .i64 D', .slice A' n' c'] 24))) (below_alloc _ (.cells #[.int .i64 0, .slice none 0 0] 24))
  have X1 := ((SetBox.new w D A n c).alloc (.cells #[.int .i64 D', .slice A' n' c'] 24)).alloc (.cells #[.int .i64 0, .slice none 0 0] 24)
  have X2 := (SetBox.new (w.alloc (.cells #[.int .i64 D, .slice A n c] 24)) D' A' n' c').alloc (.cells #[.int .i64 0, .slice none 0 0] 24)
  have X3 : SetBox (((w.alloc (.cells #[.int .i64 D, .slice A n c] 24)).alloc (.cells #[.int .i64 D', .slice A' n' c'] 24)).alloc (.cells #[.int .i64 0, .slice none 0 0] 24)) (w.heap.size + 2) 0 none 0 0 := by
    have := SetBox.new ((w.alloc (.cells #[.int .i64 D, .slice A n c] 24)).alloc (.cells #[.int .i64 D', .slice A' n' c'] 24)) 0 none 0 0
    rw [World.size_alloc, World.size_alloc] at this
    exact this
  rw [World.size_alloc] at X2
  have P1 := h.step B1
  have P2 := h'.step B1
  have c0 := X1.c0
  have c1 := X1.c1
  have d0 := X2.c0
  have d1 := X2.c1
  have h0' : (er != 0) = true := by simpa using hbe
  have h0'' : (er == 0) = false := by simpa using hbe
  clear her h h' hbe
  go_enter Tryz.func19, Tryz.ntmps19
  go_wp2_with (go_at_call 50; refine (ref_boths D A n c ps D' A' n' c' ps' _ P1 P2).mono ?_; rintro e w4 ⟨rfl, hb⟩; rw [HE.out]; replace B1 := below_step B1 hb; have X4 := X3.step hb; have z0 := X4.c0; have z1 := X4.c1; have f0 := X4.f 0; have f1 := X4.f 1)
  have X5 := X4.put 0 none 0 0
  have hb8 := below_put (w := w4) (N := w.heap.size) (b := w.heap.size + 2) (by omega) (.int .i64 0) (.slice none 0 0)
  generalize (w4.setCell ⟨w.heap.size + 2, 0, none⟩ (.int .i64 0)).setCell ⟨w.heap.size + 2, 1, none⟩ (.slice none 0 0) = w5 at *
  have y0 := X5.c0
  have y1 := X5.c1
  try rw [Exit.noGoto_ret]
  refine bodyPost_ret (v := .tuple #[setV 0 none 0 0, .int .i64 er]) (by simp [results, Tryz.results19, go_sem, y0, y1]) rfl ?_
  exact ⟨rfl, B1.trans hb8⟩
def minusE (D : Int) (ps : List PEl) (D' : Int) (ps' : List PEl) : Int × List (List CD) := if bothE D ps D' ps' ≠ 0 then (bothE D ps D' ps', []) else minusD D.toNat (ps.map PEl.dat) (ps'.map PEl.dat)
theorem minus_any (D : Int) (A : Option Addr) (n c : Nat) (ps : List PEl) (D' : Int) (A' : Option Addr) (n' c' : Nat) (ps' : List PEl) (w : World) (h : PiecesAt w A n ps) (h' : PiecesAt w A' n' ps') :
    Calls Tryz.prog 18 #[setV D A n c, setV D' A' n' c'] w fun e w' => GatherRet D.toNat w e w' D (minusE D ps D' ps') := by
  unfold minusE
  by_cases h0 : bothE D ps D' ps' ≠ 0
  · rw [if_pos h0]
    exact (set_minus_bad D A n c ps D' A' n' c' ps' w h h' h0).mono fun e w' h => gather_none h0 h
  · rw [if_neg h0]
    obtain ⟨hv1, hv2, rfl⟩ := both_ok (show bothE D ps D' ps' = 0 by simpa using h0)
    exact set_minus D A n c ps A' n' c' ps' w h h' hv1 hv2
theorem ref_minus_any (D : Int) (A : Option Addr) (n c : Nat) (ps : List PEl) (D' : Int) (A' : Option Addr) (n' c' : Nat) (ps' : List PEl) (w : World) (h : PiecesAt w A n ps) (h' : PiecesAt w A' n' ps') :
    Calls Tryz.prog 19 #[setV D A n c, setV D' A' n' c'] w fun e w' => GatherRet D.toNat w e w' D (minusE D ps D' ps') := by
  unfold minusE
  by_cases h0 : bothE D ps D' ps' ≠ 0
  · rw [if_pos h0]
    exact (ref_minus_bad D A n c ps D' A' n' c' ps' w h h' h0).mono fun e w' h => gather_none h0 h
  · rw [if_neg h0]
    obtain ⟨hv1, hv2, rfl⟩ := both_ok (show bothE D ps D' ps' = 0 by simpa using h0)
    exact ref_minus D A n c ps A' n' c' ps' w h h' hv1 hv2
end Go.Proofs.YtkgnlloioaobiaaGreat
