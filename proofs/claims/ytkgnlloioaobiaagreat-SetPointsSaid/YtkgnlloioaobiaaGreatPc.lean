/-
  Part 3 of the texts that the laws stand on.
-/
import Derived.Test.YtkgnlloioaobiaaGreatPb
set_option linter.unusedVariables false
set_option linter.unusedSimpArgs false
namespace Go.Proofs.YtkgnlloioaobiaaGreat.setPoints
open Go.ChangeShapes Go.WideShapes Go.ChangeAt Go.RowKit
set_option maxRecDepth 100000 in
set_option maxHeartbeats 40000000 in
theorem walk_tt (w : World) (nn : Nat) (A : Option Addr) (n c : Nat) (ps : List PEl) (h : PiecesAt w A n ps) (hC : ∀ p ∈ ps, PieceC p) (A' : Option Addr) (n' c' : Nat) (ps' : List PEl) (h' : PiecesAt w A' n' ps') (hC' : ∀ p ∈ ps', PieceC p) (O : Option Addr) (k oc : Nat) (xs : List Int) (hI : IntsAt w O k xs) (hO : CapAt w.heap.size O k oc) (i v : Int)
    (hf : fewB 12 12 [⟨nn, A, n, c, ps⟩, ⟨nn, A', n', c', ps'⟩] = true) (hvs : validS nn ps = true) (hvt : validS nn ps' = true) (hxl : xs.length = nn) (hpt : pointB xs = true) (hpv : hasS xs ps = true) (hqv : hasS xs ps' = true) :
    Calls Tryz.prog 7 #[setV nn A n c, setV nn A' n' c', .slice O k oc, .int .i64 i, .int .i64 v] w fun e w' => e = .returned (.bool true) ∧ Below w.heap.size w w' := by
  have hB := below_step (below_alloc w (.cells #[.int .i64 (nn : Int), .slice A n c] 24)) (below_alloc _ (.cells #[.int .i64 (nn : Int), .slice A' n' c'] 24))
  have P1 := h.step hB
  have P2 := h'.step hB
  have I1 := hI.step hB
  have X1 := (SetBox.new w (nn : Int) A n c).alloc (.cells #[.int .i64 (nn : Int), .slice A' n' c'] 24)
  have X2 := SetBox.new (w.alloc (.cells #[.int .i64 (nn : Int), .slice A n c] 24)) (nn : Int) A' n' c'
  rw [World.size_alloc] at X2
  have hlp := pieces_lens h
  have hlq := pieces_lens h'
  have hnn12 : nn ≤ 12 := by have := (valid_elim hvs).1; omega
  have hkn : k = nn := by have := hI.len; omega
  have HKN := Lib.hid hkn
  have HPT := Lib.hid hpt
  have HF := Lib.hid hf
  have he0 : sErr (nn : Int) ps xs = 0 := by unfold sErr; rw [if_pos hvs, if_pos (by omega), if_pos hpt]
  have he1 : sErr (nn : Int) ps' xs = 0 := by unfold sErr; rw [if_pos hvt, if_pos (by omega), if_pos hpt]
  have HE := Lib.hid he0
  have HG := Lib.hid he1
  have HV := Lib.hid (show sVal (nn : Int) ps xs = true by unfold sVal; rw [if_pos he0]; exact hpv)
  have HW := Lib.hid (show sVal (nn : Int) ps' xs = true by unfold sVal; rw [if_pos he1]; exact hqv)
  have HU := Lib.hid (fun W (J1 : PiecesAt W A n ps) (J2 : PiecesAt W A' n' ps') => (show Calls Tryz.prog 14 #[setV nn A n c, setV nn A' n' c'] W fun e w' => GatherRet nn W e w' nn (gatherD nn ((ps ++ ps').map PEl.dat)) from set_union nn A n c ps A' n' c' ps' W J1 J2 hvs hvt))
  have HUH := Lib.hid (fun (us : List PEl) (hlu : ∀ p ∈ us, ∀ e ∈ p.els, e.xs.length = e.n) (hd : gatherD nn ((ps ++ ps').map PEl.dat) = (0, us.map PEl.dat)) => (show GoodU nn (us.map PEl.dat) ∧ hasS xs us = (true || true) from by have h9 := union_has hxl hpt hlp hlq hlu hvs hvt hd; rw [hpv, hqv] at h9; exact h9))
  have HM := Lib.hid (fun W (J1 : PiecesAt W A n ps) (J2 : PiecesAt W A' n' ps') => (show Calls Tryz.prog 16 #[setV nn A n c, setV nn A' n' c'] W fun e w' => GatherRet nn W e w' nn (gatherD nn (meetL (ps.map PEl.dat) (ps'.map PEl.dat))) from set_meet nn A n c ps A' n' c' ps' W J1 J2 hvs hvt (fun p hp => (hC p hp).1) (fun p hp => (hC' p hp).1)))
  have HMH := Lib.hid (fun (us : List PEl) (hlu : ∀ p ∈ us, ∀ e ∈ p.els, e.xs.length = e.n) (hd : gatherD nn (meetL (ps.map PEl.dat) (ps'.map PEl.dat)) = (0, us.map PEl.dat)) => (show GoodU nn (us.map PEl.dat) ∧ hasS xs us = (true && true) from by have h9 := meet_has hxl hpt hlp hlq hlu hvs hvt hd; rw [hpv, hqv] at h9; exact h9))
  have HX := Lib.hid (fun W (J1 : PiecesAt W A n ps) (J2 : PiecesAt W A' n' ps') => (show Calls Tryz.prog 18 #[setV nn A n c, setV nn A' n' c'] W fun e w' => GatherRet nn W e w' nn (minusD nn (ps.map PEl.dat) (ps'.map PEl.dat)) from set_minus nn A n c ps A' n' c' ps' W J1 J2 hvs hvt))
  have HXH := Lib.hid (fun (us : List PEl) (hlu : ∀ p ∈ us, ∀ e ∈ p.els, e.xs.length = e.n) (hd : minusD nn (ps.map PEl.dat) (ps'.map PEl.dat) = (0, us.map PEl.dat)) => (show GoodU nn (us.map PEl.dat) ∧ hasS xs us = (true && !true) from by have h9 := minus_has hnn12 hxl hpt hlp hlq hlu hvs hvt hd; rw [hpv, hqv] at h9; exact h9))
  have HN := Lib.hid (fun W (J1 : PiecesAt W A n ps) (J2 : PiecesAt W A' n' ps') => (show Calls Tryz.prog 11 #[setV nn A n c] W fun e w' => GatherRet nn W e w' nn (gatherD nn (ps.map PEl.dat)) from set_normal nn A n c ps W J1 hvs))
  have HNH := Lib.hid (fun (us : List PEl) (hlu : ∀ p ∈ us, ∀ e ∈ p.els, e.xs.length = e.n) (hd : gatherD nn (ps.map PEl.dat) = (0, us.map PEl.dat)) => (show GoodU nn (us.map PEl.dat) ∧ hasS xs us = true from by have h9 := normal_has hxl hpt hlp hlu hvs hd; rw [hpv] at h9; exact h9))
  have x0 := X1.c0
  have x1 := X1.c1
  have y0 := X2.c0
  have y1 := X2.c1
  have T1 : True := trivial
  have HH := Lib.hid (And.intro hlp (And.intro hvs (And.intro hxl (And.intro hnn12 hpv))))
  have HCC := Lib.hid hC
  have HOO := Lib.hid hO
  clear h h' hI hf hvs hvt hxl hpt hkn hlp hlq hnn12 hpv hqv he0 he1 hC hC' hO
  go_enter Tryz.func7, Tryz.ntmps7
  go_upto_if 51 with (first
    | (go_at_call 9; refine (few_two _ 2 (by simp) P1 P2).mono ?_; rintro e w1 ⟨rfl, hx⟩; rw [HF.out]; replace hB := below_step hB hx; replace P1 := P1.step hx; replace P2 := P2.step hx; replace I1 := I1.step hx; replace X1 := X1.step hx; replace X2 := X2.step hx; clear x0 x1 y0 y1; have x0 := X1.c0; have x1 := X1.c1; have y0 := X2.c0; have y1 := X2.c1; clear hx)
    | (go_at_call 24; have t1 := T1; clear T1 t1; refine (set_has (nn : Int) A n c ps O k oc xs _ P1 I1).mono ?_; rintro e w3 ⟨rfl, hx⟩; rw [HV.out, HE.out]; replace hB := below_step hB hx; replace P1 := P1.step hx; replace P2 := P2.step hx; replace I1 := I1.step hx; replace X1 := X1.step hx; replace X2 := X2.step hx; clear x0 x1 y0 y1; have x0 := X1.c0; have x1 := X1.c1; have y0 := X2.c0; have y1 := X2.c1; clear hx)
    | (go_at_call 24; refine (set_has (nn : Int) A' n' c' ps' O k oc xs _ P2 I1).mono ?_; rintro e w3 ⟨rfl, hx⟩; rw [HW.out, HG.out]; replace hB := below_step hB hx; replace P1 := P1.step hx; replace P2 := P2.step hx; replace I1 := I1.step hx; replace X1 := X1.step hx; replace X2 := X2.step hx; clear x0 x1 y0 y1; have x0 := X1.c0; have x1 := X1.c1; have y0 := X2.c0; have y1 := X2.c1; clear hx))
  go_cut [] from 15 (fun W => GoodS w W nn A n c ps A' n' c' ps' O k oc xs)
  case first =>
    as_aux_lemma => (
    go_wp2
    go_meet
    case rel => exact ⟨hB, P1, P2, I1, X1, X2⟩
    )
  rename_i hrest
  obtain ⟨hB, P1, P2, I1, X1, X2⟩ := hcut
  refine hrest _ _ ?_
  clear hrest
  go_step
  go_cut [] from 15 (fun W => GoodS w W nn A n c ps A' n' c' ps' O k oc xs)
  case first =>
    as_aux_lemma => (
    have x0 := X1.c0
    have x1 := X1.c1
    have y0 := X2.c0
    have y1 := X2.c1
    by_cases h0 : (gatherD nn ((ps ++ ps').map PEl.dat)).1 = 0
    · have HS := Lib.hid (fun W (J1 : PiecesAt W A n ps) (J2 : PiecesAt W A' n' ps') => spec_ok (HU.out W J1 J2) h0 (fun us hlu hd => HUH.out us hlu (by rw [← hd, ← h0])))
      clear h0
      (
        go_wp2_with (first
          | (go_at_call 14; refine (HS.out _ P1 P2).mono ?_; rintro e w2 ⟨A2, k2, c2, us, rfl, P3, hb, hh, hc⟩; have b9 := below_alloc w2 (.cells #[.int .i64 (nn : Int), .slice A2 k2 c2] 24); have hx := below_step hb b9; replace hB := below_step hB hx; replace P1 := P1.step hx; replace P2 := P2.step hx; replace I1 := I1.step hx; replace X1 := X1.step hx; replace X2 := X2.step hx; replace P3 := P3.step b9; have Y3 := SetBox.new w2 (nn : Int) A2 k2 c2; clear x0 x1 y0 y1; have x0 := X1.c0; have x1 := X1.c1; have y0 := X2.c0; have y1 := X2.c1; have z0 := Y3.c0; have z1 := Y3.c1; clear hb b9 hx)
          | (go_at_call 25; refine (ref_sis (nn : Int) A2 k2 c2 us O k oc xs _ P3 I1 HPT.out (by rw [HKN.out]; exact hc)).mono ?_; rintro e w3 ⟨rfl, hx⟩; rw [hh]; replace hB := below_step hB hx; replace P1 := P1.step hx; replace P2 := P2.step hx; replace I1 := I1.step hx; replace X1 := X1.step hx; replace X2 := X2.step hx; clear hx))
        go_meet
        case rel => exact ⟨hB, P1, P2, I1, X1, X2⟩)
    · have HS := Lib.hid (fun W (J1 : PiecesAt W A n ps) (J2 : PiecesAt W A' n' ps') => spec_bad (HU.out W J1 J2) h0)
      obtain ⟨er, her⟩ : ∃ er, (gatherD nn ((ps ++ ps').map PEl.dat)).1 = er := ⟨_, rfl⟩
      rw [her] at HS h0
      have q1 : (er == 0) = false := by simpa using h0
      have q2 : (er != 0) = true := by simpa using h0
      clear h0 her
      go_wp2_with (go_at_call 14; refine (HS.out _ P1 P2).mono ?_; rintro e w2 ⟨A2, k2, c2, rfl, hb⟩; have b9 := below_alloc w2 (.cells #[.int .i64 0, .slice A2 k2 c2] 24); have hx := below_step hb b9; replace hB := below_step hB hx; replace P1 := P1.step hx; replace P2 := P2.step hx; replace I1 := I1.step hx; replace X1 := X1.step hx; replace X2 := X2.step hx; clear hb b9 hx)
      go_meet
      case rel => exact ⟨hB, P1, P2, I1, X1, X2⟩
    )
  rename_i hrest
  obtain ⟨hB, P1, P2, I1, X1, X2⟩ := hcut
  refine hrest _ _ ?_
  clear hrest
  go_step
  go_cut [] from 15 (fun W => GoodS w W nn A n c ps A' n' c' ps' O k oc xs)
  case first =>
    as_aux_lemma => (
    have x0 := X1.c0
    have x1 := X1.c1
    have y0 := X2.c0
    have y1 := X2.c1
    by_cases h0 : (gatherD nn (meetL (ps.map PEl.dat) (ps'.map PEl.dat))).1 = 0
    · have HS := Lib.hid (fun W (J1 : PiecesAt W A n ps) (J2 : PiecesAt W A' n' ps') => spec_ok (HM.out W J1 J2) h0 (fun us hlu hd => HMH.out us hlu (by rw [← hd, ← h0])))
      clear h0
      (
        go_wp2_with (first
          | (go_at_call 16; refine (HS.out _ P1 P2).mono ?_; rintro e w2 ⟨A2, k2, c2, us, rfl, P3, hb, hh, hc⟩; have b9 := below_alloc w2 (.cells #[.int .i64 (nn : Int), .slice A2 k2 c2] 24); have hx := below_step hb b9; replace hB := below_step hB hx; replace P1 := P1.step hx; replace P2 := P2.step hx; replace I1 := I1.step hx; replace X1 := X1.step hx; replace X2 := X2.step hx; replace P3 := P3.step b9; have Y3 := SetBox.new w2 (nn : Int) A2 k2 c2; clear x0 x1 y0 y1; have x0 := X1.c0; have x1 := X1.c1; have y0 := X2.c0; have y1 := X2.c1; have z0 := Y3.c0; have z1 := Y3.c1; clear hb b9 hx)
          | (go_at_call 25; refine (ref_sis (nn : Int) A2 k2 c2 us O k oc xs _ P3 I1 HPT.out (by rw [HKN.out]; exact hc)).mono ?_; rintro e w3 ⟨rfl, hx⟩; rw [hh]; replace hB := below_step hB hx; replace P1 := P1.step hx; replace P2 := P2.step hx; replace I1 := I1.step hx; replace X1 := X1.step hx; replace X2 := X2.step hx; clear hx))
        go_meet
        case rel => exact ⟨hB, P1, P2, I1, X1, X2⟩)
    · have HS := Lib.hid (fun W (J1 : PiecesAt W A n ps) (J2 : PiecesAt W A' n' ps') => spec_bad (HM.out W J1 J2) h0)
      obtain ⟨er, her⟩ : ∃ er, (gatherD nn (meetL (ps.map PEl.dat) (ps'.map PEl.dat))).1 = er := ⟨_, rfl⟩
      rw [her] at HS h0
      have q1 : (er == 0) = false := by simpa using h0
      have q2 : (er != 0) = true := by simpa using h0
      clear h0 her
      go_wp2_with (go_at_call 16; refine (HS.out _ P1 P2).mono ?_; rintro e w2 ⟨A2, k2, c2, rfl, hb⟩; have b9 := below_alloc w2 (.cells #[.int .i64 0, .slice A2 k2 c2] 24); have hx := below_step hb b9; replace hB := below_step hB hx; replace P1 := P1.step hx; replace P2 := P2.step hx; replace I1 := I1.step hx; replace X1 := X1.step hx; replace X2 := X2.step hx; clear hb b9 hx)
      go_meet
      case rel => exact ⟨hB, P1, P2, I1, X1, X2⟩
    )
  rename_i hrest
  obtain ⟨hB, P1, P2, I1, X1, X2⟩ := hcut
  refine hrest _ _ ?_
  clear hrest
  go_step
  go_cut [] from 15 (fun W => GoodS w W nn A n c ps A' n' c' ps' O k oc xs)
  case first =>
    as_aux_lemma => (
    have x0 := X1.c0
    have x1 := X1.c1
    have y0 := X2.c0
    have y1 := X2.c1
    by_cases h0 : (minusD nn (ps.map PEl.dat) (ps'.map PEl.dat)).1 = 0
    · have HS := Lib.hid (fun W (J1 : PiecesAt W A n ps) (J2 : PiecesAt W A' n' ps') => spec_ok (HX.out W J1 J2) h0 (fun us hlu hd => HXH.out us hlu (by rw [← hd, ← h0])))
      clear h0
      (
        go_wp2_with (first
          | (go_at_call 18; refine (HS.out _ P1 P2).mono ?_; rintro e w2 ⟨A2, k2, c2, us, rfl, P3, hb, hh, hc⟩; have b9 := below_alloc w2 (.cells #[.int .i64 (nn : Int), .slice A2 k2 c2] 24); have hx := below_step hb b9; replace hB := below_step hB hx; replace P1 := P1.step hx; replace P2 := P2.step hx; replace I1 := I1.step hx; replace X1 := X1.step hx; replace X2 := X2.step hx; replace P3 := P3.step b9; have Y3 := SetBox.new w2 (nn : Int) A2 k2 c2; clear x0 x1 y0 y1; have x0 := X1.c0; have x1 := X1.c1; have y0 := X2.c0; have y1 := X2.c1; have z0 := Y3.c0; have z1 := Y3.c1; clear hb b9 hx)
          | (go_at_call 25; refine (ref_sis (nn : Int) A2 k2 c2 us O k oc xs _ P3 I1 HPT.out (by rw [HKN.out]; exact hc)).mono ?_; rintro e w3 ⟨rfl, hx⟩; rw [hh]; replace hB := below_step hB hx; replace P1 := P1.step hx; replace P2 := P2.step hx; replace I1 := I1.step hx; replace X1 := X1.step hx; replace X2 := X2.step hx; clear hx))
        go_meet
        case rel => exact ⟨hB, P1, P2, I1, X1, X2⟩)
    · have HS := Lib.hid (fun W (J1 : PiecesAt W A n ps) (J2 : PiecesAt W A' n' ps') => spec_bad (HX.out W J1 J2) h0)
      obtain ⟨er, her⟩ : ∃ er, (minusD nn (ps.map PEl.dat) (ps'.map PEl.dat)).1 = er := ⟨_, rfl⟩
      rw [her] at HS h0
      have q1 : (er == 0) = false := by simpa using h0
      have q2 : (er != 0) = true := by simpa using h0
      clear h0 her
      go_wp2_with (go_at_call 18; refine (HS.out _ P1 P2).mono ?_; rintro e w2 ⟨A2, k2, c2, rfl, hb⟩; have b9 := below_alloc w2 (.cells #[.int .i64 0, .slice A2 k2 c2] 24); have hx := below_step hb b9; replace hB := below_step hB hx; replace P1 := P1.step hx; replace P2 := P2.step hx; replace I1 := I1.step hx; replace X1 := X1.step hx; replace X2 := X2.step hx; clear hb b9 hx)
      go_meet
      case rel => exact ⟨hB, P1, P2, I1, X1, X2⟩
    )
  rename_i hrest
  obtain ⟨hB, P1, P2, I1, X1, X2⟩ := hcut
  refine hrest _ _ ?_
  clear hrest
  go_step
  go_cut [] from 15 (fun W => GoodS w W nn A n c ps A' n' c' ps' O k oc xs)
  case first =>
    as_aux_lemma => (
    have x0 := X1.c0
    have x1 := X1.c1
    have y0 := X2.c0
    have y1 := X2.c1
    by_cases h0 : (gatherD nn (ps.map PEl.dat)).1 = 0
    · have HS := Lib.hid (fun W (J1 : PiecesAt W A n ps) (J2 : PiecesAt W A' n' ps') => spec_ok (HN.out W J1 J2) h0 (fun us hlu hd => HNH.out us hlu (by rw [← hd, ← h0])))
      clear h0
      (
        go_wp2_with (first
          | (go_at_call 11; refine (HS.out _ P1 P2).mono ?_; rintro e w2 ⟨A2, k2, c2, us, rfl, P3, hb, hh, hc⟩; have b9 := below_alloc w2 (.cells #[.int .i64 (nn : Int), .slice A2 k2 c2] 24); have hx := below_step hb b9; replace hB := below_step hB hx; replace P1 := P1.step hx; replace P2 := P2.step hx; replace I1 := I1.step hx; replace X1 := X1.step hx; replace X2 := X2.step hx; replace P3 := P3.step b9; have Y3 := SetBox.new w2 (nn : Int) A2 k2 c2; clear x0 x1 y0 y1; have x0 := X1.c0; have x1 := X1.c1; have y0 := X2.c0; have y1 := X2.c1; have z0 := Y3.c0; have z1 := Y3.c1; clear hb b9 hx)
          | (go_at_call 25; refine (ref_sis (nn : Int) A2 k2 c2 us O k oc xs _ P3 I1 HPT.out (by rw [HKN.out]; exact hc)).mono ?_; rintro e w3 ⟨rfl, hx⟩; rw [hh]; replace hB := below_step hB hx; replace P1 := P1.step hx; replace P2 := P2.step hx; replace I1 := I1.step hx; replace X1 := X1.step hx; replace X2 := X2.step hx; clear hx))
        go_meet
        case rel => exact ⟨hB, P1, P2, I1, X1, X2⟩)
    · have HS := Lib.hid (fun W (J1 : PiecesAt W A n ps) (J2 : PiecesAt W A' n' ps') => spec_bad (HN.out W J1 J2) h0)
      obtain ⟨er, her⟩ : ∃ er, (gatherD nn (ps.map PEl.dat)).1 = er := ⟨_, rfl⟩
      rw [her] at HS h0
      have q1 : (er == 0) = false := by simpa using h0
      have q2 : (er != 0) = true := by simpa using h0
      clear h0 her
      go_wp2_with (go_at_call 11; refine (HS.out _ P1 P2).mono ?_; rintro e w2 ⟨A2, k2, c2, rfl, hb⟩; have b9 := below_alloc w2 (.cells #[.int .i64 0, .slice A2 k2 c2] 24); have hx := below_step hb b9; replace hB := below_step hB hx; replace P1 := P1.step hx; replace P2 := P2.step hx; replace I1 := I1.step hx; replace X1 := X1.step hx; replace X2 := X2.step hx; clear hb b9 hx)
      go_meet
      case rel => exact ⟨hB, P1, P2, I1, X1, X2⟩
    )
  rename_i hrest
  obtain ⟨hB, P1, P2, I1, X1, X2⟩ := hcut
  refine hrest _ _ ?_
  clear hrest
  go_step
  go_cut [] from 15 (fun W => GoodS w W nn A n c ps A' n' c' ps' O k oc xs)
  case first =>
    as_aux_lemma => (
    have x0 := X1.c0
    have x1 := X1.c1
    have y0 := X2.c0
    have y1 := X2.c1
    by_cases hi : 0 ≤ i ∧ i < k
    · obtain ⟨i', rfl⟩ : ∃ m : Nat, i = m := ⟨i.toNat, by omega⟩
      have hik : i' < k := by omega
      have hin : i' < nn := by have := HKN.out; omega
      have hxi : i' < xs.length := by have := HH.out.2.2.1; omega
      obtain ⟨bO, offO, rfl, hbO, hcO⟩ := I1.cells (by omega)
      have xc := hcO i' hik
      obtain ⟨v0, hv0⟩ : ∃ v0, xs[i']?.getD 0 = v0 := ⟨_, rfl⟩
      rw [hv0] at xc
      have hcv : coordB v0 = true := by rw [← hv0]; exact List.all_eq_true.1 HPT.out _ (getD_mem hxi)
      have hset : xs.set i' v0 = xs := by
        rw [← hv0, List.getElem?_eq_getElem hxi]
        simp
      have hnd : ((nn : Int) - 1).toNat = nn - 1 := by omega
      have hfe : fixE (nn : Int) ps (i' : Int) v0 = gatherD (nn - 1) ((ps.map PEl.dat).map fun d => d.map (chgD (fixL i' v0))) := by
        unfold fixE
        rw [if_neg (by rw [HH.out.2.1]; simp), if_neg (by rw [hcv]; simp; omega), hnd]
        rfl
      have HFX := fun W (J1 : PiecesAt W A n ps) => (show Calls Tryz.prog 22 #[setV nn A n c, .int .i64 (i' : Int), .int .i64 v0] W fun e w' => GatherRet (nn - 1) W e w' ((nn : Int) - 1) (gatherD (nn - 1) ((ps.map PEl.dat).map fun d => d.map (chgD (fixL i' v0)))) from by rw [← hfe, ← hnd]; exact set_fix nn A n c ps i' v0 W J1 HCC.out)
      have HFH := fun (us : List PEl) (hlu : ∀ p ∈ us, ∀ e ∈ p.els, e.xs.length = e.n) (hd : gatherD (nn - 1) ((ps.map PEl.dat).map fun d => d.map (chgD (fixL i' v0))) = (0, us.map PEl.dat)) => (show GoodU (nn - 1) (us.map PEl.dat) ∧ hasS (xs.eraseIdx i') us = true from by
        obtain ⟨g1, _, _, g2⟩ := fix_has HH.out.2.2.2.1 HH.out.2.2.1 HPT.out hin hcv HH.out.1 hlu HH.out.2.1 hd
        exact ⟨g1, by rw [g2, hset, HH.out.2.2.2.2]⟩)
      have hpe : pointB (xs.eraseIdx i') = true := List.all_eq_true.2 fun y hy => List.all_eq_true.1 HPT.out y (List.mem_of_mem_eraseIdx hy)
      have HPE := Lib.hid hpe
      obtain ⟨gd, hgd⟩ : ∃ gd, gatherD (nn - 1) ((ps.map PEl.dat).map fun d => d.map (chgD (fixL i' v0))) = gd := ⟨_, rfl⟩
      rw [hgd] at HFX HFH
      clear hgd hfe hset hcv hv0 hpe hnd
      have e1 : (0 : Int) ≤ (i' : Int) := by omega
      have e2 : (i' : Int) < k := by omega
      by_cases h0 : gd.1 = 0
      · have HS := Lib.hid (fun W (J1 : PiecesAt W A n ps) => spec_ok2 (HFX W J1) h0 (fun us hlu hd => HFH us hlu (by rw [hd])))
        clear h0 HFX HFH hi
        have bd : Below wc.heap.size wc wc.drew := (Below.refl _ _).drew
        have bz : Below wc.heap.size wc (wc.alloc (.cells #[.int .i64 0, .slice none 0 0] 24)).drew := (below_alloc wc (.cells #[.int .i64 0, .slice none 0 0] 24)).drew
        have Z8 := SetBox.new wc 0 none 0 0
        have XC := Lib.hid (fun W (hx : Below wc.heap.size wc W) => (show W.cell? ⟨w.heap.size, 0, none⟩ = some (.int .i64 (nn : Int)) ∧ W.cell? ⟨w.heap.size, 1, none⟩ = some (.slice A n c) ∧ W.cell? ⟨bO, offO + i', none⟩ = some (.int .i64 v0) from ⟨(X1.step hx).c0, (X1.step hx).c1, (hx.cell (p := ⟨bO, offO + i', none⟩) hbO).trans xc⟩))
        have d3 := XC.out _ bd
        have f3 := XC.out _ bz
        have HBD := Lib.hid bd
        have HBZ := Lib.hid bz
        have HB := Lib.hid hB
        clear bd bz hB
        have HP := Lib.hid P1
        go_wp2
        go_region_held3 (fun W => W.cell? ⟨w.heap.size, 0, none⟩ = some (.int .i64 (nn : Int)) ∧ W.cell? ⟨w.heap.size, 1, none⟩ = some (.slice A n c) ∧ W.cell? ⟨bO, offO + i', none⟩ = some (.int .i64 v0)) (first | with_reducible exact d3 | with_reducible exact f3 | with_reducible exact z3 | with_reducible exact y3 | with_reducible exact u3 | go_keep)
          (first
            | (go_at_call 22; (with_reducible show Calls _ _ _ wc.drew _); refine (HS.out wc.drew (HP.out.step HBD.out)).mono ?_; rintro e w2 ⟨A2, k2, c2, us, rfl, P3, hok, hA, hb, hh, hc⟩; have hx := HBD.out.trans hb; have z3 := XC.out _ hx; have y3 := XC.out _ (below_step hx (below_alloc w2 (.cells #[.int .i64 0, .slice none 0 0] 24))); have u3 := XC.out _ (below_step hx (below_alloc w2 (.cells #[.int .i64 ((nn : Int) - 1), .slice A2 k2 c2] 24))))
            | (go_at_call 22; (with_reducible show Calls _ _ _ (World.drew (World.alloc wc _)) _); refine (HS.out _ (HP.out.step HBZ.out)).mono ?_; rintro e w2 ⟨A2, k2, c2, us, rfl, P3, hok, hA, hb, hh, hc⟩; have hx := below_step HBZ.out hb; have z3 := XC.out _ hx; have y3 := XC.out _ (hx.trans (below_put (w := w2) (N := wc.heap.size) (b := wc.heap.size) (Nat.le_refl _) (.int .i64 ((nn : Int) - 1)) (.slice A2 k2 c2))); have Z2 := ((show SetBox (wc.alloc (.cells #[.int .i64 0, .slice none 0 0] 24)).drew wc.heap.size 0 none 0 0 from Z8).step hb); have f0 := Z2.f 0; have f1 := Z2.f 1; have q0 := Z2.c0; have q1 := Z2.c1))
        · rename_i hHeld
          clear hHeld
          have Z4 := SetBox.new w2 ((nn : Int) - 1) A2 k2 c2
          have b9 := below_alloc w2 (.cells #[.int .i64 ((nn : Int) - 1), .slice A2 k2 c2] 24)
          have P4 := P3.step b9
          have E4 := below_step hx b9
          clear b9 u3 P3 hok hA Z8
          (have hB4 := below_step HB.out E4; replace P1 := P1.step E4; replace P2 := P2.step E4; replace I1 := I1.step E4; replace X1 := X1.step E4; replace X2 := X2.step E4; clear E4 XC HBD HBZ d3 f3 z3 y3 hx hb HB HP xc hcO)
          generalize w2.alloc (.cells #[.int .i64 ((nn : Int) - 1), .slice A2 k2 c2] 24) = w4 at *
          generalize w2.heap.size = b4 at *
          as_aux_lemma => ((have T2 : True := trivial); (have n1 : (i' : Int) ≤ k := by omega); (have n2 : (i' : Int) ≤ oc := by (have := HOO.out.1.2.1; omega)); (have n3 : IntKind.i64.wrap ((i' : Int) + 1) = (i' : Int) + 1 := IntWalk.i64_in _ (by (have := HOO.out.1.2.1; have := HOO.out.1.2.2; omega))); (have n4 : (0 : Int) ≤ (i' : Int) + 1 := by omega); (have n5 : ((i' : Int) + 1).toNat = i' + 1 := by omega); (have n6 : (i' : Int) + 1 ≤ k := by omega); (have n7 : (i' : Int) + 1 ≤ oc := by (have := HOO.out.1.2.1; omega)); (have n8 : (k : Int) ≤ oc := by (have := HOO.out.1.2.1; omega)); (obtain ⟨q, hq⟩ : ∃ q, (if oc = i' + 1 then some (⟨bO, offO, none⟩ : Addr) else some ⟨bO, offO + (i' + 1), none⟩) = q := ⟨_, rfl⟩); (have JL := Lib.hid (fun W (hx : Below w4.heap.size w4 W) => (show IntsAt W (some ⟨bO, offO, none⟩) i' (xs.take i') from by simpa using sub_ints (d := 0) (k := i') (I1.step hx) (by omega)))); (have JH := Lib.hid (fun W (hx : Below w4.heap.size w4 W) => (show IntsAt W q (k - (i' + 1)) (xs.drop (i' + 1)) from cut_high HOO.out.1.2.1 hik (I1.step hx) hq))); (have HER := Lib.hid (show xs.take i' ++ xs.drop (i' + 1) = xs.eraseIdx i' from (List.eraseIdx_eq_take_drop_succ _ _).symm)); (have HQ1 := Lib.hid (show i' + (k - (i' + 1)) = nn - 1 from (by (have := HKN.out; omega)))); (have HQ2 := Lib.hid (show nn - 1 ≤ 17592186044416 from (by (have := HH.out.2.2.2.1; omega)))); (have HWF := Lib.hid (show ∀ x ∈ xs.eraseIdx i', -9223372036854775808 ≤ x ∧ x ≤ 9223372036854775807 from fun x hx => I1.wf x (List.mem_of_mem_eraseIdx hx))); (have ZC := Lib.hid (fun W (hx : Below w4.heap.size w4 W) => And.intro (Z4.step hx).c0 (Z4.step hx).c1)); (have bd := (Below.refl w4.heap.size w4).drew); (have be := (show Below w4.heap.size w4 (w4.alloc (.cells #[] 3)).drew from (below_alloc w4 (.cells #[] 3)).drew)); (have HBE := Lib.hid be); (have s3 := ZC.out _ bd); (have t3 := ZC.out _ be); (have own0 := (show (w4.alloc (.cells #[] 3)).drew.ownsRow w4.heap.size 3 1 (.slice (some ⟨w4.heap.size, 0, none⟩) 0 0) 0 (vals []) from World.ownsRow_lit w4 #[] 0 (Nat.le_refl _) (Nat.zero_le _) rfl)); clear bd be; go_wp2; go_region_held3 (fun W => W.cell? ⟨b4, 0, none⟩ = some (.int .i64 ((nn : Int) - 1)) ∧ W.cell? ⟨b4, 1, none⟩ = some (.slice A2 k2 c2)) (first | with_reducible exact s3 | with_reducible exact t3 | with_reducible exact v3 | with_reducible exact v4 | with_reducible exact v5 | go_keep) (first | (have t2 := T2; clear T2 t2; refine step_append_wanted (by rfl) _ _ rfl w4.heap.size (.slice (some ⟨w4.heap.size, 0, none⟩) 0 0) 0 i' i' [] (xs.take i') (xs.take i') (Nat.zero_add _) rfl ?a1 own0 (some ⟨bO, offO, none⟩) oc ?a2 (JL.out _ HBE.out) ?a3 HBE.out.size w4 HBE.out ?_; (case a1 => rfl); (case a2 => rfl); (case a3 => (have := HQ1.out; have := HQ2.out; omega)); intro A5 c5 w5 own5 b5; have v3 := ZC.out _ b5; have HB5 := Lib.hid b5; clear b5) | (refine step_append_wanted (by rfl) _ _ rfl w4.heap.size (.slice A5 i' c5) i' (k - (i' + 1)) (nn - 1) (xs.take i') (xs.drop (i' + 1)) (xs.eraseIdx i') HQ1.out HER.out ?a1 own5 q (oc - (i' + 1)) ?a2 (JH.out _ HB5.out) HQ2.out HB5.out.size w4 HB5.out ?_; (case a1 => rfl); (case a2 => rfl); intro A6 c6 w6 own6 b6; have v4 := ZC.out _ b6; have HB6 := Lib.hid b6; clear b6; have I6 := (show IntsAt w6 A6 (nn - 1) (xs.eraseIdx i') from (by (obtain ⟨_, _, e6, i6⟩ := own_ints own6 HQ2.out HWF.out; cases e6; exact i6))); have P6 := P4.step HB6.out) | (go_at_call 25; refine (ref_sis ((nn : Int) - 1) A2 k2 c2 us A6 (nn - 1) c6 (xs.eraseIdx i') _ P6 I6 HPE.out hc).mono ?_; rintro e w7 ⟨rfl, hb7⟩; rw [hh]; have b7 := HB6.out.trans (hb7.mono HB6.out.size); have v5 := ZC.out _ b7; have HB7 := Lib.hid b7; clear b7 hb7)); go_wp2; go_meet; (case rel => exact ⟨below_step hB4 HB7.out, P1.step HB7.out, P2.step HB7.out, I1.step HB7.out, X1.step HB7.out, X2.step HB7.out⟩))
        · rename_i hHeld
          clear hHeld
          have Z4 := Z2.put ((nn : Int) - 1) A2 k2 c2
          have hku := Z2.keepU (.int .i64 ((nn : Int) - 1)) (.slice A2 k2 c2)
          have P4 := pieces_move P3 (fun p hp => (hok p hp).keep hku) hku.size (fun h0 g o hA' => by
            obtain ⟨g', o', h1, h2⟩ := hA h0
            rw [hA'] at h1
            cases h1
            exact put_other (by simp at h2; omega) _ _)
          have E4 := hx.trans (below_put (w := w2) (N := wc.heap.size) (b := wc.heap.size) (Nat.le_refl _) (.int .i64 ((nn : Int) - 1)) (.slice A2 k2 c2))
          clear hku P3 hok hA Z8 Z2 f0 f1 q0 q1
          (have hB4 := below_step HB.out E4; replace P1 := P1.step E4; replace P2 := P2.step E4; replace I1 := I1.step E4; replace X1 := X1.step E4; replace X2 := X2.step E4; clear E4 XC HBD HBZ d3 f3 z3 y3 hx hb HB HP xc hcO)
          generalize (w2.setCell ⟨wc.heap.size, 0, none⟩ (.int .i64 ((nn : Int) - 1))).setCell ⟨wc.heap.size, 1, none⟩ (.slice A2 k2 c2) = w4 at *
          generalize wc.heap.size = b4 at *
          as_aux_lemma => ((have T2 : True := trivial); (have n1 : (i' : Int) ≤ k := by omega); (have n2 : (i' : Int) ≤ oc := by (have := HOO.out.1.2.1; omega)); (have n3 : IntKind.i64.wrap ((i' : Int) + 1) = (i' : Int) + 1 := IntWalk.i64_in _ (by (have := HOO.out.1.2.1; have := HOO.out.1.2.2; omega))); (have n4 : (0 : Int) ≤ (i' : Int) + 1 := by omega); (have n5 : ((i' : Int) + 1).toNat = i' + 1 := by omega); (have n6 : (i' : Int) + 1 ≤ k := by omega); (have n7 : (i' : Int) + 1 ≤ oc := by (have := HOO.out.1.2.1; omega)); (have n8 : (k : Int) ≤ oc := by (have := HOO.out.1.2.1; omega)); (obtain ⟨q, hq⟩ : ∃ q, (if oc = i' + 1 then some (⟨bO, offO, none⟩ : Addr) else some ⟨bO, offO + (i' + 1), none⟩) = q := ⟨_, rfl⟩); (have JL := Lib.hid (fun W (hx : Below w4.heap.size w4 W) => (show IntsAt W (some ⟨bO, offO, none⟩) i' (xs.take i') from by simpa using sub_ints (d := 0) (k := i') (I1.step hx) (by omega)))); (have JH := Lib.hid (fun W (hx : Below w4.heap.size w4 W) => (show IntsAt W q (k - (i' + 1)) (xs.drop (i' + 1)) from cut_high HOO.out.1.2.1 hik (I1.step hx) hq))); (have HER := Lib.hid (show xs.take i' ++ xs.drop (i' + 1) = xs.eraseIdx i' from (List.eraseIdx_eq_take_drop_succ _ _).symm)); (have HQ1 := Lib.hid (show i' + (k - (i' + 1)) = nn - 1 from (by (have := HKN.out; omega)))); (have HQ2 := Lib.hid (show nn - 1 ≤ 17592186044416 from (by (have := HH.out.2.2.2.1; omega)))); (have HWF := Lib.hid (show ∀ x ∈ xs.eraseIdx i', -9223372036854775808 ≤ x ∧ x ≤ 9223372036854775807 from fun x hx => I1.wf x (List.mem_of_mem_eraseIdx hx))); (have ZC := Lib.hid (fun W (hx : Below w4.heap.size w4 W) => And.intro (Z4.step hx).c0 (Z4.step hx).c1)); (have bd := (Below.refl w4.heap.size w4).drew); (have be := (show Below w4.heap.size w4 (w4.alloc (.cells #[] 3)).drew from (below_alloc w4 (.cells #[] 3)).drew)); (have HBE := Lib.hid be); (have s3 := ZC.out _ bd); (have t3 := ZC.out _ be); (have own0 := (show (w4.alloc (.cells #[] 3)).drew.ownsRow w4.heap.size 3 1 (.slice (some ⟨w4.heap.size, 0, none⟩) 0 0) 0 (vals []) from World.ownsRow_lit w4 #[] 0 (Nat.le_refl _) (Nat.zero_le _) rfl)); clear bd be; go_wp2; go_region_held3 (fun W => W.cell? ⟨b4, 0, none⟩ = some (.int .i64 ((nn : Int) - 1)) ∧ W.cell? ⟨b4, 1, none⟩ = some (.slice A2 k2 c2)) (first | with_reducible exact s3 | with_reducible exact t3 | with_reducible exact v3 | with_reducible exact v4 | with_reducible exact v5 | go_keep) (first | (have t2 := T2; clear T2 t2; refine step_append_wanted (by rfl) _ _ rfl w4.heap.size (.slice (some ⟨w4.heap.size, 0, none⟩) 0 0) 0 i' i' [] (xs.take i') (xs.take i') (Nat.zero_add _) rfl ?a1 own0 (some ⟨bO, offO, none⟩) oc ?a2 (JL.out _ HBE.out) ?a3 HBE.out.size w4 HBE.out ?_; (case a1 => rfl); (case a2 => rfl); (case a3 => (have := HQ1.out; have := HQ2.out; omega)); intro A5 c5 w5 own5 b5; have v3 := ZC.out _ b5; have HB5 := Lib.hid b5; clear b5) | (refine step_append_wanted (by rfl) _ _ rfl w4.heap.size (.slice A5 i' c5) i' (k - (i' + 1)) (nn - 1) (xs.take i') (xs.drop (i' + 1)) (xs.eraseIdx i') HQ1.out HER.out ?a1 own5 q (oc - (i' + 1)) ?a2 (JH.out _ HB5.out) HQ2.out HB5.out.size w4 HB5.out ?_; (case a1 => rfl); (case a2 => rfl); intro A6 c6 w6 own6 b6; have v4 := ZC.out _ b6; have HB6 := Lib.hid b6; clear b6; have I6 := (show IntsAt w6 A6 (nn - 1) (xs.eraseIdx i') from (by (obtain ⟨_, _, e6, i6⟩ := own_ints own6 HQ2.out HWF.out; cases e6; exact i6))); have P6 := P4.step HB6.out) | (go_at_call 25; refine (ref_sis ((nn : Int) - 1) A2 k2 c2 us A6 (nn - 1) c6 (xs.eraseIdx i') _ P6 I6 HPE.out hc).mono ?_; rintro e w7 ⟨rfl, hb7⟩; rw [hh]; have b7 := HB6.out.trans (hb7.mono HB6.out.size); have v5 := ZC.out _ b7; have HB7 := Lib.hid b7; clear b7 hb7)); go_wp2; go_meet; (case rel => exact ⟨below_step hB4 HB7.out, P1.step HB7.out, P2.step HB7.out, I1.step HB7.out, X1.step HB7.out, X2.step HB7.out⟩))
      · have HS := Lib.hid (fun W (J1 : PiecesAt W A n ps) => spec_bad (HFX W J1) h0)
        obtain ⟨er, her⟩ : ∃ er, gd.1 = er := ⟨_, rfl⟩
        rw [her] at HS h0
        have r1 : (er == 0) = false := by simpa using h0
        have r2 : (er != 0) = true := by simpa using h0
        clear h0 her HFX HFH hi
        have bd : Below wc.heap.size wc wc.drew := (Below.refl _ _).drew
        have bz : Below wc.heap.size wc (wc.alloc (.cells #[.int .i64 0, .slice none 0 0] 24)).drew := (below_alloc wc (.cells #[.int .i64 0, .slice none 0 0] 24)).drew
        have Z8 := SetBox.new wc 0 none 0 0
        have XC := Lib.hid (fun W (hx : Below wc.heap.size wc W) => (show W.cell? ⟨w.heap.size, 0, none⟩ = some (.int .i64 (nn : Int)) ∧ W.cell? ⟨w.heap.size, 1, none⟩ = some (.slice A n c) ∧ W.cell? ⟨bO, offO + i', none⟩ = some (.int .i64 v0) from ⟨(X1.step hx).c0, (X1.step hx).c1, (hx.cell (p := ⟨bO, offO + i', none⟩) hbO).trans xc⟩))
        have d3 := XC.out _ bd
        have f3 := XC.out _ bz
        have HBD := Lib.hid bd
        have HBZ := Lib.hid bz
        have HB := Lib.hid hB
        clear bd bz hB
        have HP := Lib.hid P1
        go_wp2
        go_region_held3 (fun W => W.cell? ⟨w.heap.size, 0, none⟩ = some (.int .i64 (nn : Int)) ∧ W.cell? ⟨w.heap.size, 1, none⟩ = some (.slice A n c) ∧ W.cell? ⟨bO, offO + i', none⟩ = some (.int .i64 v0)) (first | with_reducible exact d3 | with_reducible exact f3 | with_reducible exact z3 | with_reducible exact y3 | with_reducible exact u3 | go_keep)
          (first
            | (go_at_call 22; (with_reducible show Calls _ _ _ wc.drew _); refine (HS.out wc.drew (HP.out.step HBD.out)).mono ?_; rintro e w2 ⟨A2, k2, c2, rfl, hb⟩; have hx := HBD.out.trans hb; have z3 := XC.out _ hx; have y3 := XC.out _ (below_step hx (below_alloc w2 (.cells #[.int .i64 0, .slice none 0 0] 24))); have u3 := XC.out _ (below_step hx (below_alloc w2 (.cells #[.int .i64 0, .slice A2 k2 c2] 24))))
            | (go_at_call 22; (with_reducible show Calls _ _ _ (World.drew (World.alloc wc _)) _); refine (HS.out _ (HP.out.step HBZ.out)).mono ?_; rintro e w2 ⟨A2, k2, c2, rfl, hb⟩; have hx := below_step HBZ.out hb; have z3 := XC.out _ hx; have y3 := XC.out _ (hx.trans (below_put (w := w2) (N := wc.heap.size) (b := wc.heap.size) (Nat.le_refl _) (.int .i64 0) (.slice A2 k2 c2))); have Z2 := ((show SetBox (wc.alloc (.cells #[.int .i64 0, .slice none 0 0] 24)).drew wc.heap.size 0 none 0 0 from Z8).step hb); have f0 := Z2.f 0; have f1 := Z2.f 1; have q0 := Z2.c0; have q1 := Z2.c1))
        · rename_i hHeld
          clear hHeld
          have E4 := below_step hx (below_alloc w2 (.cells #[.int .i64 0, .slice A2 k2 c2] 24))
          clear u3 Z8
          (have hB4 := below_step HB.out E4; replace P1 := P1.step E4; replace P2 := P2.step E4; replace I1 := I1.step E4; replace X1 := X1.step E4; replace X2 := X2.step E4; clear E4 XC HBD HBZ d3 f3 z3 y3 hx hb HB HP xc hcO)
          generalize w2.alloc (.cells #[.int .i64 0, .slice A2 k2 c2] 24) = w4 at *
          generalize w2.heap.size = b4 at *
          as_aux_lemma => (go_upto_region 21 with fail; clear HU HUH HM HMH HX HXH HN HNH HS; go_quiet (fail); (have bd := (below_of_drewN nq : Below w4.heap.size w4 (w4.drewN nq))); (have hFin := (show GoodS w (w4.drewN nq) nn A n c ps A' n' c' ps' (some ⟨bO, offO, none⟩) k oc xs from ⟨below_step hB4 bd, P1.step bd, P2.step bd, I1.step bd, X1.step bd, X2.step bd⟩)); generalize w4.drewN nq = w5 at hFin ⊢; clear bd hB4 P1 P2 I1 X1 X2 r1 r2 e1 e2; (repeat go_step); go_meet; (case rel => exact hFin))
        · rename_i hHeld
          clear hHeld
          have E4 := hx.trans (below_put (w := w2) (N := wc.heap.size) (b := wc.heap.size) (Nat.le_refl _) (.int .i64 0) (.slice A2 k2 c2))
          clear Z8 Z2 f0 f1 q0 q1
          (have hB4 := below_step HB.out E4; replace P1 := P1.step E4; replace P2 := P2.step E4; replace I1 := I1.step E4; replace X1 := X1.step E4; replace X2 := X2.step E4; clear E4 XC HBD HBZ d3 f3 z3 y3 hx hb HB HP xc hcO)
          generalize (w2.setCell ⟨wc.heap.size, 0, none⟩ (.int .i64 0)).setCell ⟨wc.heap.size, 1, none⟩ (.slice A2 k2 c2) = w4 at *
          generalize wc.heap.size = b4 at *
          as_aux_lemma => (go_upto_region 21 with fail; clear HU HUH HM HMH HX HXH HN HNH HS; go_quiet (fail); (have bd := (below_of_drewN nq : Below w4.heap.size w4 (w4.drewN nq))); (have hFin := (show GoodS w (w4.drewN nq) nn A n c ps A' n' c' ps' (some ⟨bO, offO, none⟩) k oc xs from ⟨below_step hB4 bd, P1.step bd, P2.step bd, I1.step bd, X1.step bd, X2.step bd⟩)); generalize w4.drewN nq = w5 at hFin ⊢; clear bd hB4 P1 P2 I1 X1 X2 r1 r2 e1 e2; (repeat go_step); go_meet; (case rel => exact hFin))
    · by_cases h0 : 0 ≤ i
      · have h1 : ¬ i < (k : Int) := fun h => hi ⟨h0, h⟩
        go_wp2
        go_meet
        case rel => exact ⟨hB, P1, P2, I1, X1, X2⟩
      · go_wp2
        go_meet
        case rel => exact ⟨hB, P1, P2, I1, X1, X2⟩
    )
  rename_i hrest
  obtain ⟨hB, P1, P2, I1, X1, X2⟩ := hcut
  refine hrest _ _ ?_
  clear hrest
  go_step
  go_cut [] from 15 (fun W => GoodS w W nn A n c ps A' n' c' ps' O k oc xs)
  case first =>
    as_aux_lemma => (
    have x0 := X1.c0
    have x1 := X1.c1
    have y0 := X2.c0
    have y1 := X2.c1
    by_cases h0 : (fixE (nn : Int) ps i v).1 = 0
    · obtain ⟨⟨hi1, hi2⟩, hcv⟩ : (0 ≤ i ∧ i < (nn : Int)) ∧ coordB v = true := by
        unfold fixE at h0
        rw [if_neg (by rw [HH.out.2.1]; simp)] at h0
        split at h0
        · cases h0
        · rename_i h
          exact ⟨⟨by omega, by omega⟩, by cases hc : coordB v with | true => rfl | false => exact absurd (Or.inr (Or.inr hc)) h⟩
      obtain ⟨i', rfl⟩ : ∃ m : Nat, i = m := ⟨i.toNat, by omega⟩
      have hin : i' < nn := by omega
      have hik : i' < k := by (have := HKN.out; omega)
      have hxi : i' < xs.length := by (have := HH.out.2.2.1; omega)
      obtain ⟨bO, offO, rfl, hbO, hcO⟩ := I1.cells (by omega)
      clear hbO hcO
      have hnd : ((nn : Int) - 1).toNat = nn - 1 := by omega
      have hfe : fixE (nn : Int) ps (i' : Int) v = gatherD (nn - 1) ((ps.map PEl.dat).map fun d => d.map (chgD (fixL i' v))) := by
        unfold fixE
        rw [if_neg (by rw [HH.out.2.1]; simp), if_neg (by rw [hcv]; simp; omega), hnd]
        rfl
      rw [hfe] at h0
      have hpe : pointB (xs.eraseIdx i') = true := List.all_eq_true.2 fun y hy => List.all_eq_true.1 HPT.out y (List.mem_of_mem_eraseIdx hy)
      have hps : pointB (xs.set i' v) = true := List.all_eq_true.2 fun y hy => by
        rcases List.mem_or_eq_of_mem_set hy with h | h
        · exact List.all_eq_true.1 HPT.out y h
        · rw [h]; exact hcv
      have HPE := Lib.hid hpe
      have HPS := Lib.hid hps
      obtain ⟨sv, hsv⟩ : ∃ sv, hasS (xs.set i' v) ps = sv := ⟨_, rfl⟩
      have HSV := Lib.hid hsv
      have HFX := fun W (J1 : PiecesAt W A n ps) => (show Calls Tryz.prog 22 #[setV nn A n c, .int .i64 (i' : Int), .int .i64 v] W fun e w' => GatherRet (nn - 1) W e w' ((nn : Int) - 1) (gatherD (nn - 1) ((ps.map PEl.dat).map fun d => d.map (chgD (fixL i' v)))) from by rw [← hfe, ← hnd]; exact set_fix nn A n c ps i' v W J1 HCC.out)
      have HFH := fun (us : List PEl) (hlu : ∀ p ∈ us, ∀ e ∈ p.els, e.xs.length = e.n) (hd : gatherD (nn - 1) ((ps.map PEl.dat).map fun d => d.map (chgD (fixL i' v))) = (0, us.map PEl.dat)) => (show GoodU (nn - 1) (us.map PEl.dat) ∧ hasS (xs.eraseIdx i') us = sv from by
        obtain ⟨g1, _, _, g2⟩ := fix_has HH.out.2.2.2.1 HH.out.2.2.1 HPT.out hin hcv HH.out.1 hlu HH.out.2.1 hd
        exact ⟨g1, by rw [g2, hsv]⟩)
      obtain ⟨gd, hgd⟩ : ∃ gd, gatherD (nn - 1) ((ps.map PEl.dat).map fun d => d.map (chgD (fixL i' v))) = gd := ⟨_, rfl⟩
      rw [hgd] at HFX HFH h0
      have HCP := Lib.hid (show ∀ p ∈ ps, condsE k p.els = 0 from fun p hp => by rw [HKN.out]; exact ((valid_elim HH.out.2.1).2 p hp).2)
      have HS := Lib.hid (fun W (J1 : PiecesAt W A n ps) => spec_ok2 (HFX W J1) h0 (fun us hlu hd => HFH us hlu (by rw [hd])))
      clear hgd hfe hcv hpe hps hnd hsv h0 HFX HFH hi1 hi2 HU HUH HM HMH HX HXH HN HNH
      have e1 : (0 : Int) ≤ (i' : Int) := by omega
      have e2 : (i' : Int) < k := by omega
      go_upto_region 25 with (go_at_call 22; refine (HS.out _ P1).mono ?_; rintro e w2 ⟨A2, k2, c2, us, rfl, P3, hok, hA, hb, hh, hc⟩; have b9 := below_alloc w2 (.cells #[.int .i64 ((nn : Int) - 1), .slice A2 k2 c2] 24); have E4 := below_step hb b9; replace hB := below_step hB E4; replace P1 := P1.step E4; replace P2 := P2.step E4; replace I1 := I1.step E4; replace X1 := X1.step E4; replace X2 := X2.step E4; have P4 := P3.step b9; have Z4 := SetBox.new w2 ((nn : Int) - 1) A2 k2 c2; clear x0 x1 y0 y1; have x0 := X1.c0; have x1 := X1.c1; have y0 := X2.c0; have y1 := X2.c1; have z0 := Z4.c0; have z1 := Z4.c1; clear hok hA P3 b9 E4 hb)
      generalize w2.alloc (.cells #[.int .i64 ((nn : Int) - 1), .slice A2 k2 c2] 24) = w4 at *
      generalize w2.heap.size = b4 at *
      have HBE := Lib.hid (below_alloc w4 (.cells #[] 3))
      have own0 := (show (w4.alloc (.cells #[] 3)).ownsRow w4.heap.size 3 1 (.slice (some ⟨w4.heap.size, 0, none⟩) 0 0) 0 (vals []) from World.ownsRow_lit w4 #[] 0 (Nat.le_refl _) (Nat.zero_le _) rfl)
      have HSM := Lib.hid (show 0 + k ≤ 17592186044416 from (by (have := HOO.out.1.2.1; have := HOO.out.1.2.2; omega)))
      have HK0 := Lib.hid (show 0 < k from (by omega))
      have HIK1 := Lib.hid (show i' < k * 1 from (by omega))
      have HXV := Lib.hid (show (vals xs)[i']? = some (.int .i64 (xs[i']?.getD 0)) from (by simp [vals, List.getElem?_eq_getElem hxi]))
      go_upto_region 27 with (at_builtin; refine wpList_append_ints rfl _ _ rfl w4.heap.size (.slice (some ⟨w4.heap.size, 0, none⟩) 0 0) 0 (vals []) rfl own0 (some ⟨bO, offO, none⟩) k oc xs rfl (I1.step HBE.out) HSM.out HBE.out.size ?_; intro A5 cY w5 own5 gr5; have b5 := HBE.out.grown gr5 HBE.out.size (fun k hk => (own0.lt k hk).1); rw [Nat.zero_add] at own5 ⊢; obtain ⟨g, cap, hg, hg1, hg2⟩ := own5.form HK0.out; cases hg; have OY := (show w5.ownsRow w4.heap.size 3 1 (.slice (some ⟨g, 0, none⟩) k cY) k (vals xs) from own5); have k5 := (OY.cellAt i' HIK1.out).trans HXV.out; have f5 := OY.frozenAt i'; clear own5 gr5)
      obtain ⟨own6, _⟩ := OY.stored i' (.int .i64 v)
      have hwf : ∀ x ∈ xs.set i' v, -9223372036854775808 ≤ x ∧ x ≤ 9223372036854775807 := fun x hx => by
        have h1 := coordB_true.1 (List.all_eq_true.1 HPS.out x hx)
        omega
      have IY := (show IntsAt (w5.setCell ⟨g, i', none⟩ (.int .i64 v)) (some ⟨g, 0, none⟩) k (xs.set i' v) from by
        have h9 := own6
        rw [show (vals xs).set i' (.int .i64 v) = vals (xs.set i' v) from by simp [vals, List.map_set]] at h9
        obtain ⟨_, _, e6, i6⟩ := own_ints h9 (by (have := HSM.out; omega)) hwf
        cases e6
        exact i6)
      have E6 : Below w4.heap.size w4 (w5.setCell ⟨g, i', none⟩ (.int .i64 v)) := b5.setCell (p := ⟨g, i', none⟩) hg1 _
      replace hB := below_step hB E6
      replace P1 := P1.step E6
      replace P2 := P2.step E6
      replace I1 := I1.step E6
      replace X1 := X1.step E6
      replace X2 := X2.step E6
      replace P4 := P4.step E6
      replace Z4 := Z4.step E6
      clear E6 own6 hwf b5 k5 f5 OY own0 HBE hg1 hg2 x0 x1 y0 y1 z0 z1 HXV HSM HS
      generalize w5.setCell ⟨g, i', none⟩ (.int .i64 v) = w4 at *
      have T2 : True := trivial
      have T3 : True := trivial
      (have n1 : (i' : Int) ≤ k := by omega); (have n2 : (i' : Int) ≤ oc := by (have := HOO.out.1.2.1; omega)); (have n3 : IntKind.i64.wrap ((i' : Int) + 1) = (i' : Int) + 1 := IntWalk.i64_in _ (by (have := HOO.out.1.2.1; have := HOO.out.1.2.2; omega))); (have n4 : (0 : Int) ≤ (i' : Int) + 1 := by omega); (have n5 : ((i' : Int) + 1).toNat = i' + 1 := by omega); (have n6 : (i' : Int) + 1 ≤ k := by omega); (have n7 : (i' : Int) + 1 ≤ oc := by (have := HOO.out.1.2.1; omega)); (have n8 : (k : Int) ≤ oc := by (have := HOO.out.1.2.1; omega))
      (obtain ⟨q, hq⟩ : ∃ q, (if oc = i' + 1 then some (⟨bO, offO, none⟩ : Addr) else some ⟨bO, offO + (i' + 1), none⟩) = q := ⟨_, rfl⟩); (have JL := Lib.hid (fun W (hx : Below w4.heap.size w4 W) => (show IntsAt W (some ⟨bO, offO, none⟩) i' (xs.take i') from by simpa using sub_ints (d := 0) (k := i') (I1.step hx) (by omega)))); (have JH := Lib.hid (fun W (hx : Below w4.heap.size w4 W) => (show IntsAt W q (k - (i' + 1)) (xs.drop (i' + 1)) from cut_high HOO.out.1.2.1 hik (I1.step hx) hq))); (have HER := Lib.hid (show xs.take i' ++ xs.drop (i' + 1) = xs.eraseIdx i' from (List.eraseIdx_eq_take_drop_succ _ _).symm)); (have HQ1 := Lib.hid (show i' + (k - (i' + 1)) = nn - 1 from (by (have := HKN.out; omega)))); (have HQ2 := Lib.hid (show nn - 1 ≤ 17592186044416 from (by (have := HH.out.2.2.2.1; omega)))); (have HWF := Lib.hid (show ∀ x ∈ xs.eraseIdx i', -9223372036854775808 ≤ x ∧ x ≤ 9223372036854775807 from fun x hx => I1.wf x (List.mem_of_mem_eraseIdx hx)))
      have ZC := Lib.hid (fun W (hx : Below w4.heap.size w4 W) => And.intro (Z4.step hx).c0 (And.intro (Z4.step hx).c1 (And.intro (X1.step hx).c0 (X1.step hx).c1)))
      have bd := (Below.refl w4.heap.size w4).drew
      have be := (show Below w4.heap.size w4 (w4.alloc (.cells #[] 3)).drew from (below_alloc w4 (.cells #[] 3)).drew)
      have HBE := Lib.hid be
      have s3 := ZC.out _ bd
      have t3 := ZC.out _ be
      have own0 := (show (w4.alloc (.cells #[] 3)).drew.ownsRow w4.heap.size 3 1 (.slice (some ⟨w4.heap.size, 0, none⟩) 0 0) 0 (vals []) from World.ownsRow_lit w4 #[] 0 (Nat.le_refl _) (Nat.zero_le _) rfl)
      clear bd be
      go_region_held3 (fun W => W.cell? ⟨b4, 0, none⟩ = some (.int .i64 ((nn : Int) - 1)) ∧ W.cell? ⟨b4, 1, none⟩ = some (.slice A2 k2 c2) ∧ W.cell? ⟨w.heap.size, 0, none⟩ = some (.int .i64 (nn : Int)) ∧ W.cell? ⟨w.heap.size, 1, none⟩ = some (.slice A n c)) (first | with_reducible exact s3 | with_reducible exact t3 | with_reducible exact v3 | with_reducible exact v4 | with_reducible exact v5 | with_reducible exact v6 | go_keep) (first | (have t3 := T3; clear T3 t3; go_at_call 25; refine (ref_sis ((nn : Int) - 1) A2 k2 c2 us A6 (nn - 1) c6 (xs.eraseIdx i') _ P6 I6 HPE.out hc).mono ?_; rintro e w7 ⟨rfl, hb7⟩; rw [hh]; have b7 := HB6.out.trans (hb7.mono HB6.out.size); have v5 := ZC.out _ b7; have HB7 := Lib.hid b7; clear b7 hb7) | (go_at_call 25; refine (ref_sis (nn : Int) A n c ps (some ⟨g, 0, none⟩) k cY (xs.set i' v) _ (P1.step HB7.out) (IY.step HB7.out) HPS.out HCP.out).mono ?_; rintro e w8 ⟨rfl, hb8⟩; rw [HSV.out]; have b8 := HB7.out.trans (hb8.mono HB7.out.size); have v6 := ZC.out _ b8; have HB8 := Lib.hid b8; clear b8 hb8) | (have t2 := T2; clear T2 t2; refine step_append_wanted (by rfl) _ _ rfl w4.heap.size (.slice (some ⟨w4.heap.size, 0, none⟩) 0 0) 0 i' i' [] (xs.take i') (xs.take i') (Nat.zero_add _) rfl ?a1 own0 (some ⟨bO, offO, none⟩) oc ?a2 (JL.out _ HBE.out) ?a3 HBE.out.size w4 HBE.out ?_; (case a1 => rfl); (case a2 => rfl); (case a3 => (have := HQ1.out; have := HQ2.out; omega)); intro A5 c5 w5 own5 b5; have v3 := ZC.out _ b5; have HB5 := Lib.hid b5; clear b5) | (refine step_append_wanted (by rfl) _ _ rfl w4.heap.size (.slice A5 i' c5) i' (k - (i' + 1)) (nn - 1) (xs.take i') (xs.drop (i' + 1)) (xs.eraseIdx i') HQ1.out HER.out ?a1 own5 q (oc - (i' + 1)) ?a2 (JH.out _ HB5.out) HQ2.out HB5.out.size w4 HB5.out ?_; (case a1 => rfl); (case a2 => rfl); intro A6 c6 w6 own6 b6; have v4 := ZC.out _ b6; have HB6 := Lib.hid b6; clear b6; have I6 := (show IntsAt w6 A6 (nn - 1) (xs.eraseIdx i') from (by (obtain ⟨_, _, e6, i6⟩ := own_ints own6 HQ2.out HWF.out; cases e6; exact i6))); have P6 := P4.step HB6.out))
      go_wp2
      go_meet
      case rel => exact ⟨below_step hB HB8.out, P1.step HB8.out, P2.step HB8.out, I1.step HB8.out, X1.step HB8.out, X2.step HB8.out⟩
    · have HS := Lib.hid (fun W (J1 : PiecesAt W A n ps) => spec_bad (set_fix (nn : Int) A n c ps i v W J1 HCC.out) h0)
      obtain ⟨er, her⟩ : ∃ er, (fixE (nn : Int) ps i v).1 = er := ⟨_, rfl⟩
      rw [her] at HS h0
      have q1 : (er == 0) = false := by simpa using h0
      have q2 : (er != 0) = true := by simpa using h0
      clear h0 her
      go_wp2_with (go_at_call 22; refine (HS.out _ P1).mono ?_; rintro e w2 ⟨A2, k2, c2, rfl, hb⟩; have b9 := below_alloc w2 (.cells #[.int .i64 0, .slice A2 k2 c2] 24); have hx := below_step hb b9; replace hB := below_step hB hx; replace P1 := P1.step hx; replace P2 := P2.step hx; replace I1 := I1.step hx; replace X1 := X1.step hx; replace X2 := X2.step hx; clear hb b9 hx)
      go_meet
      case rel => exact ⟨hB, P1, P2, I1, X1, X2⟩
    )
  rename_i hrest
  obtain ⟨hB, P1, P2, I1, X1, X2⟩ := hcut
  refine hrest _ _ ?_
  clear hrest
  go_wp2_with (go_at_call 10; refine (awake4 _).mono ?_; rintro e w9 ⟨rfl, hb⟩; replace hB := below_step hB hb)
  go_ret
  exact ⟨rfl, hB⟩
end Go.Proofs.YtkgnlloioaobiaaGreat.setPoints
