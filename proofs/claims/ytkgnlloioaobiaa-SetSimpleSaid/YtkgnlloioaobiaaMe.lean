/-
  Part 5 of the texts that the laws stand on, merged: what each part says stands at its own head.
-/
import Derived.Test.YtkgnlloioaobiaaProg
import Derived.Deep.RegionHeld3
import Derived.Deep.LoopGhost
import Derived.Test.YtkgnlloioaobiaaMd

/-
  set.Minus.
-/
namespace Go.Proofs.Ytkgnlloioaobiaa
open Go.RowKit Go.Shelf
set_option linter.unusedVariables false
set_option linter.unusedSimpArgs false
set_option maxRecDepth 100000

theorem gather_ok {n : Nat} {w w' : World} {e : Ending} {D : Int} {l : List (List CD)} (h : GatherRet n w e w' D (0, l)) :
    ∃ A k c ps, e = .returned (.tuple #[setV D A k c, .int .i64 0]) ∧ PiecesAt w' A k ps ∧ (∀ p ∈ ps, PieceOk n w' p) ∧ ps.map PEl.dat = l ∧ (0 < k → ∃ g o, A = some ⟨g, o, none⟩ ∧ w.heap.size ≤ g) ∧ Below w.heap.size w w' := h
theorem gather_bad {n : Nat} {w w' : World} {e : Ending} {D : Int} {l : List (List CD)} {er : Int} (h0 : er ≠ 0) (h : GatherRet n w e w' D (er, l)) :
    ∃ A k c, e = .returned (.tuple #[setV 0 A k c, .int .i64 er]) ∧ Below w.heap.size w w' := by
  obtain ⟨A, k, c, ps, he, _, _, _, _, hb⟩ := h
  have h0 : ((er, l).1 ≠ 0) := h0
  rw [if_pos h0] at he
  exact ⟨A, k, c, he, hb⟩
theorem pieceV_of {n : Nat} {w : World} {ps : List PEl} {l : List (List CD)} (hok : ∀ p ∈ ps, PieceOk n w p) (hd : ps.map PEl.dat = l) (hg : GoodU n l) : (∀ p ∈ ps, PieceV n w p) ∧ ps.length ≤ 400 := by
  subst hd
  refine ⟨fun p hp => ⟨hok p hp, ?_⟩, by have := hg.2; rwa [List.length_map] at this⟩
  obtain ⟨h1, h2⟩ := hg.1 p.dat (List.mem_map.2 ⟨p, hp, rfl⟩)
  exact ⟨h1, by rwa [PEl.dat, List.length_map] at h2⟩
theorem valid_kinds {D : Int} {w : World} {A : Option Addr} {k : Nat} {ps : List PEl} (hP : PiecesAt w A k ps) (hv : validS D ps = true) : ∀ ds ∈ ps.map PEl.dat, KindsOk D.toNat ds := fun ds hds d hd => by
  obtain ⟨p, hp, rfl⟩ := List.mem_map.1 hds
  obtain ⟨e, he, rfl⟩ := List.mem_map.1 hd
  have h1 := ((valid_parts hv).2 p hp).1 e he
  have hl := ((hP.conds p hp).ints e he).len
  exact ⟨h1.2.1, by have := h1.1; show e.xs.length = _; omega⟩
theorem minus_val {n : Nat} {ps qs l1 l2 : List (List CD)} (h1 : gatherD n ps = (0, l1)) (h2 : gatherD n qs = (0, l2)) : minusD n ps qs = foldE (withoutD n) l2 l1 := by
  unfold minusD
  rw [h1, h2]
  rw [if_neg (show ¬ ((0 : Int) ≠ 0) by decide), if_neg (show ¬ ((0 : Int) ≠ 0) by decide)]
theorem minus_e1 {n : Nat} {ps qs l1 : List (List CD)} {er : Int} (h1 : gatherD n ps = (er, l1)) (h0 : er ≠ 0) : (minusD n ps qs).1 = er := by
  unfold minusD
  rw [h1, if_pos h0]
theorem minus_e2 {n : Nat} {ps qs l1 l2 : List (List CD)} {er : Int} (h1 : gatherD n ps = (0, l1)) (h2 : gatherD n qs = (er, l2)) (h0 : er ≠ 0) : (minusD n ps qs).1 = er := by
  unfold minusD
  rw [h1, h2, if_neg (show ¬ ((0 : Int) ≠ 0) by decide), if_pos h0]
theorem put_far {w : World} {b k : Nat} {D : Int} {A : Option Addr} {n c : Nat} (h : SetBox w k D A n c) (hk : k ≠ b) (x y : Value) : SetBox ((w.setCell ⟨b, 0, none⟩ x).setCell ⟨b, 1, none⟩ y) k D A n c := (put_other hk x y).trans h


set_option maxHeartbeats 4000000 in
theorem set_minus_bad (D : Int) (A : Option Addr) (n c : Nat) (ps : List PEl) (D' : Int) (A' : Option Addr) (n' c' : Nat) (ps' : List PEl) (w : World) (h : PiecesAt w A n ps) (h' : PiecesAt w A' n' ps') (hbe : bothE D ps D' ps' ≠ 0) :
    Calls Try.prog 28 #[setV D A n c, setV D' A' n' c'] w fun e w' => e = .returned (.tuple #[setV 0 none 0 0, .int .i64 (bothE D ps D' ps')]) ∧ Below w.heap.size w w' := by
  obtain ⟨er, her⟩ : ∃ er, bothE D ps D' ps' = er := ⟨_, rfl⟩
  rw [her] at hbe ⊢
  have HE := Lib.hid her
  have B1 := below_step (below_step (below_alloc w (.cells #[.int .i64 D, .slice A n c] 24)) (below_alloc _ (.cells #[.int .i64 D', .slice A' n' c'] 24))) (below_alloc _ (.cells #[.int .i64 0, .slice none 0 0] 24))
  have X1 := ((SetBox.new w D A n c).alloc (.cells #[.int .i64 D', .slice A' n' c'] 24)).alloc (.cells #[.int .i64 0, .slice none 0 0] 24)
  have X2 := (SetBox.new (w.alloc (.cells #[.int .i64 D, .slice A n c] 24)) D' A' n' c').alloc (.cells #[.int .i64 0, .slice none 0 0] 24)
  have X3 : SetBox (((w.alloc (.cells #[.int .i64 D, .slice A n c] 24)).alloc (.cells #[.int .i64 D', .slice A' n' c'] 24)).alloc (.cells #[.int .i64 0, .slice none 0 0] 24)) (w.heap.size + 2) 0 none 0 0 := by
    have := SetBox.new ((w.alloc (.cells #[.int .i64 D, .slice A n c] 24)).alloc (.cells #[.int .i64 D', .slice A' n' c'] 24)) 0 none 0 0
    rw [World.size_alloc, World.size_alloc] at this
    exact this
  rw [World.size_alloc] at X2
  have P1 := h.step B1
  have P2 := h'.step B1
  have c0 := X1.c0
  have c1 := X1.c1
  have d0 := X2.c0
  have d1 := X2.c1
  have h0' : (er != 0) = true := by simpa using hbe
  have h0'' : (er == 0) = false := by simpa using hbe
  clear her h h' hbe
  go_enter Try.func28, Try.ntmps28
  go_wp2_with (go_at_call 52; refine (set_both D A n c ps D' A' n' c' ps' _ P1 P2).mono ?_; rintro e w4 ⟨rfl, hb⟩; rw [HE.out]; replace B1 := below_step B1 hb; have X4 := X3.step hb; have z0 := X4.c0; have z1 := X4.c1; have f0 := X4.f 0; have f1 := X4.f 1)
  have X5 := X4.put 0 none 0 0
  have hb8 := below_put (w := w4) (N := w.heap.size) (b := w.heap.size + 2) (by omega) (.int .i64 0) (.slice none 0 0)
  generalize (w4.setCell ⟨w.heap.size + 2, 0, none⟩ (.int .i64 0)).setCell ⟨w.heap.size + 2, 1, none⟩ (.slice none 0 0) = w5 at *
  have y0 := X5.c0
  have y1 := X5.c1
  try rw [Exit.noGoto_ret]
  refine bodyPost_ret (v := .tuple #[setV 0 none 0 0, .int .i64 er]) (by simp [results, Try.results28, go_sem, y0, y1]) rfl ?_
  exact ⟨rfl, B1.trans hb8⟩


set_option maxHeartbeats 8000000 in
theorem set_minus (D : Int) (A : Option Addr) (n c : Nat) (ps : List PEl) (A' : Option Addr) (n' c' : Nat) (ps' : List PEl) (w : World) (h : PiecesAt w A n ps) (h' : PiecesAt w A' n' ps') (hv1 : validS D ps = true) (hv2 : validS D ps' = true) :
    Calls Try.prog 28 #[setV D A n c, setV D A' n' c'] w fun e w' => GatherRet D.toNat w e w' D (minusD D.toNat (ps.map PEl.dat) (ps'.map PEl.dat)) := by
  have HE := Lib.hid (show bothE D ps D ps' = 0 by unfold bothE; rw [if_pos ⟨hv1, hv2⟩, if_pos rfl])
  obtain ⟨md, hmd⟩ : ∃ md, minusD D.toNat (ps.map PEl.dat) (ps'.map PEl.dat) = md := ⟨_, rfl⟩
  rw [hmd]
  have hD : D.toNat ≤ 12 := by have := (valid_parts hv1).1; omega
  have HD := Lib.hid hD
  have HN1 := Lib.hid (fun W (P : PiecesAt W A n ps) => set_normal D A n c ps W P hv1)
  have HN2 := Lib.hid (fun W (P : PiecesAt W A' n' ps') => set_normal D A' n' c' ps' W P hv2)
  have HGU1 := Lib.hid (gather_good (valid_kinds h hv1))
  have HGU2 := Lib.hid (gather_good (valid_kinds h' hv2))
  obtain ⟨g1, hg1⟩ : ∃ g, gatherD D.toNat (ps.map PEl.dat) = g := ⟨_, rfl⟩
  obtain ⟨g2, hg2⟩ : ∃ g, gatherD D.toNat (ps'.map PEl.dat) = g := ⟨_, rfl⟩
  obtain ⟨er1, l1⟩ := g1
  obtain ⟨er2, l2⟩ := g2
  rw [hg1] at HN1 HGU1
  rw [hg2] at HN2 HGU2
  have HM := Lib.hid (And.intro hmd (And.intro hg1 hg2))
  obtain ⟨nn, hnn⟩ : ∃ nn, D.toNat = nn := ⟨_, rfl⟩
  rw [hnn] at HN1 HN2 HGU1 HGU2 HM HD ⊢
  have B1 := below_step (below_step (below_alloc w (.cells #[.int .i64 D, .slice A n c] 24)) (below_alloc _ (.cells #[.int .i64 D, .slice A' n' c'] 24))) (below_alloc _ (.cells #[.int .i64 0, .slice none 0 0] 24))
  have X1 := ((SetBox.new w D A n c).alloc (.cells #[.int .i64 D, .slice A' n' c'] 24)).alloc (.cells #[.int .i64 0, .slice none 0 0] 24)
  have X2 := (SetBox.new (w.alloc (.cells #[.int .i64 D, .slice A n c] 24)) D A' n' c').alloc (.cells #[.int .i64 0, .slice none 0 0] 24)
  have X3 : SetBox (((w.alloc (.cells #[.int .i64 D, .slice A n c] 24)).alloc (.cells #[.int .i64 D, .slice A' n' c'] 24)).alloc (.cells #[.int .i64 0, .slice none 0 0] 24)) (w.heap.size + 2) 0 none 0 0 := by
    have := SetBox.new ((w.alloc (.cells #[.int .i64 D, .slice A n c] 24)).alloc (.cells #[.int .i64 D, .slice A' n' c'] 24)) 0 none 0 0
    rw [World.size_alloc, World.size_alloc] at this
    exact this
  rw [World.size_alloc] at X2
  have P1 := h.step B1
  have P2 := h'.step B1
  have c0 := X1.c0
  have c1 := X1.c1
  have d0 := X2.c0
  have d1 := X2.c1
  have T1 : True := trivial
  clear h h' hv1 hv2 hg1 hg2 hmd hD hnn
  by_cases h1 : er1 = 0
  · subst h1
    by_cases h2 : er2 = 0
    · subst h2
      go_enter Try.func28, Try.ntmps28
      go_wp2_with (first
        | (go_at_call 52; refine (set_both D A n c ps D A' n' c' ps' _ P1 P2).mono ?_; rintro e w1 ⟨rfl, hb⟩; rw [HE.out]; replace B1 := below_step B1 hb; replace X1 := X1.step hb; replace X2 := X2.step hb; replace X3 := X3.step hb; replace P1 := P1.step hb; replace P2 := P2.step hb; clear c0 c1 d0 d1; have c0 := X1.c0; have c1 := X1.c1; have HW1 := Lib.hid (show w.heap.size + 3 ≤ w1.heap.size from X3.lt))
        | (go_at_call 32; have t1 := T1; clear T1 t1; refine (HN1.out _ P1).mono ?_; rintro e w2 hG; obtain ⟨A3, k3, c3, us, rfl, hP3, hok3, hd3, hA3, hb2⟩ := gather_ok hG; have S1 := SetBox.new w2 D A3 k3 c3; have b2 := below_step hb2 (below_alloc w2 (.cells #[.int .i64 D, .slice A3 k3 c3] 24)); replace B1 := below_step B1 b2; replace X2 := X2.step b2; replace X3 := X3.step b2; replace P2 := P2.step b2; clear c0 c1 X1 P1; have d0 := X2.c0; have d1 := X2.c1; have b3 := below_alloc w2 (.cells #[.int .i64 D, .slice A3 k3 c3] 24); have HG3 := Lib.hid (And.intro (hP3.step b3) (And.intro (fun p hp => (hok3 p hp).keep (.of_below b3)) (And.intro hd3 (And.intro hA3 (And.intro (fun h0 => (let ⟨b, off, hA, hlt, _⟩ := hP3.cells h0; ⟨b, off, hA, hlt⟩ : ∃ g o, A3 = some ⟨g, o, none⟩ ∧ g < w2.heap.size)) hb2.size))))); clear hG hP3 hok3 hd3 hA3 hb2 b2 b3)
        | (go_at_call 32; refine (HN2.out _ P2).mono ?_; rintro e w4 hG; obtain ⟨A4, k4, c4, qs, rfl, hP4, hok4, hd4, hA4, hb4⟩ := gather_ok hG; have b4 := below_alloc w4 (.cells #[.int .i64 D, .slice A4 k4 c4] 24); have b5 := below_step hb4 b4; replace B1 := below_step B1 b5; replace S1 := S1.step b5; replace X3 := X3.step b5; clear d0 d1 X2 P2; have HG4 := Lib.hid (And.intro (hP4.step b4) (And.intro (fun p hp => (hok4 p hp).keep (.of_below b4)) (And.intro hd4 hA4))); have HG3b := Lib.hid (And.intro (HG3.out.1.step b5) (fun p hp => (HG3.out.2.1 p hp).keep (.of_below b5))); clear hG hP4 hok4 hd4 hA4 hb4 b4 b5))
      generalize w4.alloc (.cells #[.int .i64 D, .slice A4 k4 c4] 24) = w5 at *
      have HQV := Lib.hid (pieceV_of HG4.out.2.1 HG4.out.2.2.1 HGU2.out)
      have HUV := Lib.hid (pieceV_of HG3b.out.2 HG3.out.2.2.1 HGU1.out)
      have HQ4 := Lib.hid (show 0 < k4 → ∀ g o, A4 = some ⟨g, o, none⟩ → g ≠ w2.heap.size from fun h0 g o hA => by
        obtain ⟨g', o', h1, h2⟩ := HG4.out.2.2.2 h0
        rw [hA] at h1
        cases h1
        rw [World.size_alloc] at h2
        omega)
      have HFR := Lib.hid (show 0 < k3 → ∃ g o, A3 = some ⟨g, o, none⟩ ∧ w.heap.size + 3 ≤ g ∧ g ≠ w2.heap.size from fun h0 => by
        obtain ⟨g, o, h1, h2⟩ := HG3.out.2.2.2.1 h0
        obtain ⟨g', o', h3, h4⟩ := HG3.out.2.2.2.2.1 h0
        rw [h1] at h3
        cases h3
        have := HW1.out
        exact ⟨g, o, h1, by omega, by omega⟩)
      have hw2 := Nat.le_trans HW1.out HG3.out.2.2.2.2.2
      have hk4 : k4 ≤ 400 := by have h5 := HG4.out.1.len; have h6 := HQV.out.2; omega
      have HW2 := Lib.hid hw2
      go_loopg [40] k4 (fun g v wr => ∃ i : Nat, i + g = k4 ∧ v = .int .i64 i ∧ (∃ A5 k5 c5 us5, SetBox wr w2.heap.size D A5 k5 c5 ∧ (PiecesAt wr A5 k5 us5 ∧ (∀ p ∈ us5, PieceV nn wr p)) ∧ (GoodU nn (us5.map PEl.dat) ∧ foldE (withoutD nn) (l2.take i) l1 = (0, us5.map PEl.dat)) ∧ (0 < k5 → ∃ g o, A5 = some ⟨g, o, none⟩ ∧ w.heap.size + 3 ≤ g ∧ g ≠ w2.heap.size)) ∧ SetBox wr (w.heap.size + 2) 0 none 0 0 ∧ (PiecesAt wr A4 k4 qs ∧ ∀ p ∈ qs, PieceV nn wr p) ∧ Below w.heap.size w wr)
      case atStart => exact ⟨0, by omega, rfl, ⟨A3, k3, c3, us, S1, ⟨HG3b.out.1, HUV.out.1⟩, ⟨by rw [HG3.out.2.2.1]; exact HGU1.out, by rw [HG3.out.2.2.1]; rfl⟩, HFR.out⟩, X3, ⟨HG4.out.1, HQV.out.1⟩, B1⟩
      case round =>
        clear S1 X3 B1
        obtain ⟨i, hig, rfl, ⟨A5, k5, c5, us5, S5, ⟨P5, hV5⟩, ⟨hG5, hF5⟩, hA5⟩, X5, ⟨Q5, hW5⟩, hbr⟩ := hrel
        have HV5 := Lib.hid hV5
        have HG5 := Lib.hid hG5
        have HF5 := Lib.hid hF5
        have HA5 := Lib.hid hA5
        have HW5 := Lib.hid hW5
        have hx5 := S5.c0
        have hx6 := S5.c1
        clear hV5 hG5 hF5 hA5 hW5
        cases gk with
        | succ g =>
          have hlt : i < k4 := by omega
          obtain ⟨b1, off1, q, hA, hblt, hqj, hmem, hcell, hCq⟩ := Q5.at hlt
          have HVq := Lib.hid (HW5.out q hmem)
          have HQ9 := Lib.hid (HQ4.out (by omega) b1 off1 hA)
          obtain ⟨r6, hr6⟩ : ∃ r, withoutD nn (us5.map PEl.dat) q.dat = r := ⟨_, rfl⟩
          obtain ⟨er6, l6⟩ := r6
          have HT := Lib.hid ((fold_take (f := withoutD nn) (l := l2) (i := i) (x := q.dat) (by rw [← HG4.out.2.2.1, List.getElem?_map, hqj]; rfl) HF5.out).trans hr6)
          have HGG := Lib.hid (show GoodU nn l6 by
            have := without_good HD.out HG5.out (c := q.dat) ⟨HVq.out.2.1, by rw [PEl.dat, List.length_map]; exact HVq.out.2.2⟩
            rw [hr6] at this
            exact this)
          have HWO := Lib.hid (show Calls Try.prog 53 #[setV D A5 k5 c5, .slice q.A q.n q.c] wr fun e w' => GatherRet nn wr e w' D (er6, l6) by
            rw [← hr6]
            exact set_without HD.out D A5 k5 c5 us5 q.A q.n q.c q.els wr P5 (by have h5 := P5.len; have h6 := HG5.out.2; rw [List.length_map] at h6; omega) HV5.out HVq.out)
          obtain ⟨qA, qn, qc, qels⟩ := q
          simp only at hcell HWO
          have hqq : (i : Int) < k4 := by omega
          subst hA
          clear hqj hmem hCq hr6
          by_cases h0 : er6 = 0
          · subst h0
            go_wp2_with (go_at_call 53; refine HWO.out.mono ?_; rintro e w6 hG; obtain ⟨A6, k6, c6, us6, rfl, hP6, hok6, hd6, hA6, hb6⟩ := gather_ok hG; have S6 := S5.step hb6; have X6 := X5.step hb6; have z0 := S6.c0; have z1 := S6.c1; have f0 := S6.f 0; have f1 := S6.f 1; have HG6 := Lib.hid (And.intro hP6 (And.intro hok6 (And.intro hd6 (And.intro hA6 (And.intro (Q5.step hb6) (And.intro (fun p hp => (HW5.out p hp).step hb6) hb6)))))); clear hG hP6 hok6 hd6 hA6 hb6)
            have hku := S6.keepU (.int .i64 D) (.slice A6 k6 c6)
            have HV6 := Lib.hid (pieceV_of HG6.out.2.1 HG6.out.2.2.1 HGG.out)
            have hl5 := S5.lt
            have HS6 := Lib.hid (show (0 < k6 → ∃ g o, A6 = some ⟨g, o, none⟩ ∧ w.heap.size + 3 ≤ g ∧ g ≠ w2.heap.size) from fun h0 => by
              obtain ⟨g, o, h1, h2⟩ := HG6.out.2.2.2.1 h0
              have := HW2.out
              exact ⟨g, o, h1, by omega, by omega⟩)
            have HRL := Lib.hid (⟨S6.put D A6 k6 c6, ⟨pieces_move HG6.out.1 (fun p hp => ((HV6.out.1 p hp).keep hku).1) hku.size (fun h0 g o hA => by
              obtain ⟨g', o', h1, h2, h3⟩ := HS6.out h0
              rw [hA] at h1
              cases h1
              exact put_other h3 _ _), fun p hp => (HV6.out.1 p hp).keep hku⟩, ⟨by rw [HG6.out.2.2.1]; exact HGG.out, by rw [HG6.out.2.2.1]; exact HT.out⟩, HS6.out⟩ : SetBox _ w2.heap.size D A6 k6 c6 ∧ (PiecesAt _ A6 k6 us6 ∧ ∀ p ∈ us6, PieceV nn _ p) ∧ (GoodU nn (us6.map PEl.dat) ∧ foldE (withoutD nn) (l2.take (i + 1)) l1 = (0, us6.map PEl.dat)) ∧ (0 < k6 → ∃ g o, A6 = some ⟨g, o, none⟩ ∧ w.heap.size + 3 ≤ g ∧ g ≠ w2.heap.size))
            have HX6 := Lib.hid (put_far X6 (b := w2.heap.size) (by have := HW2.out; omega) (.int .i64 D) (.slice A6 k6 c6))
            have HQ6 := Lib.hid (⟨pieces_move HG6.out.2.2.2.2.1 (fun p hp => ((HG6.out.2.2.2.2.2.1 p hp).keep hku).1) hku.size (fun h0 g o hA => put_other (HQ4.out h0 g o hA) _ _), fun p hp => (HG6.out.2.2.2.2.2.1 p hp).keep hku⟩ : PiecesAt _ (some ⟨b1, off1, none⟩) k4 qs ∧ ∀ p ∈ qs, PieceV nn _ p)
            have HBR := Lib.hid ((hbr.trans (HG6.out.2.2.2.2.2.2.mono hbr.size)).trans (below_put (w := w6) (N := w.heap.size) (b := w2.heap.size) (by have := HW2.out; omega) (.int .i64 D) (.slice A6 k6 c6)))
            clear hku
            go_roundg g
            case measure => omega
            case rel => exact ⟨i + 1, by omega, by go_num, ⟨A6, k6, c6, us6, HRL.out⟩, HX6.out, HQ6.out, HBR.out⟩
          · have h0' : (er6 != 0) = true := by simpa using h0
            have h0'' : (er6 == 0) = false := by simpa using h0
            go_wp2_with (go_at_call 53; refine HWO.out.mono ?_; rintro e w6 hG; obtain ⟨A6, k6, c6, rfl, hb6⟩ := gather_bad h0 hG; have S6 := S5.step hb6; have X6 := put_far (X5.step hb6) (b := w2.heap.size) (by have := HW2.out; omega) (.int .i64 0) (.slice A6 k6 c6); have z0 := S6.c0; have z1 := S6.c1; have f0 := S6.f 0; have f1 := S6.f 1; have hb7 := (hbr.trans (hb6.mono hbr.size)).trans (below_put (w := w6) (N := w.heap.size) (b := w2.heap.size) (by have := HW2.out; omega) (.int .i64 0) (.slice A6 k6 c6)); have u0 := X6.c0; have u1 := X6.c1; have v0 := X6.f 0; have v1 := X6.f 1; clear hG)
            generalize (w6.setCell ⟨w2.heap.size, 0, none⟩ (.int .i64 0)).setCell ⟨w2.heap.size, 1, none⟩ (.slice A6 k6 c6) = w4 at *
            have X4 := X6
            have X5 := X4.put 0 none 0 0; have hb8 := below_put (w := w4) (N := w.heap.size) (b := w.heap.size + 2) (by omega) (.int .i64 0) (.slice none 0 0); generalize (w4.setCell ⟨w.heap.size + 2, 0, none⟩ (.int .i64 0)).setCell ⟨w.heap.size + 2, 1, none⟩ (.slice none 0 0) = w5 at *; have y0 := X5.c0; have y1 := X5.c1; try rw [Exit.noGoto_ret]
            refine bodyPost_ret (v := .tuple #[setV 0 none 0 0, .int .i64 er6]) (by simp [results, Try.results28, go_sem, y0, y1]) rfl ?_
            have HR := (show md.1 = er6 by
              rw [← HM.out.1, minus_val HM.out.2.1 HM.out.2.2, fold_fail HT.out h0])
            exact gather_fail HR h0 (hb7.trans hb8)
        | zero =>
          obtain rfl : i = k4 := by omega
          have hge : ¬ ((i : Int) < i) := by omega
          have HR := Lib.hid (show md = (0, us5.map PEl.dat) by
            rw [← HM.out.1, minus_val HM.out.2.1 HM.out.2.2, ← HF5.out, List.take_of_length_le]
            rw [← HG4.out.2.2.1, List.length_map, HG4.out.1.len]
            exact Nat.le_refl _)
          have u0 := X5.c0
          have u1 := X5.c1
          have v0 := X5.f 0
          have v1 := X5.f 1
          go_wp2
          have X7 := X5.put D A5 k5 c5
          have hku := X5.keepU (.int .i64 D) (.slice A5 k5 c5)
          have hP7 := pieces_move P5 (fun p hp => ((HV5.out p hp).keep hku).1) hku.size (fun h0 g o hA => by
            obtain ⟨g', o', h1, h2, h3⟩ := HA5.out h0
            rw [hA] at h1
            cases h1
            exact put_other (by omega) _ _)
          have hok7 := fun p hp => ((HV5.out p hp).keep hku).1
          have hb8 := hbr.trans (below_put (w := wr) (N := w.heap.size) (b := w.heap.size + 2) (by omega) (.int .i64 D) (.slice A5 k5 c5))
          clear hku
          generalize (wr.setCell ⟨w.heap.size + 2, 0, none⟩ (.int .i64 D)).setCell ⟨w.heap.size + 2, 1, none⟩ (.slice A5 k5 c5) = w7 at *
          have y0 := X7.c0
          have y1 := X7.c1
          try rw [Exit.noGoto_ret]
          refine bodyPost_ret (v := .tuple #[setV D A5 k5 c5, .int .i64 0]) (by simp [results, Try.results28, go_sem, y0, y1]) rfl ?_
          rw [HR.out]
          exact ⟨A5, k5, c5, us5, rfl, hP7, hok7, rfl, (fun h => let ⟨g, o, h1, h2, _⟩ := HA5.out h; ⟨g, o, h1, by omega⟩), hb8⟩
    · have h0' : (er2 != 0) = true := by simpa using h2
      have h0'' : (er2 == 0) = false := by simpa using h2
      have HR := Lib.hid (show md.1 = er2 by rw [← HM.out.1]; exact minus_e2 HM.out.2.1 HM.out.2.2 h2)
      go_enter Try.func28, Try.ntmps28
      go_wp2_with (first
        | (go_at_call 52; refine (set_both D A n c ps D A' n' c' ps' _ P1 P2).mono ?_; rintro e w1 ⟨rfl, hb⟩; rw [HE.out]; replace B1 := below_step B1 hb; replace X1 := X1.step hb; replace X2 := X2.step hb; replace X3 := X3.step hb; replace P1 := P1.step hb; replace P2 := P2.step hb; clear c0 c1 d0 d1; have c0 := X1.c0; have c1 := X1.c1; have HW1 := Lib.hid (show w.heap.size + 3 ≤ w1.heap.size from X3.lt))
        | (go_at_call 32; have t1 := T1; clear T1 t1; refine (HN1.out _ P1).mono ?_; rintro e w2 hG; obtain ⟨A3, k3, c3, us, rfl, hP3, hok3, hd3, hA3, hb2⟩ := gather_ok hG; have S1 := SetBox.new w2 D A3 k3 c3; have b2 := below_step hb2 (below_alloc w2 (.cells #[.int .i64 D, .slice A3 k3 c3] 24)); replace B1 := below_step B1 b2; replace X2 := X2.step b2; replace X3 := X3.step b2; replace P2 := P2.step b2; clear c0 c1 X1 P1; have d0 := X2.c0; have d1 := X2.c1; have b3 := below_alloc w2 (.cells #[.int .i64 D, .slice A3 k3 c3] 24); have HG3 := Lib.hid (And.intro (hP3.step b3) (And.intro (fun p hp => (hok3 p hp).keep (.of_below b3)) (And.intro hd3 (And.intro hA3 (And.intro (fun h0 => (let ⟨b, off, hA, hlt, _⟩ := hP3.cells h0; ⟨b, off, hA, hlt⟩ : ∃ g o, A3 = some ⟨g, o, none⟩ ∧ g < w2.heap.size)) hb2.size))))); clear hG hP3 hok3 hd3 hA3 hb2 b2 b3)
        | (go_at_call 32; refine (HN2.out _ P2).mono ?_; rintro e w9 hG; obtain ⟨A4, k4, c4, rfl, hb4⟩ := gather_bad h2 hG; replace B1 := below_step (below_step B1 hb4) (below_alloc w9 (.cells #[.int .i64 0, .slice A4 k4 c4] 24)); have X4 := (X3.step hb4).alloc (.cells #[.int .i64 0, .slice A4 k4 c4] 24); have z0 := X4.c0; have z1 := X4.c1; have f0 := X4.f 0; have f1 := X4.f 1; clear hG; generalize hw4 : w9.alloc (.cells #[.int .i64 0, .slice A4 k4 c4] 24) = w4 at *))
      have X5 := X4.put 0 none 0 0; have hb8 := below_put (w := w4) (N := w.heap.size) (b := w.heap.size + 2) (by omega) (.int .i64 0) (.slice none 0 0); generalize (w4.setCell ⟨w.heap.size + 2, 0, none⟩ (.int .i64 0)).setCell ⟨w.heap.size + 2, 1, none⟩ (.slice none 0 0) = w5 at *; have y0 := X5.c0; have y1 := X5.c1; try rw [Exit.noGoto_ret]
      refine bodyPost_ret (v := .tuple #[setV 0 none 0 0, .int .i64 er2]) (by simp [results, Try.results28, go_sem, y0, y1]) rfl ?_
      exact gather_fail HR.out h2 (B1.trans hb8)
  · have h0' : (er1 != 0) = true := by simpa using h1
    have h0'' : (er1 == 0) = false := by simpa using h1
    have HR := Lib.hid (show md.1 = er1 by rw [← HM.out.1]; exact minus_e1 HM.out.2.1 h1)
    go_enter Try.func28, Try.ntmps28
    go_wp2_with (first
      | (go_at_call 52; refine (set_both D A n c ps D A' n' c' ps' _ P1 P2).mono ?_; rintro e w1 ⟨rfl, hb⟩; rw [HE.out]; replace B1 := below_step B1 hb; replace X1 := X1.step hb; replace X2 := X2.step hb; replace X3 := X3.step hb; replace P1 := P1.step hb; replace P2 := P2.step hb; clear c0 c1 d0 d1; have c0 := X1.c0; have c1 := X1.c1; have HW1 := Lib.hid (show w.heap.size + 3 ≤ w1.heap.size from X3.lt))
      | (go_at_call 32; refine (HN1.out _ P1).mono ?_; rintro e w9 hG; obtain ⟨A4, k4, c4, rfl, hb4⟩ := gather_bad h1 hG; replace B1 := below_step (below_step B1 hb4) (below_alloc w9 (.cells #[.int .i64 0, .slice A4 k4 c4] 24)); have X4 := (X3.step hb4).alloc (.cells #[.int .i64 0, .slice A4 k4 c4] 24); have z0 := X4.c0; have z1 := X4.c1; have f0 := X4.f 0; have f1 := X4.f 1; clear hG; generalize hw4 : w9.alloc (.cells #[.int .i64 0, .slice A4 k4 c4] 24) = w4 at *))
    have X5 := X4.put 0 none 0 0; have hb8 := below_put (w := w4) (N := w.heap.size) (b := w.heap.size + 2) (by omega) (.int .i64 0) (.slice none 0 0); generalize (w4.setCell ⟨w.heap.size + 2, 0, none⟩ (.int .i64 0)).setCell ⟨w.heap.size + 2, 1, none⟩ (.slice none 0 0) = w5 at *; have y0 := X5.c0; have y1 := X5.c1; try rw [Exit.noGoto_ret]
    refine bodyPost_ret (v := .tuple #[setV 0 none 0 0, .int .i64 er1]) (by simp [results, Try.results28, go_sem, y0, y1]) rfl ?_
    exact gather_fail HR.out h1 (B1.trans hb8)
end Go.Proofs.Ytkgnlloioaobiaa

/-
  The reference's Same of conditions.
-/
namespace Go.Proofs.Ytkgnlloioaobiaa
open Go.RowKit
set_option linter.unusedVariables false
set_option linter.unusedSimpArgs false

def sameC (q M : Int) (xs : List Int) (K : Int) (q' M' : Int) (ys : List Int) (K' : Int) : Bool := (q == q') && ((M == M') && sameB xs K ys K')

set_option maxHeartbeats 2000000 in
theorem cond_same (q M : Int) (A : Option Addr) (n c : Nat) (K : Int) (xs : List Int) (q' M' : Int) (A' : Option Addr) (n' c' : Nat) (K' : Int) (ys : List Int) (w : World) (hI : IntsAt w A n xs) (hI' : IntsAt w A' n' ys) :
    Calls Try.prog 51 #[condV q M A n c K, condV q' M' A' n' c' K'] w fun e w' => e = .returned (.bool (sameC q M xs K q' M' ys K')) ∧ Below w.heap.size w w' := by
  have b1 := below_alloc w (.cells #[.int .i64 q, .int .i64 M, .slice A n c, .int .i64 K] 55)
  have hB := below_step b1 (below_alloc _ (.cells #[.int .i64 q', .int .i64 M', .slice A' n' c', .int .i64 K'] 55))
  have h1 := hI.step hB
  have h2 := hI'.step hB
  have B1 := (CBox.new w q M A n c K).alloc (.cells #[.int .i64 q', .int .i64 M', .slice A' n' c', .int .i64 K'] 55)
  have B2 := CBox.new (w.alloc (.cells #[.int .i64 q, .int .i64 M, .slice A n c, .int .i64 K] 55)) q' M' A' n' c' K'
  rw [World.size_alloc] at B2
  have c0 := B1.c0
  have c1 := B1.c1
  have c2 := B1.c2
  have c3 := B1.c3
  have d0 := B2.c0
  have d1 := B2.c1
  have d2 := B2.c2
  have d3 := B2.c3
  obtain ⟨v, hv⟩ : ∃ v, sameB xs K ys K' = v := ⟨_, rfl⟩
  have HV := Lib.hid hv
  clear hI hI' b1
  by_cases hq : q = q'
  · subst hq
    by_cases hm : M = M'
    · subst hm
      have e : sameC q M xs K q M ys K' = v := by unfold sameC; rw [hv]; simp
      rw [e]
      clear e hv
      go_enter Try.func51, Try.ntmps51
      go_wp2_with (go_at_call 76; refine (ref_same _ _ _ _ xs _ _ _ _ ys _ h1 h2).mono ?_; rintro e w1 ⟨rfl, hb⟩; rw [HV.out]; replace hB := below_step hB hb)
      go_ret
      exact ⟨ret_bool (by simp), hB⟩
    · have e : sameC q M xs K q M' ys K' = false := by unfold sameC; simp [hm]
      rw [e]
      have g : (M == M') = false := by simpa using hm
      clear e hv
      go_enter Try.func51, Try.ntmps51
      go_wp2
      go_ret
      exact ⟨ret_bool (by simp), hB⟩
  · have e : sameC q M xs K q' M' ys K' = false := by unfold sameC; simp [hq]
    rw [e]
    have g : (q == q') = false := by simpa using hq
    clear e hv
    go_enter Try.func51, Try.ntmps51
    go_wp2
    go_ret
    exact ⟨ret_bool (by simp), hB⟩
end Go.Proofs.Ytkgnlloioaobiaa

/-
  The reference's SamePiece and Same.
-/
namespace Go.Proofs.Ytkgnlloioaobiaa
open Go.RowKit
set_option linter.unusedVariables false
set_option maxRecDepth 100000
set_option linter.unusedSimpArgs false

/-- Lists of equal length whose elements agree one by one. -/
def sameL {α : Type} (f : α → α → Bool) : List α → List α → Bool
  | [], [] => true
  | a :: l, b :: l' => f a b && sameL f l l'
  | _, _ => false
theorem sameL_len {α : Type} {f : α → α → Bool} : ∀ {l l' : List α}, l.length ≠ l'.length → sameL f l l' = false
  | [], [], h => absurd rfl h
  | [], _ :: _, _ => rfl
  | _ :: _, [], _ => rfl
  | a :: l, b :: l', h => by
    have := sameL_len (f := f) (l := l) (l' := l') fun e => h (by simp [e])
    simp [sameL, this]
theorem sameL_no {α : Type} {f : α → α → Bool} : ∀ {l l' : List α} {i : Nat} {a b : α}, l[i]? = some a → l'[i]? = some b → f a b = false → sameL f l l' = false
  | [], _, _, _, _, h, _, _ => by simp at h
  | _ :: _, [], _, _, _, _, h, _ => by simp at h
  | a :: l, b :: l', 0, x, y, h, h', hf => by
    simp only [List.getElem?_cons_zero, Option.some.injEq] at h h'
    subst h h'
    simp [sameL, hf]
  | a :: l, b :: l', i + 1, x, y, h, h', hf => by
    simp only [List.getElem?_cons_succ] at h h'
    simp [sameL, sameL_no h h' hf]
theorem sameL_yes {α : Type} {f : α → α → Bool} : ∀ {l l' : List α}, l.length = l'.length → (∀ i a b, i < l.length → l[i]? = some a → l'[i]? = some b → f a b = true) → sameL f l l' = true
  | [], [], _, _ => rfl
  | [], _ :: _, h, _ => by simp at h
  | _ :: _, [], h, _ => by simp at h
  | a :: l, b :: l', h, hf => by
    have h0 := hf 0 a b (by simp) rfl rfl
    have h1 := sameL_yes (f := f) (l := l) (l' := l') (by simpa using h) fun i x y hi hx hy => hf (i + 1) x y (by simp; omega) (by simpa using hx) (by simpa using hy)
    simp [sameL, h0, h1]
def CEl.same (e e' : CEl) : Bool := sameC e.q e.M e.xs e.K e'.q e'.M e'.xs e'.K
def sameP (l l' : List CEl) : Bool := sameL CEl.same l l'
def sameS (D : Int) (ps : List PEl) (D' : Int) (ps' : List PEl) : Bool := (D == D') && sameL (fun p p' => sameP p.els p'.els) ps ps'


set_option maxHeartbeats 4000000 in
theorem same_piece (A : Option Addr) (m c : Nat) (els : List CEl) (A' : Option Addr) (m' c' : Nat) (els' : List CEl) (w : World) (C0 : CondsAt w A m els) (C1 : CondsAt w A' m' els') :
    Calls Try.prog 27 #[.slice A m c, .slice A' m' c'] w fun e w' => e = .returned (.bool (sameP els els')) ∧ Below w.heap.size w w' := by
  have hsm := C0.small
  have hsm' := C1.small
  by_cases hmm : m = m'
  · subst hmm
    have HL := Lib.hid C0.len
    have HL' := Lib.hid C1.len
    obtain ⟨er, her⟩ : ∃ er, sameP els els' = er := ⟨_, rfl⟩
    rw [her]
    have HE := Lib.hid her
    clear her
    go_enter Try.func27, Try.ntmps27
    go_wp2
    go_loopw [13] (fun v wr => ∃ i : Nat, i ≤ m ∧ v = .int .i64 i ∧ (∀ j x y, j < i → els[j]? = some x → els'[j]? = some y → x.same y = true) ∧ Below w.heap.size w wr) (fun v _ => m - (intOf v).toNat)
    case atStart => exact ⟨0, Nat.zero_le _, rfl, (fun j x y h => absurd h (by omega)), Below.refl _ _⟩
    case round =>
      obtain ⟨i, hi, rfl, hgood, hbr⟩ := hrel
      have HG := Lib.hid hgood
      clear hgood
      by_cases hlt : i < m
      · obtain ⟨b, off, e, hA2, hblt, hej, hmem, hcs, hin⟩ := (C0.step hbr).at hlt
        obtain ⟨b', off', e', hA3, hblt', hej', hmem', hcs', hin'⟩ := (C1.step hbr).at hlt
        obtain ⟨eq, eM, eA, en, ec, eK, exs⟩ := e
        obtain ⟨eq', eM', eA', en', ec', eK', exs'⟩ := e'
        obtain ⟨x0, x1, x2, x3⟩ := hcs
        obtain ⟨y0, y1, y2, y3⟩ := hcs'
        simp only at x0 x1 x2 x3 y0 y1 y2 y3 hin hin'
        have HEJ := Lib.hid hej
        have HEJ' := Lib.hid hej'
        subst hA2 hA3
        have hq1 : (i : Int) < m := by omega
        replace hin := hin.step (Below.refl _ wr).drew
        replace hin' := hin'.step (Below.refl _ wr).drew
        have hbd := hbr.drew
        clear hej hej' hmem hmem' hbr
        cases hv : sameC eq eM exs eK eq' eM' exs' eK'
        · have HV := Lib.hid hv
          have HR := Lib.hid (show er = false by rw [← HE.out]; exact sameL_no HEJ.out HEJ'.out hv)
          clear hv
          go_wp2
          go_region_held3 (fun W => W.cell? ⟨b, off + i * 4, none⟩ = some (.int .i64 eq) ∧ W.cell? ⟨b, off + i * 4 + 1, none⟩ = some (.int .i64 eM) ∧ W.cell? ⟨b, off + i * 4 + 2, none⟩ = some (.slice eA en ec) ∧ W.cell? ⟨b, off + i * 4 + 3, none⟩ = some (.int .i64 eK) ∧ W.cell? ⟨b', off' + i * 4, none⟩ = some (.int .i64 eq') ∧ W.cell? ⟨b', off' + i * 4 + 1, none⟩ = some (.int .i64 eM') ∧ W.cell? ⟨b', off' + i * 4 + 2, none⟩ = some (.slice eA' en' ec') ∧ W.cell? ⟨b', off' + i * 4 + 3, none⟩ = some (.int .i64 eK')) (first | with_reducible exact ⟨x0, x1, x2, x3, y0, y1, y2, y3⟩ | with_reducible exact ⟨z0, z1, z2, z3, z4, z5, z6, z7⟩ | go_keep) (first | (go_at_call 51; refine (cond_same _ _ _ _ _ _ exs _ _ _ _ _ _ exs' _ hin hin').mono ?_; rintro e w4 ⟨rfl, hb⟩; rw [HV.out]; have hbe := (Below.refl wr.heap.size wr).drew.trans hb; have z0 := (hbe.cell (p := ⟨b, off + i * 4, none⟩) hblt).trans x0; have z1 := (hbe.cell (p := ⟨b, off + i * 4 + 1, none⟩) hblt).trans x1; have z2 := (hbe.cell (p := ⟨b, off + i * 4 + 2, none⟩) hblt).trans x2; have z3 := (hbe.cell (p := ⟨b, off + i * 4 + 3, none⟩) hblt).trans x3; have z4 := (hbe.cell (p := ⟨b', off' + i * 4, none⟩) hblt').trans y0; have z5 := (hbe.cell (p := ⟨b', off' + i * 4 + 1, none⟩) hblt').trans y1; have z6 := (hbe.cell (p := ⟨b', off' + i * 4 + 2, none⟩) hblt').trans y2; have z7 := (hbe.cell (p := ⟨b', off' + i * 4 + 3, none⟩) hblt').trans y3; replace hbd := hbd.trans (hb.mono hbd.size)))
          all_goals
            go_wp2
            go_ret
            exact ⟨ret_bool HR.out.symm, hbd⟩
        · have HV := Lib.hid hv
          clear hv
          go_wp2
          go_region_held3 (fun W => W.cell? ⟨b, off + i * 4, none⟩ = some (.int .i64 eq) ∧ W.cell? ⟨b, off + i * 4 + 1, none⟩ = some (.int .i64 eM) ∧ W.cell? ⟨b, off + i * 4 + 2, none⟩ = some (.slice eA en ec) ∧ W.cell? ⟨b, off + i * 4 + 3, none⟩ = some (.int .i64 eK) ∧ W.cell? ⟨b', off' + i * 4, none⟩ = some (.int .i64 eq') ∧ W.cell? ⟨b', off' + i * 4 + 1, none⟩ = some (.int .i64 eM') ∧ W.cell? ⟨b', off' + i * 4 + 2, none⟩ = some (.slice eA' en' ec') ∧ W.cell? ⟨b', off' + i * 4 + 3, none⟩ = some (.int .i64 eK')) (first | with_reducible exact ⟨x0, x1, x2, x3, y0, y1, y2, y3⟩ | with_reducible exact ⟨z0, z1, z2, z3, z4, z5, z6, z7⟩ | go_keep) (first | (go_at_call 51; refine (cond_same _ _ _ _ _ _ exs _ _ _ _ _ _ exs' _ hin hin').mono ?_; rintro e w4 ⟨rfl, hb⟩; rw [HV.out]; have hbe := (Below.refl wr.heap.size wr).drew.trans hb; have z0 := (hbe.cell (p := ⟨b, off + i * 4, none⟩) hblt).trans x0; have z1 := (hbe.cell (p := ⟨b, off + i * 4 + 1, none⟩) hblt).trans x1; have z2 := (hbe.cell (p := ⟨b, off + i * 4 + 2, none⟩) hblt).trans x2; have z3 := (hbe.cell (p := ⟨b, off + i * 4 + 3, none⟩) hblt).trans x3; have z4 := (hbe.cell (p := ⟨b', off' + i * 4, none⟩) hblt').trans y0; have z5 := (hbe.cell (p := ⟨b', off' + i * 4 + 1, none⟩) hblt').trans y1; have z6 := (hbe.cell (p := ⟨b', off' + i * 4 + 2, none⟩) hblt').trans y2; have z7 := (hbe.cell (p := ⟨b', off' + i * 4 + 3, none⟩) hblt').trans y3; replace hbd := hbd.trans (hb.mono hbd.size)))
          all_goals
            go_wp2
            go_roundw
            case rel => exact ⟨i + 1, by omega, by go_num, (fun j x y hj hjx hjy => by
              rcases Nat.lt_or_eq_of_le (Nat.le_of_lt_succ hj) with h | rfl
              · exact HG.out j x y h hjx hjy
              · rw [HEJ.out] at hjx; rw [HEJ'.out] at hjy; cases hjx; cases hjy; exact HV.out), hbd⟩
            case measure => simp [intOf]; omega
      · have hge : ¬ ((i : Int) < m) := by omega
        have HR := Lib.hid (show er = true by rw [← HE.out]; exact sameL_yes (by rw [HL.out, HL'.out]) fun j x y hj => HG.out j x y (by have := HL.out; omega))
        go_wp2
        go_ret
        exact ⟨ret_bool HR.out.symm, hbr⟩
  · have HR := Lib.hid (show sameP els els' = false from sameL_len (by rw [C0.len, C1.len]; exact hmm))
    have q1 : ((m : Int) != (m' : Int)) = true := by simpa using fun e => hmm (by omega)
    have q2 : ((m : Int) == (m' : Int)) = false := by simpa using fun e => hmm (by omega)
    clear C0 C1 hmm
    go_enter Try.func27, Try.ntmps27
    go_wp2
    go_ret
    exact ⟨ret_bool HR.out.symm, Below.refl _ _⟩

set_option maxHeartbeats 4000000 in
theorem same_set (D : Int) (A : Option Addr) (n c : Nat) (ps : List PEl) (D' : Int) (A' : Option Addr) (n' c' : Nat) (ps' : List PEl) (w : World) (h : PiecesAt w A n ps) (h' : PiecesAt w A' n' ps') :
    Calls Try.prog 36 #[setV D A n c, setV D' A' n' c'] w fun e w' => e = .returned (.bool (sameS D ps D' ps')) ∧ Below w.heap.size w w' := by
  have b1 := below_alloc w (.cells #[.int .i64 D, .slice A n c] 24)
  have hB := below_step b1 (below_alloc _ (.cells #[.int .i64 D', .slice A' n' c'] 24))
  have P0 := h.step hB
  have P1 := h'.step hB
  have B1 := (SetBox.new w D A n c).alloc (.cells #[.int .i64 D', .slice A' n' c'] 24)
  have B2 := SetBox.new (w.alloc (.cells #[.int .i64 D, .slice A n c] 24)) D' A' n' c'
  rw [World.size_alloc] at B2
  have c0 := B1.c0
  have c1 := B1.c1
  have d0 := B2.c0
  have d1 := B2.c1
  have hl := h.len
  have hl' := h'.len
  have hsm := h.small
  have hsm' := h'.small
  clear b1 h h'
  by_cases hD : D = D'
  · by_cases hnn : n = n'
    · subst hD hnn
      have HL := Lib.hid hl
      have HL' := Lib.hid hl'
      obtain ⟨er, her⟩ : ∃ er, sameS D ps D ps' = er := ⟨_, rfl⟩
      rw [her]
      have HE := Lib.hid (show sameL (fun p p' => sameP p.els p'.els) ps ps' = er by rw [← her]; simp [sameS])
      clear her hl hl'
      go_enter Try.func36, Try.ntmps36
      go_wp2
      generalize hw0 : (w.alloc (.cells #[.int .i64 D, .slice A n c] 24)).alloc (.cells #[.int .i64 D, .slice A' n c'] 24) = w0 at *
      clear hw0 c0 c1 d0 d1
      go_loopw [23] (fun v wr => ∃ i : Nat, i ≤ n ∧ v = .int .i64 i ∧ (∀ j x y, j < i → ps[j]? = some x → ps'[j]? = some y → sameP x.els y.els = true) ∧ Below w0.heap.size w0 wr) (fun v _ => n - (intOf v).toNat)
      case atStart => exact ⟨0, Nat.zero_le _, rfl, (fun j x y h => absurd h (by omega)), Below.refl _ _⟩
      case round =>
        obtain ⟨i, hi, rfl, hgood, hbr⟩ := hrel
        have HG := Lib.hid hgood
        clear hgood
        by_cases hlt : i < n
        · obtain ⟨b, off, p, hA2, hblt, hpj, hmem, x2, hin⟩ := (P0.step hbr).at hlt
          obtain ⟨b', off', p', hA3, hblt', hpj', hmem', x3, hin'⟩ := (P1.step hbr).at hlt
          obtain ⟨pA, pn, pc, pels⟩ := p
          obtain ⟨pA', pn', pc', pels'⟩ := p'
          simp only at x2 x3 hin hin'
          have HPJ := Lib.hid hpj
          have HPJ' := Lib.hid hpj'
          subst hA2 hA3
          have hq1 : (i : Int) < n := by omega
          replace hin := hin.step (Below.refl _ wr).drew
          replace hin' := hin'.step (Below.refl _ wr).drew
          have B3 := B1.step hbr
          have B4 := B2.step hbr
          have x0 := B3.c1
          have x1 := B4.c1
          have hbd := hbr.drew
          clear hpj hpj' hmem hmem' hbr
          cases hv : sameP pels pels'
          · have HV := Lib.hid hv
            have HR := Lib.hid (show er = false by rw [← HE.out]; exact sameL_no HPJ.out HPJ'.out hv)
            clear hv
            go_wp2
            go_region_held3 (fun W => W.cell? ⟨w.heap.size, 1, none⟩ = some (.slice (some ⟨b, off, none⟩) n c) ∧ W.cell? ⟨w.heap.size + 1, 1, none⟩ = some (.slice (some ⟨b', off', none⟩) n c') ∧ W.cell? ⟨b, off + i, none⟩ = some (.slice pA pn pc) ∧ W.cell? ⟨b', off' + i, none⟩ = some (.slice pA' pn' pc')) (first | with_reducible exact ⟨x0, x1, x2, x3⟩ | with_reducible exact ⟨z0, z1, z2, z3⟩ | go_keep) (first | (go_at_call 27; refine (same_piece _ _ _ pels _ _ _ pels' _ hin hin').mono ?_; rintro e w4 ⟨rfl, hb⟩; rw [HV.out]; have hbe := (Below.refl wr.heap.size wr).drew.trans hb; have z0 := (hbe.cell (p := ⟨w.heap.size, 1, none⟩) B3.lt).trans x0; have z1 := (hbe.cell (p := ⟨w.heap.size + 1, 1, none⟩) B4.lt).trans x1; have z2 := (hbe.cell (p := ⟨b, off + i, none⟩) hblt).trans x2; have z3 := (hbe.cell (p := ⟨b', off' + i, none⟩) hblt').trans x3; replace hbd := hbd.trans (hb.mono hbd.size)))
            all_goals
              go_wp2
              go_ret
              exact ⟨ret_bool HR.out.symm, below_step hB hbd⟩
          · have HV := Lib.hid hv
            clear hv
            go_wp2
            go_region_held3 (fun W => W.cell? ⟨w.heap.size, 1, none⟩ = some (.slice (some ⟨b, off, none⟩) n c) ∧ W.cell? ⟨w.heap.size + 1, 1, none⟩ = some (.slice (some ⟨b', off', none⟩) n c') ∧ W.cell? ⟨b, off + i, none⟩ = some (.slice pA pn pc) ∧ W.cell? ⟨b', off' + i, none⟩ = some (.slice pA' pn' pc')) (first | with_reducible exact ⟨x0, x1, x2, x3⟩ | with_reducible exact ⟨z0, z1, z2, z3⟩ | go_keep) (first | (go_at_call 27; refine (same_piece _ _ _ pels _ _ _ pels' _ hin hin').mono ?_; rintro e w4 ⟨rfl, hb⟩; rw [HV.out]; have hbe := (Below.refl wr.heap.size wr).drew.trans hb; have z0 := (hbe.cell (p := ⟨w.heap.size, 1, none⟩) B3.lt).trans x0; have z1 := (hbe.cell (p := ⟨w.heap.size + 1, 1, none⟩) B4.lt).trans x1; have z2 := (hbe.cell (p := ⟨b, off + i, none⟩) hblt).trans x2; have z3 := (hbe.cell (p := ⟨b', off' + i, none⟩) hblt').trans x3; replace hbd := hbd.trans (hb.mono hbd.size)))
            all_goals
              go_wp2
              go_roundw
              case rel => exact ⟨i + 1, by omega, by go_num, (fun j x y hj hjx hjy => by
                rcases Nat.lt_or_eq_of_le (Nat.le_of_lt_succ hj) with h | rfl
                · exact HG.out j x y h hjx hjy
                · rw [HPJ.out] at hjx; rw [HPJ'.out] at hjy; cases hjx; cases hjy; exact HV.out), hbd⟩
              case measure => simp [intOf]; omega
        · have hge : ¬ ((i : Int) < n) := by omega
          have HR := Lib.hid (show er = true by rw [← HE.out]; exact sameL_yes (by rw [HL.out, HL'.out]) fun j x y hj => HG.out j x y (by have := HL.out; omega))
          go_wp2
          go_ret
          exact ⟨ret_bool HR.out.symm, below_step hB hbr⟩
    · have HR := Lib.hid (show sameS D ps D' ps' = false by unfold sameS; rw [sameL_len (by rw [hl, hl']; exact hnn), Bool.and_false])
      have q1 : ((n : Int) != (n' : Int)) = true := by simpa using fun e => hnn (by omega)
      have q2 : ((n : Int) == (n' : Int)) = false := by simpa using fun e => hnn (by omega)
      subst hD
      clear hl hl' hnn
      go_enter Try.func36, Try.ntmps36
      go_wp2
      go_ret
      exact ⟨ret_bool HR.out.symm, hB⟩
  · have HR := Lib.hid (show sameS D ps D' ps' = false by unfold sameS; rw [beq_eq_false_iff_ne.2 hD, Bool.false_and])
    have q1 : (D != D') = true := by simpa using hD
    have q2 : (D == D') = false := by simpa using hD
    clear hl hl' hD
    go_enter Try.func36, Try.ntmps36
    go_wp2
    go_ret
    exact ⟨ret_bool HR.out.symm, hB⟩
end Go.Proofs.Ytkgnlloioaobiaa

/-
  Whole and None, of package set and of its reference; the comparison of two answers.
-/
namespace Go.Proofs.Ytkgnlloioaobiaa
open Go.RowKit
set_option linter.unusedVariables false
set_option maxRecDepth 100000
set_option linter.unusedSimpArgs false

/-- A function's answer is a set and an error. -/
def SetRet (w : World) (e : Ending) (w' : World) (D : Int) (ps : List PEl) (err : Int) : Prop :=
  ∃ A n c, e = .returned (.tuple #[setV D A n c, .int .i64 err]) ∧ PiecesAt w' A n ps ∧ Below w.heap.size w w'
theorem ret_set {A : Option Addr} {n c : Nat} {D err : Int} {w w' : World} {ps : List PEl} {D' err' : Int} (h1 : err' = err) (h2 : D' = D) (hI : PiecesAt w' A n ps) (hb : Below w.heap.size w w') :
    SetRet w (.returned (.tuple #[setV D A n c, .int .i64 err])) w' D' ps err' := by
  subst h1; subst h2; exact ⟨A, n, c, rfl, hI, hb⟩
theorem pieces_nil (w : World) (A : Option Addr) : PiecesAt w A 0 [] := ⟨rfl, by omega, fun h => absurd h (by omega), fun p h => by cases h⟩
/-- The list of one piece that has no condition. -/
def onePs : List PEl := [⟨none, 0, 0, []⟩]
theorem pieces_one (w : World) (g : Nat) (hg : g = w.heap.size) : PiecesAt (w.alloc (.cells #[.slice none 0 0] 40)) (some ⟨g, 0, none⟩) 1 onePs := by
  subst hg
  refine ⟨rfl, by omega, fun _ => ⟨_, 0, rfl, by simp, fun j p hp => ?_⟩, fun p hp => ?_⟩
  · match j, hp with
    | 0, hp =>
      simp [onePs] at hp
      subst hp
      rw [cell_of_row _ _ _ _ _ (0, 0) (heap_alloc_new w _)]; rfl
    | j + 1, hp => simp [onePs] at hp
  · simp [onePs] at hp
    subst hp
    exact conds_nil _ _
def mErr (n : Int) : Int := if 0 ≤ n ∧ n ≤ 12 then 0 else 6
def mD (n : Int) : Int := if 0 ≤ n ∧ n ≤ 12 then n else 0
def mPs (n : Int) : List PEl := if 0 ≤ n ∧ n ≤ 12 then onePs else []
theorem m_ok {n : Int} (h : 0 ≤ n ∧ n ≤ 12) : mErr n = 0 ∧ mD n = n ∧ mPs n = onePs := by unfold mErr mD mPs; rw [if_pos h, if_pos h, if_pos h]; exact ⟨rfl, rfl, rfl⟩
theorem m_rng {n : Int} (h : ¬ (0 ≤ n ∧ n ≤ 12)) : mErr n = 6 ∧ mD n = 0 ∧ mPs n = [] := by unfold mErr mD mPs; rw [if_neg h, if_neg h, if_neg h]; exact ⟨rfl, rfl, rfl⟩

theorem set_whole (n : Int) (w : World) : Calls Try.prog 12 #[.int .i64 n] w fun e w' => SetRet w e w' (mD n) (mPs n) (mErr n) := by
  have hB := below_alloc w (.cells #[.int .i64 0, .slice none 0 0] 24)
  by_cases hn : 0 ≤ n ∧ n ≤ 12
  · have HE := Lib.hid (m_ok hn)
    obtain ⟨h0, h1⟩ := hn
    go_enter Try.func12, Try.ntmps12
    go_wp2
    refine bodyPost_ret (v := .tuple #[.agg #[.int .i64 n, .slice (some ⟨w.heap.size + 1, 0, none⟩) 1 1], .int .i64 0]) (by simp [results, Try.results12, go_sem]) rfl ?_
    rw [HE.out.2.2]
    exact ret_set HE.out.1 HE.out.2.1 (pieces_one (w.alloc _) _ (by simp)) (below_step (below_alloc w _) (below_alloc _ _))
  · have HE := Lib.hid (m_rng hn)
    rcases (show n < 0 ∨ (0 ≤ n ∧ 12 < n) by omega) with h | ⟨h, h'⟩
    all_goals
      clear hn
      go_enter Try.func12, Try.ntmps12
      go_wp2
      refine bodyPost_ret (v := .tuple #[.agg #[.int .i64 0, .slice none 0 0], .int .i64 6]) (by simp [results, Try.results12, go_sem]) rfl ?_
      rw [HE.out.2.2]
      exact ret_set HE.out.1 HE.out.2.1 (pieces_nil _ _) hB

theorem ref_whole (n : Int) (w : World) : Calls Try.prog 13 #[.int .i64 n] w fun e w' => SetRet w e w' (mD n) (mPs n) (mErr n) := by
  have hB := below_alloc w (.cells #[.int .i64 0, .slice none 0 0] 24)
  by_cases hn : 0 ≤ n ∧ n ≤ 12
  · have HE := Lib.hid (m_ok hn)
    obtain ⟨h0, h1⟩ := hn
    go_enter Try.func13, Try.ntmps13
    go_wp2
    refine bodyPost_ret (v := .tuple #[.agg #[.int .i64 n, .slice (some ⟨w.heap.size + 1, 0, none⟩) 1 1], .int .i64 0]) (by simp [results, Try.results13, go_sem]) rfl ?_
    rw [HE.out.2.2]
    exact ret_set HE.out.1 HE.out.2.1 (pieces_one (w.alloc _) _ (by simp)) (below_step (below_alloc w _) (below_alloc _ _))
  · have HE := Lib.hid (m_rng hn)
    rcases (show n < 0 ∨ (0 ≤ n ∧ 12 < n) by omega) with h | ⟨h, h'⟩
    all_goals
      clear hn
      go_enter Try.func13, Try.ntmps13
      go_wp2
      refine bodyPost_ret (v := .tuple #[.agg #[.int .i64 0, .slice none 0 0], .int .i64 6]) (by simp [results, Try.results13, go_sem]) rfl ?_
      rw [HE.out.2.2]
      exact ret_set HE.out.1 HE.out.2.1 (pieces_nil _ _) hB

theorem set_none (n : Int) (w : World) : Calls Try.prog 14 #[.int .i64 n] w fun e w' => SetRet w e w' (mD n) [] (mErr n) := by
  have hB := below_alloc w (.cells #[.int .i64 0, .slice none 0 0] 24)
  by_cases hn : 0 ≤ n ∧ n ≤ 12
  · have HE := Lib.hid (m_ok hn)
    obtain ⟨h0, h1⟩ := hn
    go_enter Try.func14, Try.ntmps14
    go_wp2
    refine bodyPost_ret (v := .tuple #[.agg #[.int .i64 n, .slice none 0 0], .int .i64 0]) (by simp [results, Try.results14, go_sem]) rfl ?_
    exact ret_set HE.out.1 HE.out.2.1 (pieces_nil _ _) (below_alloc w _)
  · have HE := Lib.hid (m_rng hn)
    rcases (show n < 0 ∨ (0 ≤ n ∧ 12 < n) by omega) with h | ⟨h, h'⟩
    all_goals
      clear hn
      go_enter Try.func14, Try.ntmps14
      go_wp2
      refine bodyPost_ret (v := .tuple #[.agg #[.int .i64 0, .slice none 0 0], .int .i64 6]) (by simp [results, Try.results14, go_sem]) rfl ?_
      exact ret_set HE.out.1 HE.out.2.1 (pieces_nil _ _) hB

theorem ref_none (n : Int) (w : World) : Calls Try.prog 15 #[.int .i64 n] w fun e w' => SetRet w e w' (mD n) [] (mErr n) := by
  have hB := below_alloc w (.cells #[.int .i64 0, .slice none 0 0] 24)
  by_cases hn : 0 ≤ n ∧ n ≤ 12
  · have HE := Lib.hid (m_ok hn)
    obtain ⟨h0, h1⟩ := hn
    go_enter Try.func15, Try.ntmps15
    go_wp2
    refine bodyPost_ret (v := .tuple #[.agg #[.int .i64 n, .slice none 0 0], .int .i64 0]) (by simp [results, Try.results15, go_sem]) rfl ?_
    exact ret_set HE.out.1 HE.out.2.1 (pieces_nil _ _) (below_alloc w _)
  · have HE := Lib.hid (m_rng hn)
    rcases (show n < 0 ∨ (0 ≤ n ∧ 12 < n) by omega) with h | ⟨h, h'⟩
    all_goals
      clear hn
      go_enter Try.func15, Try.ntmps15
      go_wp2
      refine bodyPost_ret (v := .tuple #[.agg #[.int .i64 0, .slice none 0 0], .int .i64 6]) (by simp [results, Try.results15, go_sem]) rfl ?_
      exact ret_set HE.out.1 HE.out.2.1 (pieces_nil _ _) hB

/-- What a set says: its dimension and its pieces' conditions, without their addresses. -/
def CEl.data (e : CEl) : Int × Int × List Int × Int := (e.q, e.M, e.xs, e.K)
def dataS (ps : List PEl) : List (List (Int × Int × List Int × Int)) := ps.map fun p => p.els.map CEl.data
theorem same_data {e e' : CEl} (h : e.data = e'.data) : e.same e' = true := by
  obtain ⟨q, M, A, n, c, K, xs⟩ := e
  obtain ⟨q', M', A', n', c', K', xs'⟩ := e'
  simp only [CEl.data, Prod.mk.injEq] at h
  obtain ⟨rfl, rfl, rfl, rfl⟩ := h
  show sameC q M xs K q M xs K = true
  unfold sameC
  simp [sameB_self]
theorem sameP_data : ∀ {l l' : List CEl}, l.map CEl.data = l'.map CEl.data → sameP l l' = true
  | [], [], _ => rfl
  | [], _ :: _, h => by simp at h
  | _ :: _, [], h => by simp at h
  | a :: l, b :: l', h => by
    simp only [List.map_cons, List.cons.injEq] at h
    show (a.same b && sameP l l') = true
    rw [same_data h.1, sameP_data h.2]; rfl
theorem sameL_data : ∀ {l l' : List PEl}, dataS l = dataS l' → sameL (fun p p' => sameP p.els p'.els) l l' = true
  | [], [], _ => rfl
  | [], _ :: _, h => by simp [dataS] at h
  | _ :: _, [], h => by simp [dataS] at h
  | a :: l, b :: l', h => by
    simp only [dataS, List.map_cons, List.cons.injEq] at h
    show (sameP a.els b.els && sameL _ l l') = true
    rw [sameP_data h.1, sameL_data h.2]; rfl
theorem sameS_data {D : Int} {l l' : List PEl} (h : dataS l = dataS l') : sameS D l D l' = true := by
  unfold sameS; rw [sameL_data h]; simp

/-- Two equal answers. -/
theorem sis_same (D : Int) (A : Option Addr) (n c : Nat) (ps : List PEl) (A' : Option Addr) (n' c' : Nat) (ps' : List PEl) (e : Int) (w : World) (h : PiecesAt w A n ps) (h' : PiecesAt w A' n' ps') (hd : dataS ps = dataS ps') :
    Calls Try.prog 18 #[setV D A n c, .int .i64 e, setV D A' n' c', .int .i64 e] w fun e w' => e = .returned (.bool true) ∧ Below w.heap.size w w' := by
  have hB := below_step (below_alloc w (.cells #[.int .i64 D, .slice A n c] 24)) (below_alloc _ (.cells #[.int .i64 D, .slice A' n' c'] 24))
  have h1 := h.step hB
  have h2 := h'.step hB
  have HD := Lib.hid (sameS_data (D := D) hd)
  clear h h' hd
  go_enter Try.func18, Try.ntmps18
  go_wp2_with (go_at_call 36; refine (same_set _ _ _ _ ps _ _ _ _ ps' _ h1 h2).mono ?_; rintro e w3 ⟨rfl, hb3⟩; rw [HD.out]; replace hB := below_step hB hb3)
  go_ret
  exact ⟨rfl, hB⟩
end Go.Proofs.Ytkgnlloioaobiaa

/-
  Rows of conditions and of pieces as a composite literal lays them; the law's function 'at'.
-/
namespace Go.Proofs.Ytkgnlloioaobiaa
open Go.RowKit
set_option linter.unusedVariables false
set_option linter.unusedSimpArgs false
set_option maxRecDepth 100000

theorem conds_row {w : World} {g : Nat} {els : List CEl} (hg : w.heap[g]? = some (.cells (ccells els).toArray 55 (0, 0))) (hi : ∀ e ∈ els, IntsAt w e.A e.n e.xs) (hl : els.length ≤ 1000) : CondsAt w (some ⟨g, 0, none⟩) els.length els := by
  have key : ∀ (k : Nat) (v : Value), (ccells els)[k]? = some v → w.cell? ⟨g, k, none⟩ = some v := fun k v hv => by rw [cell_of_row w g k _ _ (0, 0) hg]; simpa using hv
  refine ⟨rfl, by omega, fun _ => ⟨g, 0, rfl, (Array.getElem?_eq_some_iff.1 hg).1, fun j e he => ?_⟩, hi⟩
  obtain ⟨h0, h1, h2, h3⟩ := ccells_at els j e he
  rw [Nat.zero_add]
  exact ⟨key _ _ h0, key _ _ h1, key _ _ h2, key _ _ h3⟩
theorem pieces_row {w : World} {g : Nat} {ps : List PEl} (hg : w.heap[g]? = some (.cells (ps.map PEl.v).toArray 40 (0, 0))) (hc : ∀ p ∈ ps, CondsAt w p.A p.n p.els) (hl : ps.length ≤ 1000) : PiecesAt w (some ⟨g, 0, none⟩) ps.length ps := by
  refine ⟨rfl, by omega, fun _ => ⟨g, 0, rfl, (Array.getElem?_eq_some_iff.1 hg).1, fun j p hp => ?_⟩, hc⟩
  rw [Nat.zero_add, cell_of_row w g j _ _ (0, 0) hg]
  simp [hp, PEl.v]
/-- A condition that 'at' makes. -/
def atE (A : Option Addr) (a k : Int) : CEl := ⟨0, 0, A, 1, 1, k, [a]⟩
/-- Two conditions that 'at' makes, in a row of their own. -/
theorem conds_two {w : World} {A B : Option Addr} {a b k l : Int} (hA : IntsAt w A 1 [a]) (hB : IntsAt w B 1 [b]) :
    CondsAt (w.alloc (.cells #[.int .i64 0, .int .i64 0, .slice A 1 1, .int .i64 k, .int .i64 0, .int .i64 0, .slice B 1 1, .int .i64 l] 55)) (some ⟨w.heap.size, 0, none⟩) 2 [atE A a k, atE B b l] := by
  have hb := below_alloc w (.cells #[.int .i64 0, .int .i64 0, .slice A 1 1, .int .i64 k, .int .i64 0, .int .i64 0, .slice B 1 1, .int .i64 l] 55)
  refine conds_row (els := [atE A a k, atE B b l]) (heap_alloc_new w _) (fun e he => ?_) (by simp)
  rcases List.mem_cons.1 he with rfl | he
  · exact hA.step hb
  · rw [List.mem_singleton.1 he]; exact hB.step hb
/-- One piece, in a row of its own. -/
theorem pieces_single {w : World} {p : PEl} (h : CondsAt w p.A p.n p.els) : PiecesAt (w.alloc (.cells #[.slice p.A p.n p.c] 40)) (some ⟨w.heap.size, 0, none⟩) 1 [p] := by
  refine pieces_row (ps := [p]) (heap_alloc_new w _) (fun q hq => ?_) (by simp)
  rw [List.mem_singleton.1 hq]
  exact h.step (below_alloc w _)
theorem pieces_two {w : World} {p q : PEl} (h : CondsAt w p.A p.n p.els) (h' : CondsAt w q.A q.n q.els) : PiecesAt (w.alloc (.cells #[.slice p.A p.n p.c, .slice q.A q.n q.c] 40)) (some ⟨w.heap.size, 0, none⟩) 2 [p, q] := by
  refine pieces_row (ps := [p, q]) (heap_alloc_new w _) (fun x hx => ?_) (by simp)
  rcases List.mem_cons.1 hx with rfl | hx
  · exact h.step (below_alloc w _)
  · rw [List.mem_singleton.1 hx]; exact h'.step (below_alloc w _)

theorem one_row (w : World) (a : Int) (ha : -9223372036854775808 ≤ a ∧ a ≤ 9223372036854775807) :
    IntsAt (w.alloc (.cells #[.int .i64 a] 3)) (some ⟨w.heap.size, 0, none⟩) 1 [a] :=
  (OwnRow.new w [a] 1 rfl).ints (by omega) (fun x hx => by rw [List.mem_singleton] at hx; subst hx; exact ha)

theorem law_at (a k : Int) (ha : -9223372036854775808 ≤ a ∧ a ≤ 9223372036854775807) (w : World) : Calls Try.prog 38 #[.int .i64 a, .int .i64 k] w fun e w' => ∃ A, e = .returned (condV 0 0 A 1 1 k) ∧ IntsAt w' A 1 [a] ∧ Below w.heap.size w w' := by
  have I1 : ∀ x : Int, IntsAt ((w.alloc (.cells #[.int .i64 0, .int .i64 0, .slice (some ⟨w.heap.size + 1, 0, none⟩) 1 1, .int .i64 x] 55)).alloc (.cells #[.int .i64 a] 3)) (some ⟨w.heap.size + 1, 0, none⟩) 1 [a] := fun x => by
    have := one_row (w.alloc (.cells #[.int .i64 0, .int .i64 0, .slice (some ⟨w.heap.size + 1, 0, none⟩) 1 1, .int .i64 x] 55)) a ha
    rw [World.size_alloc] at this
    exact this
  have hB := below_step (below_alloc w (.cells #[.int .i64 0, .int .i64 0, .slice (some ⟨w.heap.size + 1, 0, none⟩) 1 1, .int .i64 k] 55)) (below_alloc _ (.cells #[.int .i64 a] 3))
  go_enter Try.func38, Try.ntmps38
  go_wp2
  refine bodyPost_ret (v := condV 0 0 (some ⟨w.heap.size + 1, 0, none⟩) 1 1 k) (by simp [results, Try.results38, go_sem]) rfl ?_
  exact ⟨_, rfl, I1 k, hB⟩
/-- What a set says, by its pieces' data. -/
theorem data_dat {l l' : List PEl} (h : l.map PEl.dat = l'.map PEl.dat) : dataS l = dataS l' := by
  have key : ∀ l : List PEl, dataS l = (l.map PEl.dat).map fun ds => ds.map fun d => (d.q, d.M, d.xs, d.K) := fun l => by
    unfold dataS
    rw [List.map_map]
    refine List.map_congr_left fun p _ => ?_
    simp [PEl.dat, CEl.data, CEl.d]
  rw [key, key, h]
end Go.Proofs.Ytkgnlloioaobiaa

/-
  awake of layer 4: its two calls of package set, evaluated.
-/
namespace Go.Proofs.Ytkgnlloioaobiaa
open Go.RowKit
set_option linter.unusedVariables false
set_option linter.unusedSimpArgs false
set_option maxRecDepth 100000

def awM : List (List CD) := [[⟨0, 0, [-1], 5⟩, ⟨0, 0, [1], -4⟩], [⟨0, 0, [-1], 1⟩, ⟨0, 0, [1], 0⟩]]
def awN : List (List CD) := [[⟨1, 0, [1], -3⟩]]

theorem aw_minus_call {w : World} {B1 B2 g1 g2 A1 A2 A3 A4 : Option Addr} (Q1 : PiecesAt w B1 1 [⟨g1, 2, 2, [atE A1 1 0, atE A2 (-1) 5]⟩]) (Q3 : PiecesAt w B2 1 [⟨g2, 2, 2, [atE A3 1 (-2), atE A4 (-1) 3]⟩]) :
    Calls Try.prog 28 #[setV 1 B1 1 1, setV 1 B2 1 1] w fun e w' => GatherRet 1 w e w' 1 (0, awM) := by
  have h := set_minus 1 B1 1 1 _ B2 1 1 _ w Q1 Q3 (by kernel_rfl) (by kernel_rfl)
  have e : minusD (1 : Int).toNat (List.map PEl.dat [⟨g1, 2, 2, [atE A1 1 0, atE A2 (-1) 5]⟩]) (List.map PEl.dat [⟨g2, 2, 2, [atE A3 1 (-2), atE A4 (-1) 3]⟩]) = (0, awM) := aw_minus
  rw [e] at h
  exact h

theorem aw_norm_call {w : World} {B1 g1 A1 A2 : Option Addr} (Q1 : PiecesAt w B1 1 [⟨g1, 2, 2, [atE A1 1 (-3), atE A2 (-1) 3]⟩]) :
    Calls Try.prog 32 #[setV 1 B1 1 1] w fun e w' => GatherRet 1 w e w' 1 (0, awN) := by
  have h := set_normal 1 B1 1 1 _ w Q1 (by kernel_rfl)
  have e : gatherD (1 : Int).toNat (List.map PEl.dat [⟨g1, 2, 2, [atE A1 1 (-3), atE A2 (-1) 3]⟩]) = (0, awN) := aw_three
  rw [e] at h
  exact h


theorem aw_core {w : World} {A : Option Addr} {n c : Nat} {ps : List PEl} {A' : Option Addr} {n' c' : Nat} {ps' : List PEl} (h : PiecesAt w A n ps) (h' : PiecesAt w A' n' ps') (hd : ps.map PEl.dat = ps'.map PEl.dat) :
    Calls Try.prog 36 #[setV 1 A n c, setV 1 A' n' c'] w fun e w' => e = .returned (.bool true) ∧ Below w.heap.size w w' := by
  have := same_set 1 A n c ps 1 A' n' c' ps' w h h'
  rw [sameS_data (data_dat hd)] at this
  exact this

theorem aw_ga {w : World} {g : Nat} {A7 A8 A9 A10 : Option Addr} (R : w.heap[g]? = some (.cells (ccells [atE A7 (-1) 5, atE A8 1 (-4)]).toArray 55 (0, 0))) (I7 : IntsAt w A7 1 [-1]) (I8 : IntsAt w A8 1 [1]) (I9 : IntsAt w A9 1 [-1]) (I10 : IntsAt w A10 1 [1]) :
    PiecesAt ((w.alloc (.cells #[.int .i64 0, .int .i64 0, .slice A9 1 1, .int .i64 1, .int .i64 0, .int .i64 0, .slice A10 1 1, .int .i64 0] 55)).alloc (.cells #[.slice (some ⟨g, 0, none⟩) 2 2, .slice (some ⟨w.heap.size, 0, none⟩) 2 2] 40)) (some ⟨w.heap.size + 1, 0, none⟩) 2 [⟨some ⟨g, 0, none⟩, 2, 2, [atE A7 (-1) 5, atE A8 1 (-4)]⟩, ⟨some ⟨w.heap.size, 0, none⟩, 2, 2, [atE A9 (-1) 1, atE A10 1 0]⟩] := by
  have C2 := conds_two (k := 1) (l := 0) I9 I10
  have C1 : CondsAt w (some ⟨g, 0, none⟩) 2 [atE A7 (-1) 5, atE A8 1 (-4)] := conds_row (els := [atE A7 (-1) 5, atE A8 1 (-4)]) R (fun e he => by
    rcases List.mem_cons.1 he with rfl | he
    · exact I7
    · rw [List.mem_singleton.1 he]; exact I8) (by simp)
  have h := pieces_two (p := ⟨some ⟨g, 0, none⟩, 2, 2, [atE A7 (-1) 5, atE A8 1 (-4)]⟩) (q := ⟨some ⟨w.heap.size, 0, none⟩, 2, 2, [atE A9 (-1) 1, atE A10 1 0]⟩) (C1.step (below_alloc w (.cells #[.int .i64 0, .int .i64 0, .slice A9 1 1, .int .i64 1, .int .i64 0, .int .i64 0, .slice A10 1 1, .int .i64 0] 55))) C2
  rw [World.size_alloc] at h
  exact h

theorem aw_gb {w : World} {A7 A8 A9 A10 : Option Addr} (I7 : IntsAt w A7 1 [-1]) (I8 : IntsAt w A8 1 [1]) (I9 : IntsAt w A9 1 [-1]) (I10 : IntsAt w A10 1 [1]) :
    PiecesAt (((w.alloc (.cells #[.int .i64 0, .int .i64 0, .slice A7 1 1, .int .i64 5, .int .i64 0, .int .i64 0, .slice A8 1 1, .int .i64 (-4)] 55)).alloc (.cells #[.int .i64 0, .int .i64 0, .slice A9 1 1, .int .i64 1, .int .i64 0, .int .i64 0, .slice A10 1 1, .int .i64 0] 55)).alloc (.cells #[.slice (some ⟨w.heap.size, 0, none⟩) 2 2, .slice (some ⟨w.heap.size + 1, 0, none⟩) 2 2] 40)) (some ⟨w.heap.size + 1 + 1, 0, none⟩) 2 [⟨some ⟨w.heap.size, 0, none⟩, 2, 2, [atE A7 (-1) 5, atE A8 1 (-4)]⟩, ⟨some ⟨w.heap.size + 1, 0, none⟩, 2, 2, [atE A9 (-1) 1, atE A10 1 0]⟩] := by
  have b := below_alloc w (.cells #[.int .i64 0, .int .i64 0, .slice A7 1 1, .int .i64 5, .int .i64 0, .int .i64 0, .slice A8 1 1, .int .i64 (-4)] 55)
  have h := aw_ga (g := w.heap.size) (heap_alloc_new w (.cells #[.int .i64 0, .int .i64 0, .slice A7 1 1, .int .i64 5, .int .i64 0, .int .i64 0, .slice A8 1 1, .int .i64 (-4)] 55)) (I7.step b) (I8.step b) (I9.step b) (I10.step b)
  rw [World.size_alloc] at h
  exact h

theorem aw_gc {w : World} {A7 A8 A9 A10 : Option Addr} (I7 : IntsAt w A7 1 [-1]) (I8 : IntsAt w A8 1 [1]) (I9 : IntsAt w A9 1 [-1]) (I10 : IntsAt w A10 1 [1]) :
    PiecesAt (((w.alloc (.cells #[.int .i64 0, .int .i64 0, .slice A9 1 1, .int .i64 1, .int .i64 0, .int .i64 0, .slice A10 1 1, .int .i64 0] 55)).alloc (.cells #[.int .i64 0, .int .i64 0, .slice A7 1 1, .int .i64 5, .int .i64 0, .int .i64 0, .slice A8 1 1, .int .i64 (-4)] 55)).alloc (.cells #[.slice (some ⟨w.heap.size + 1, 0, none⟩) 2 2, .slice (some ⟨w.heap.size, 0, none⟩) 2 2] 40)) (some ⟨w.heap.size + 1 + 1, 0, none⟩) 2 [⟨some ⟨w.heap.size + 1, 0, none⟩, 2, 2, [atE A7 (-1) 5, atE A8 1 (-4)]⟩, ⟨some ⟨w.heap.size, 0, none⟩, 2, 2, [atE A9 (-1) 1, atE A10 1 0]⟩] := by
  have b := below_alloc w (.cells #[.int .i64 0, .int .i64 0, .slice A9 1 1, .int .i64 1, .int .i64 0, .int .i64 0, .slice A10 1 1, .int .i64 0] 55)
  have C2 := (conds_two (k := 1) (l := 0) I9 I10).step (below_alloc _ (.cells #[.int .i64 0, .int .i64 0, .slice A7 1 1, .int .i64 5, .int .i64 0, .int .i64 0, .slice A8 1 1, .int .i64 (-4)] 55))
  have C1 := conds_two (w := w.alloc (.cells #[.int .i64 0, .int .i64 0, .slice A9 1 1, .int .i64 1, .int .i64 0, .int .i64 0, .slice A10 1 1, .int .i64 0] 55)) (k := 5) (l := -4) (I7.step b) (I8.step b)
  rw [World.size_alloc] at C1
  have h := pieces_two (p := ⟨some ⟨w.heap.size + 1, 0, none⟩, 2, 2, [atE A7 (-1) 5, atE A8 1 (-4)]⟩) (q := ⟨some ⟨w.heap.size, 0, none⟩, 2, 2, [atE A9 (-1) 1, atE A10 1 0]⟩) C1 C2
  rw [World.size_alloc, World.size_alloc] at h
  exact h

theorem aw_gn {w : World} {B : Option Addr} (I : IntsAt w B 1 [1]) :
    PiecesAt ((w.alloc (.cells #[.int .i64 1, .int .i64 0, .slice B 1 1, .int .i64 (-3)] 55)).alloc (.cells #[.slice (some ⟨w.heap.size, 0, none⟩) 1 1] 40)) (some ⟨w.heap.size + 1, 0, none⟩) 1 [⟨some ⟨w.heap.size, 0, none⟩, 1, 1, [⟨1, 0, B, 1, 1, -3, [1]⟩]⟩] := by
  have C := conds_row (els := [⟨1, 0, B, 1, 1, -3, [1]⟩]) (heap_alloc_new w (.cells #[.int .i64 1, .int .i64 0, .slice B 1 1, .int .i64 (-3)] 55)) (fun e he => by
    rw [List.mem_singleton.1 he]
    exact I.step (below_alloc w _)) (by simp)
  have h := pieces_single (p := ⟨some ⟨w.heap.size, 0, none⟩, 1, 1, [⟨1, 0, B, 1, 1, -3, [1]⟩]⟩) C
  rw [World.size_alloc] at h
  exact h

set_option maxHeartbeats 16000000 in
theorem awake4 (w : World) : Calls Try.prog 11 #[] w fun e w' => e = .returned (.bool true) ∧ Below w.heap.size w w' := by
  have hB := Below.refl w.heap.size w
  have T1 : True := trivial
  have T2 : True := trivial
  have T3 : True := trivial
  have T4 : True := trivial
  have T5 : True := trivial
  have T6 : True := trivial
  have T7 : True := trivial
  have T8 : True := trivial
  have T9 : True := trivial
  have T10 : True := trivial
  have T11 : True := trivial
  go_enter Try.func11, Try.ntmps11
  go_wp2_with (first
    | (go_at_call 38; have t1 := T1; clear T1 t1; refine (law_at 1 0 (by omega) _).mono ?_; rintro e w1 ⟨A1, rfl, I1, hb⟩; replace hB := below_step hB hb; clear hb)
    | (go_at_call 38; have t1 := T2; clear T2 t1; refine (law_at (-1) 5 (by omega) _).mono ?_; rintro e w2 ⟨A2, rfl, I2, hb⟩; replace hB := below_step hB hb; replace I1 := I1.step hb; clear hb; have C1 := conds_two (k := 0) (l := 5) I1 I2; have Q1 := pieces_single (p := ⟨some ⟨w2.heap.size, 0, none⟩, 2, 2, [atE A1 1 0, atE A2 (-1) 5]⟩) C1; rw [World.size_alloc] at Q1; clear C1 I1 I2; have b9 := below_step (below_alloc w2 (.cells #[.int .i64 0, .int .i64 0, .slice A1 1 1, .int .i64 0, .int .i64 0, .int .i64 0, .slice A2 1 1, .int .i64 5] 55)) (below_alloc (w2.alloc (.cells #[.int .i64 0, .int .i64 0, .slice A1 1 1, .int .i64 0, .int .i64 0, .int .i64 0, .slice A2 1 1, .int .i64 5] 55)) (.cells #[.slice (some ⟨w2.heap.size, 0, none⟩) 2 2] 40)); replace hB := below_step hB b9; clear b9; have b9 := below_alloc ((w2.alloc (.cells #[.int .i64 0, .int .i64 0, .slice A1 1 1, .int .i64 0, .int .i64 0, .int .i64 0, .slice A2 1 1, .int .i64 5] 55)).alloc (.cells #[.slice (some ⟨w2.heap.size, 0, none⟩) 2 2] 40)) (.cells #[.int .i64 1, .slice (some ⟨w2.heap.size + 1, 0, none⟩) 1 1] 24); have X1 := SetBox.new ((w2.alloc (.cells #[.int .i64 0, .int .i64 0, .slice A1 1 1, .int .i64 0, .int .i64 0, .int .i64 0, .slice A2 1 1, .int .i64 5] 55)).alloc (.cells #[.slice (some ⟨w2.heap.size, 0, none⟩) 2 2] 40)) 1 (some ⟨w2.heap.size + 1, 0, none⟩) 1 1; replace hB := below_step hB b9; replace Q1 := Q1.step b9; clear b9; simp only [World.size_alloc] at X1)
    | (go_at_call 38; have t1 := T3; clear T3 t1; refine (law_at 1 (-2) (by omega) _).mono ?_; rintro e w3 ⟨A3, rfl, I3, hb⟩; replace hB := below_step hB hb; replace Q1 := Q1.step hb; replace X1 := X1.step hb; clear hb)
    | (go_at_call 38; have t1 := T4; clear T4 t1; refine (law_at (-1) 3 (by omega) _).mono ?_; rintro e w4 ⟨A4, rfl, I4, hb⟩; replace hB := below_step hB hb; replace Q1 := Q1.step hb; replace X1 := X1.step hb; replace I3 := I3.step hb; clear hb; have C3 := conds_two (k := (-2)) (l := 3) I3 I4; have Q3 := pieces_single (p := ⟨some ⟨w4.heap.size, 0, none⟩, 2, 2, [atE A3 1 (-2), atE A4 (-1) 3]⟩) C3; rw [World.size_alloc] at Q3; clear C3 I3 I4; have b9 := below_step (below_alloc w4 (.cells #[.int .i64 0, .int .i64 0, .slice A3 1 1, .int .i64 (-2), .int .i64 0, .int .i64 0, .slice A4 1 1, .int .i64 3] 55)) (below_alloc (w4.alloc (.cells #[.int .i64 0, .int .i64 0, .slice A3 1 1, .int .i64 (-2), .int .i64 0, .int .i64 0, .slice A4 1 1, .int .i64 3] 55)) (.cells #[.slice (some ⟨w4.heap.size, 0, none⟩) 2 2] 40)); replace hB := below_step hB b9; replace Q1 := Q1.step b9; replace X1 := X1.step b9; clear b9; have b9 := below_alloc ((w4.alloc (.cells #[.int .i64 0, .int .i64 0, .slice A3 1 1, .int .i64 (-2), .int .i64 0, .int .i64 0, .slice A4 1 1, .int .i64 3] 55)).alloc (.cells #[.slice (some ⟨w4.heap.size, 0, none⟩) 2 2] 40)) (.cells #[.int .i64 1, .slice (some ⟨w4.heap.size + 1, 0, none⟩) 1 1] 24); have X3 := SetBox.new ((w4.alloc (.cells #[.int .i64 0, .int .i64 0, .slice A3 1 1, .int .i64 (-2), .int .i64 0, .int .i64 0, .slice A4 1 1, .int .i64 3] 55)).alloc (.cells #[.slice (some ⟨w4.heap.size, 0, none⟩) 2 2] 40)) 1 (some ⟨w4.heap.size + 1, 0, none⟩) 1 1; replace hB := below_step hB b9; replace Q1 := Q1.step b9; replace X1 := X1.step b9; replace Q3 := Q3.step b9; clear b9; simp only [World.size_alloc] at X3; have c0 := X1.c0; have c1 := X1.c1; have d0 := X3.c0; have d1 := X3.c1)
    | (go_at_call 28; refine (aw_minus_call Q1 Q3).mono ?_; rintro e w5 hG; obtain ⟨A50, k50, c50, us, rfl, HP, -, HD, -, hb⟩ := gather_ok hG; have b9 := below_alloc w5 (.cells #[.int .i64 1, .slice A50 k50 c50] 24); replace hB := below_step (below_step hB hb) b9; replace HP := HP.step b9; have M5 := SetBox.new w5 1 A50 k50 c50; clear hG hb b9 X1 X3 Q1 Q3 c0 c1 d0 d1)
    | (go_at_call 38; have t1 := T5; clear T5 t1; refine (law_at 1 (-3) (by omega) _).mono ?_; rintro e w6 ⟨A5, rfl, I5, hb⟩; replace hB := below_step hB hb; replace HP := HP.step hb; replace M5 := M5.step hb; clear hb)
    | (go_at_call 38; have t1 := T6; clear T6 t1; refine (law_at (-1) 3 (by omega) _).mono ?_; rintro e w7 ⟨A6, rfl, I6, hb⟩; replace hB := below_step hB hb; replace HP := HP.step hb; replace M5 := M5.step hb; replace I5 := I5.step hb; clear hb; have C5 := conds_two (k := (-3)) (l := 3) I5 I6; have Q5 := pieces_single (p := ⟨some ⟨w7.heap.size, 0, none⟩, 2, 2, [atE A5 1 (-3), atE A6 (-1) 3]⟩) C5; rw [World.size_alloc] at Q5; clear C5 I5 I6; have b9 := below_step (below_alloc w7 (.cells #[.int .i64 0, .int .i64 0, .slice A5 1 1, .int .i64 (-3), .int .i64 0, .int .i64 0, .slice A6 1 1, .int .i64 3] 55)) (below_alloc (w7.alloc (.cells #[.int .i64 0, .int .i64 0, .slice A5 1 1, .int .i64 (-3), .int .i64 0, .int .i64 0, .slice A6 1 1, .int .i64 3] 55)) (.cells #[.slice (some ⟨w7.heap.size, 0, none⟩) 2 2] 40)); replace hB := below_step hB b9; replace HP := HP.step b9; replace M5 := M5.step b9; clear b9)
    | (go_at_call 32; refine (aw_norm_call Q5).mono ?_; rintro e w8 hG; obtain ⟨A80, k80, c80, vs, rfl, HN, -, HE, -, hb⟩ := gather_ok hG; have b9 := below_step hb (below_alloc w8 (.cells #[.int .i64 1, .slice A80 k80 c80] 24)); replace HN := HN.step (below_alloc w8 (.cells #[.int .i64 1, .slice A80 k80 c80] 24)); have M8 := SetBox.new w8 1 A80 k80 c80; replace hB := below_step hB b9; replace HP := HP.step b9; replace M5 := M5.step b9; clear hG hb b9 Q5))
  have I1 := one_row (w8.alloc (.cells #[.int .i64 1, .slice A80 k80 c80] 24)) 1 (by omega)
  have b1 := below_alloc (w8.alloc (.cells #[.int .i64 1, .slice A80 k80 c80] 24)) (.cells #[.int .i64 1] 3)
  have K7 := CBox.new ((w8.alloc (.cells #[.int .i64 1, .slice A80 k80 c80] 24)).alloc (.cells #[.int .i64 1] 3)) 1 0 (some ⟨w8.heap.size + 1, 0, none⟩) 1 1 (-3)
  have b2 := below_step b1 (below_alloc _ (.cells #[.int .i64 1, .int .i64 0, .slice (some ⟨w8.heap.size + 1, 0, none⟩) 1 1, .int .i64 (-3)] 55))
  have b3 := below_alloc ((w8.alloc (.cells #[.int .i64 1, .slice A80 k80 c80] 24)).alloc (.cells #[.int .i64 1] 3)) (.cells #[.int .i64 1, .int .i64 0, .slice (some ⟨w8.heap.size + 1, 0, none⟩) 1 1, .int .i64 (-3)] 55)
  replace HN := HN.step b2
  replace HP := HP.step b2
  replace M5 := M5.step b2
  replace M8 := M8.step b2
  replace I1 := I1.step b3
  replace hB := below_step hB b2
  simp only [World.size_alloc] at K7 I1
  clear b1 b2 b3
  generalize ((w8.alloc (.cells #[.int .i64 1, .slice A80 k80 c80] 24)).alloc (.cells #[.int .i64 1] 3)).alloc (.cells #[.int .i64 1, .int .i64 0, .slice (some ⟨w8.heap.size + 1, 0, none⟩) 1 1, .int .i64 (-3)] 55) = w9 at *
  have HD := Lib.hid HD
  have HE := Lib.hid HE
  generalize w5.heap.size = b5 at *
  generalize w8.heap.size = b8 at *
  have c0 := M5.c0
  have c1 := M5.c1
  have d0 := M8.c0
  have d1 := M8.c1
  have e0 := K7.c0
  have e1 := K7.c1
  have e2 := K7.c2
  have e3 := K7.c3
  go_region_held3 (fun W => W.cell? ⟨b5, 0, none⟩ = some (.int .i64 1) ∧ W.cell? ⟨b5, 1, none⟩ = some (.slice A50 k50 c50) ∧ W.cell? ⟨b8, 0, none⟩ = some (.int .i64 1) ∧ W.cell? ⟨b8, 1, none⟩ = some (.slice A80 k80 c80) ∧ W.cell? ⟨b8 + 1 + 1, 0, none⟩ = some (.int .i64 1) ∧ W.cell? ⟨b8 + 1 + 1, 1, none⟩ = some (.int .i64 0) ∧ W.cell? ⟨b8 + 1 + 1, 2, none⟩ = some (.slice (some ⟨b8 + 1, 0, none⟩) 1 1) ∧ W.cell? ⟨b8 + 1 + 1, 3, none⟩ = some (.int .i64 (-3))) (first | with_reducible exact ⟨c0, c1, d0, d1, e0, e1, e2, e3⟩ | go_keep)
    (first
      | (go_at_call 38; have t1 := T7; clear T7 t1; refine (law_at (-1) (5) (by omega) _).mono ?_; rintro e w10 ⟨A7, rfl, I7, hb⟩; have hx : Below w9.heap.size w9 w10 := (by first | exact hb | exact below_step (Below.refl _ w9).drew hb | exact below_step (below_alloc _ _) hb); replace HN := HN.step hx; replace HP := HP.step hx; replace M5 := M5.step hx; replace M8 := M8.step hx; replace K7 := K7.step hx; replace I1 := I1.step hx; replace hB := below_step hB hx; clear hb hx; clear c0 c1 d0 d1 e0 e1 e2 e3; have c0 := M5.c0; have c1 := M5.c1; have d0 := M8.c0; have d1 := M8.c1; have e0 := K7.c0; have e1 := K7.c1; have e2 := K7.c2; have e3 := K7.c3)
      | (go_at_call 38; have t1 := T8; clear T8 t1; refine (law_at (1) (-4) (by omega) _).mono ?_; rintro e w11 ⟨A8, rfl, I8, hb⟩; have hx : Below w10.heap.size w10 w11 := (by first | exact hb | exact below_step (Below.refl _ w10).drew hb | exact below_step (below_alloc _ _) hb); replace HN := HN.step hx; replace HP := HP.step hx; replace M5 := M5.step hx; replace M8 := M8.step hx; replace K7 := K7.step hx; replace I1 := I1.step hx; replace I7 := I7.step hx; replace hB := below_step hB hx; clear hb hx; clear c0 c1 d0 d1 e0 e1 e2 e3; have c0 := M5.c0; have c1 := M5.c1; have d0 := M8.c0; have d1 := M8.c1; have e0 := K7.c0; have e1 := K7.c1; have e2 := K7.c2; have e3 := K7.c3)
      | (go_at_call 38; have t1 := T9; clear T9 t1; refine (law_at (-1) (1) (by omega) _).mono ?_; rintro e w12 ⟨A9, rfl, I9, hb⟩; have hx : Below w11.heap.size w11 w12 := (by first | exact hb | exact below_step (Below.refl _ w11).drew hb | exact below_step (below_alloc _ _) hb); (try (have R9 : w12.heap[w11.heap.size]? = some (.cells (ccells [atE A7 (-1) 5, atE A8 1 (-4)]).toArray 55 (0, 0)) := (hb.block _ (by simp)).trans (heap_alloc_new w11 (.cells #[.int .i64 0, .int .i64 0, .slice A7 1 1, .int .i64 5, .int .i64 0, .int .i64 0, .slice A8 1 1, .int .i64 (-4)] 55)))); replace HN := HN.step hx; replace HP := HP.step hx; replace M5 := M5.step hx; replace M8 := M8.step hx; replace K7 := K7.step hx; replace I1 := I1.step hx; replace I7 := I7.step hx; replace I8 := I8.step hx; replace hB := below_step hB hx; clear hb hx; clear c0 c1 d0 d1 e0 e1 e2 e3; have c0 := M5.c0; have c1 := M5.c1; have d0 := M8.c0; have d1 := M8.c1; have e0 := K7.c0; have e1 := K7.c1; have e2 := K7.c2; have e3 := K7.c3)
      | (go_at_call 38; have t1 := T10; clear T10 t1; refine (law_at (1) (0) (by omega) _).mono ?_; rintro e w13 ⟨A10, rfl, I10, hb⟩; have hx : Below w12.heap.size w12 w13 := (by first | exact hb | exact below_step (Below.refl _ w12).drew hb | exact below_step (below_alloc _ _) hb); (try (replace R9 := (hx.block _ (Array.getElem?_eq_some_iff.1 R9).1).trans R9)); (try (have R10 : w13.heap[w12.heap.size]? = some (.cells (ccells [atE A7 (-1) 5, atE A8 1 (-4)]).toArray 55 (0, 0)) := (hb.block _ (by simp)).trans (heap_alloc_new w12 (.cells #[.int .i64 0, .int .i64 0, .slice A7 1 1, .int .i64 5, .int .i64 0, .int .i64 0, .slice A8 1 1, .int .i64 (-4)] 55)))); replace HN := HN.step hx; replace HP := HP.step hx; replace M5 := M5.step hx; replace M8 := M8.step hx; replace K7 := K7.step hx; replace I1 := I1.step hx; replace I7 := I7.step hx; replace I8 := I8.step hx; replace I9 := I9.step hx; replace hB := below_step hB hx; clear hb hx; clear c0 c1 d0 d1 e0 e1 e2 e3; have c0 := M5.c0; have c1 := M5.c1; have d0 := M8.c0; have d1 := M8.c1; have e0 := K7.c0; have e1 := K7.c1; have e2 := K7.c2; have e3 := K7.c3)
      | (go_at_call 36; have t1 := T11; clear T11 t1; (first | (refine (aw_core (HP.step (below_step (below_alloc _ _) (below_alloc _ _))) (aw_ga R9 I7 I8 I9 I10) HD.out).mono ?_; rintro e w14 ⟨rfl, hb⟩; have hx := below_step (below_step (below_alloc _ _) (below_alloc _ _)) hb) | (refine (aw_core (HP.step (below_step (below_alloc _ _) (below_alloc _ _))) (aw_ga R10 I7 I8 I9 I10) HD.out).mono ?_; rintro e w14 ⟨rfl, hb⟩; have hx := below_step (below_step (below_alloc _ _) (below_alloc _ _)) hb) | (refine (aw_core (HP.step (below_step (below_step (below_alloc _ _) (below_alloc _ _)) (below_alloc _ _))) (aw_gb I7 I8 I9 I10) HD.out).mono ?_; rintro e w14 ⟨rfl, hb⟩; have hx := below_step (below_step (below_step (below_alloc _ _) (below_alloc _ _)) (below_alloc _ _)) hb) | (refine (aw_core (HP.step (below_step (below_step (below_alloc _ _) (below_alloc _ _)) (below_alloc _ _))) (aw_gc I7 I8 I9 I10) HD.out).mono ?_; rintro e w14 ⟨rfl, hb⟩; have hx := below_step (below_step (below_step (below_alloc _ _) (below_alloc _ _)) (below_alloc _ _)) hb)); replace HN := HN.step hx; replace M5 := M5.step hx; replace M8 := M8.step hx; replace K7 := K7.step hx; replace I1 := I1.step hx; replace hB := below_step hB hx; clear hb hx; clear c0 c1 d0 d1 e0 e1 e2 e3; have c0 := M5.c0; have c1 := M5.c1; have d0 := M8.c0; have d1 := M8.c1; have e0 := K7.c0; have e1 := K7.c1; have e2 := K7.c2; have e3 := K7.c3)
      | (go_at_call 36; refine (aw_core (HN.step (below_step (below_alloc _ _) (below_alloc _ _))) (aw_gn I1) HE.out).mono ?_; rintro e w15 ⟨rfl, hb⟩; have hx := below_step (below_step (below_alloc _ _) (below_alloc _ _)) hb; replace M5 := M5.step hx; replace M8 := M8.step hx; replace K7 := K7.step hx; replace hB := below_step hB hx; clear hb hx; clear c0 c1 d0 d1 e0 e1 e2 e3; have c0 := M5.c0; have c1 := M5.c1; have d0 := M8.c0; have d1 := M8.c1; have e0 := K7.c0; have e1 := K7.c1; have e2 := K7.c2; have e3 := K7.c3))
  all_goals
    go_wp2
    go_ret
    exact ⟨rfl, hB⟩
end Go.Proofs.Ytkgnlloioaobiaa

/-
  Few of layer 4's laws.
-/
namespace Go.Proofs.Ytkgnlloioaobiaa
open Go.RowKit
set_option linter.unusedVariables false
set_option maxRecDepth 100000
set_option linter.unusedSimpArgs false

/-- A set as it lies in memory. -/
structure SEl where
  D : Int
  A : Option Addr
  n : Nat
  c : Nat
  ps : List PEl
/-- A list of sets that can be read. -/
structure SetsAt (w : World) (A : Option Addr) (m : Nat) (ss : List SEl) : Prop where
  len : ss.length = m
  small : m ≤ 4
  cells : 0 < m → ∃ b off, A = some ⟨b, off, none⟩ ∧ b < w.heap.size ∧ ∀ j s, ss[j]? = some s → w.cell? ⟨b, off + j * 2, none⟩ = some (.int .i64 s.D) ∧ w.cell? ⟨b, off + j * 2 + 1, none⟩ = some (.slice s.A s.n s.c)
  pieces : ∀ s ∈ ss, PiecesAt w s.A s.n s.ps
theorem SetsAt.step {w w' : World} {A : Option Addr} {m : Nat} {ss : List SEl} (h : SetsAt w A m ss) (hb : Below w.heap.size w w') : SetsAt w' A m ss :=
  ⟨h.len, h.small, fun hm => let ⟨b, off, hA, hlt, hc⟩ := h.cells hm; ⟨b, off, hA, Nat.lt_of_lt_of_le hlt hb.size, fun j s hs => ⟨(hb.cell (p := ⟨b, off + j * 2, none⟩) hlt).trans (hc j s hs).1, (hb.cell (p := ⟨b, off + j * 2 + 1, none⟩) hlt).trans (hc j s hs).2⟩⟩, fun s hs => (h.pieces s hs).step hb⟩
theorem SetsAt.at {w : World} {A : Option Addr} {m : Nat} {ss : List SEl} (h : SetsAt w A m ss) {j : Nat} (hj : j < m) : ∃ b off s, A = some ⟨b, off, none⟩ ∧ b < w.heap.size ∧ ss[j]? = some s ∧ s ∈ ss ∧ (w.cell? ⟨b, off + j * 2, none⟩ = some (.int .i64 s.D) ∧ w.cell? ⟨b, off + j * 2 + 1, none⟩ = some (.slice s.A s.n s.c)) ∧ PiecesAt w s.A s.n s.ps := by
  obtain ⟨b, off, hA, hlt, hc⟩ := h.cells (by omega)
  have hj' : j < ss.length := by rw [h.len]; exact hj
  exact ⟨b, off, ss[j], hA, hlt, List.getElem?_eq_getElem hj', List.getElem_mem hj', hc j _ (List.getElem?_eq_getElem hj'), h.pieces _ (List.getElem_mem hj')⟩

def fewP (C : Int) (ps : List PEl) : Bool := ps.all fun p => decide ((p.els.length : Int) ≤ C)
def fewC (C : Int) (ss : List SEl) : Bool := ss.all fun s => fewP C s.ps
def fewN : List SEl → Int
  | [] => 0
  | s :: ss => (s.ps.length : Int) + fewN ss
def fewB (P C : Int) (ss : List SEl) : Bool := fewC C ss && decide (fewN ss ≤ P)
theorem fewN_append : ∀ l l' : List SEl, fewN (l ++ l') = fewN l + fewN l'
  | [], l' => by simp [fewN]
  | s :: l, l' => by simp only [List.cons_append, fewN, fewN_append l l']; omega
theorem fewN_take {ss : List SEl} {i : Nat} {s : SEl} (h : ss[i]? = some s) : fewN (ss.take (i + 1)) = fewN (ss.take i) + (s.ps.length : Int) := by
  rw [List.take_add_one, h, Option.toList, fewN_append]
  simp [fewN]


set_option maxHeartbeats 4000000 in
theorem few (P C : Int) (A : Option Addr) (m c : Nat) (ss : List SEl) (w : World) (S0 : SetsAt w A m ss) :
    Calls Try.prog 10 #[.int .i64 P, .int .i64 C, .slice A m c] w fun e w' => e = .returned (.bool (fewB P C ss)) ∧ Below w.heap.size w w' := by
  have hsm := S0.small
  have HL := Lib.hid S0.len
  obtain ⟨er, her⟩ : ∃ er, fewB P C ss = er := ⟨_, rfl⟩
  rw [her]
  have HE := Lib.hid her
  clear her
  go_enter Try.func10, Try.ntmps10
  go_wp2
  go_loopw [7, 14] (fun u v wr => ∃ (i : Nat) (N : Int), i ≤ m ∧ v = .int .i64 i ∧ u = .int .i64 N ∧ (0 ≤ N ∧ N ≤ i * 17592186044416) ∧ (fewN (ss.take i) = N ∧ ∀ j x, j < i → ss[j]? = some x → fewP C x.ps = true) ∧ Below w.heap.size w wr) (fun _ v _ => m - (intOf v).toNat)
  case atStart => exact ⟨0, 0, Nat.zero_le _, rfl, rfl, by omega, ⟨rfl, fun j x h => absurd h (by omega)⟩, Below.refl _ _⟩
  case round =>
    obtain ⟨i, N, hi, rfl, rfl, ⟨hN0, hN1⟩, hgood, hbr⟩ := hrel
    have HG := Lib.hid hgood
    clear hgood
    by_cases hlt : i < m
    · obtain ⟨b, off, s, rfl, hblt, hsj, hmem, hcs, hP⟩ := (S0.step hbr).at hlt; obtain ⟨x0, x1⟩ := hcs; have HSJ := Lib.hid hsj; obtain ⟨sD, sA, sn, sc, sps⟩ := s; simp only at x0 x1 hP; have hq1 : (i : Int) < m := (by omega); have b5 := below_alloc wr (.cells #[.int .i64 sD, .slice sA sn sc] 24); have P1 := hP.step b5; have X1 := SetBox.new wr sD sA sn sc; have z1 := X1.c1; have hss := hP.small; have HPL := Lib.hid hP.len; have hbr1 := hbr.trans (b5.mono hbr.size); clear b5 hmem hsj hP
      have hw : wrap64 (N + (sn : Int)) = N + sn := IntWalk.wrap64_in _ (by omega)
      go_wp2
      generalize hw2 : wr.alloc (.cells #[.int .i64 sD, .slice sA sn sc] 24) = w2 at *
      clear hw2 z1 x0 x1
      go_loopw [26] (fun u wr => ∃ j : Nat, j ≤ sn ∧ u = .int .i64 j ∧ (∀ k x, k < j → sps[k]? = some x → decide ((x.els.length : Int) ≤ C) = true) ∧ Below w2.heap.size w2 wr) (fun u _ => sn - (intOf u).toNat)
      case atStart => exact ⟨0, Nat.zero_le _, rfl, (fun j x h => absurd h (by omega)), Below.refl _ _⟩
      case round =>
        obtain ⟨j, hj, rfl, hgood2, hbs⟩ := hrel
        have HG2 := Lib.hid hgood2
        clear hgood2
        by_cases hlt2 : j < sn
        · obtain ⟨b2, off2, p, rfl, hblt2, hpj, hmem, hcell, hCp⟩ := (P1.step hbs).at hlt2
          have HPJ := Lib.hid hpj
          obtain ⟨pA, pn, pc, pels⟩ := p
          simp only at hcell hCp
          have hq2 : (j : Int) < sn := by omega
          have HPE := Lib.hid hCp.len
          have hps := hCp.small
          clear hmem hpj hCp
          by_cases hC : C < (pn : Int)
          · have HR := Lib.hid (show er = false by
              rw [← HE.out]; unfold fewB fewC
              rw [all_not HSJ.out (show fewP C sps = false from all_not HPJ.out (decide_eq_false (by have := HPE.out; simp only; omega))), Bool.false_and])
            go_wp2
            go_ret
            exact ⟨ret_bool HR.out.symm, hbr1.trans (hbs.mono hbr1.size)⟩
          · go_wp2
            go_roundw
            case rel => exact ⟨j + 1, by omega, by go_num, (fun k x hk hkx => by
              rcases Nat.lt_or_eq_of_le (Nat.le_of_lt_succ hk) with h | rfl
              · exact HG2.out k x h hkx
              · rw [HPJ.out] at hkx; cases hkx; exact decide_eq_true (by have := HPE.out; simp only; omega)), hbs⟩
            case measure => simp [intOf]; omega
        · have hge : ¬ ((j : Int) < sn) := by omega
          have HF := Lib.hid (show fewP C sps = true from all_yes fun k x hk hkx => HG2.out k x (by have hk : k < sps.length := hk; have := HPL.out; omega) hkx)
          go_wp2
          go_roundw
          case rel => exact ⟨i + 1, N + sn, by omega, by go_num, by first | rfl | rw [hw], by omega, ⟨by rw [fewN_take HSJ.out, HG.out.1]; have := HPL.out; simp only; omega, fun k x hk hkx => by
            rcases Nat.lt_or_eq_of_le (Nat.le_of_lt_succ hk) with h | rfl
            · exact HG.out.2 k x h hkx
            · rw [HSJ.out] at hkx; cases hkx; exact HF.out⟩, hbr1.trans (hbs.mono hbr1.size)⟩
          case measure => simp [intOf]; omega
    · have hge : ¬ ((i : Int) < m) := by omega
      have HR := Lib.hid (show er = decide (N ≤ P) by
        rw [← HE.out]; unfold fewB fewC
        rw [all_yes fun j x hj => HG.out.2 j x (by have := HL.out; omega), Bool.true_and, ← HG.out.1, List.take_of_length_le (by have := HL.out; omega)])
      go_wp2
      go_ret
      exact ⟨ret_bool HR.out.symm, hbr⟩
end Go.Proofs.Ytkgnlloioaobiaa

/-
  The reference's Valid of sets.
-/
namespace Go.Proofs.Ytkgnlloioaobiaa
open Go.RowKit
set_option linter.unusedVariables false
set_option maxRecDepth 100000
set_option linter.unusedSimpArgs false

theorem piece_bad {D : Int} {els : List CEl} {i : Nat} {e : CEl} (he : els[i]? = some e) (h : e.ok = false ∨ (e.n : Int) ≠ D) : condsE D els ≠ 0 := by
  unfold condsE
  rcases h with h | h
  · rw [if_neg (by rw [all_not he h]; decide)]; decide
  · by_cases ho : els.all CEl.ok = true
    · rw [if_pos ho, if_neg (by rw [all_not (p := fun e : CEl => (e.n : Int) == D) he (by simpa using h)]; decide)]; decide
    · rw [if_neg ho]; decide
theorem piece_good {D : Int} {els : List CEl} (h : ∀ i e, i < els.length → els[i]? = some e → e.ok = true ∧ (e.n : Int) = D) : condsE D els = 0 := by
  unfold condsE
  rw [if_pos (all_yes fun i e hi he => (h i e hi he).1), if_pos (all_yes fun i e hi he => by simpa using (h i e hi he).2)]
theorem piece_len {D : Int} {p : PEl} (h : ¬ p.els.length ≤ 96) : pieceOk D p = false := by
  unfold pieceOk; rw [decide_eq_false h]; rfl
theorem piece_no {D : Int} {p : PEl} (h : condsE D p.els ≠ 0) : pieceOk D p = false := by
  unfold pieceOk; rw [decide_eq_false h, Bool.and_false]
theorem piece_yes {D : Int} {p : PEl} (h : p.els.length ≤ 96) (h0 : condsE D p.els = 0) : pieceOk D p = true := by
  unfold pieceOk; rw [decide_eq_true h, decide_eq_true h0]; rfl


set_option maxHeartbeats 4000000 in
theorem ref_svalid (D : Int) (A : Option Addr) (n c : Nat) (ps : List PEl) (w : World) (h : PiecesAt w A n ps) :
    Calls Try.prog 17 #[setV D A n c] w fun e w' => e = .returned (.bool (validS D ps)) ∧ Below w.heap.size w w' := by
  have hB := below_alloc w (.cells #[.int .i64 D, .slice A n c] 24)
  have P0 := h.step hB
  have B1 := SetBox.new w D A n c
  have c0 := B1.c0
  have c1 := B1.c1
  have hl := h.len
  have hsm := h.small
  by_cases hd : 0 ≤ D ∧ D ≤ 12 ∧ ps.length ≤ 400
  · have HE := Lib.hid (validS_in hd)
    obtain ⟨v, hv⟩ : ∃ v, validS D ps = v := ⟨_, rfl⟩
    rw [hv] at HE ⊢
    obtain ⟨hd0, hd1, hd2⟩ := hd
    have hn : (n : Int) ≤ 400 := by omega
    have q1 : ¬ (400 : Int) < (n : Int) := by omega
    have HL := Lib.hid hl
    clear hv h hd2 hl
    go_enter Try.func17, Try.ntmps17
    go_wp2
    generalize hw0 : w.alloc (.cells #[.int .i64 D, .slice A n c] 24) = w0 at *
    clear hw0 q1
    go_loopw [24] (fun u wr => ∃ i : Nat, i ≤ n ∧ u = .int .i64 i ∧ (∀ j x, j < i → ps[j]? = some x → pieceOk D x = true) ∧ Below w0.heap.size w0 wr) (fun u _ => n - (intOf u).toNat)
    case atStart => exact ⟨0, Nat.zero_le _, rfl, (fun j x h => absurd h (by omega)), Below.refl _ _⟩
    case round =>
      obtain ⟨i, hi, rfl, hgood, hbr⟩ := hrel
      have HG := Lib.hid hgood
      have B2 := B1.step hbr
      clear hgood c0 c1
      by_cases hlt : i < n
      · obtain ⟨b, off, p, rfl, hblt, hpj, hmem, hcell, hCp⟩ := (P0.step hbr).at hlt; have HPJ := Lib.hid hpj; obtain ⟨pA, pn, pc, pels⟩ := p; simp only at hcell hCp; have hq1 : (i : Int) < n := (by omega); have hps := hCp.small; have HPL := Lib.hid hCp.len; clear hmem hpj
        by_cases h96 : pn ≤ 96
        · have q96 : ¬ (96 : Int) < (pn : Int) := by omega
          have C1 := hCp
          go_wp2
          clear hcell q96 hblt
          generalize hw2 : wr = w2 at *
          clear hw2
          go_loopw [33] (fun u wr => ∃ j : Nat, j ≤ pn ∧ u = .int .i64 j ∧ (∀ k x, k < j → pels[k]? = some x → x.ok = true ∧ (x.n : Int) = D) ∧ Below w2.heap.size w2 wr) (fun u _ => pn - (intOf u).toNat)
          case atStart => exact ⟨0, Nat.zero_le _, rfl, (fun j x h => absurd h (by omega)), Below.refl _ _⟩
          case round =>
            obtain ⟨j, hj, rfl, hgood2, hbs⟩ := hrel
            have HG2 := Lib.hid hgood2
            clear hgood2
            by_cases hlt2 : j < pn
            · obtain ⟨b2, off2, e, rfl, hblt2, hej, hmem, hcs, hin⟩ := (C1.step hbs).at hlt2; obtain ⟨x0, x1, x2, x3⟩ := hcs; have HEJ := Lib.hid hej; obtain ⟨eq, eM, eA, en, ec, eK, exs⟩ := e; simp only at x0 x1 x2 x3 hin; have hq2 : (j : Int) < pn := (by omega); have b5 := below_alloc wr (.cells #[.int .i64 eq, .int .i64 eM, .slice eA en ec, .int .i64 eK] 55); have y1 := hin.step b5; have X1 := CBox.new wr eq eM eA en ec eK; have B3 := (B2.step hbs).step b5; have hbr1 := hbs.trans (b5.mono hbs.size); clear b5 hmem hej hin hbs
              cases hcv : validC eq eM exs eK
              · have HV := Lib.hid hcv
                have HR := Lib.hid (show v = false by rw [HE.out, all_not HPJ.out (piece_no (piece_bad HEJ.out (.inl hcv)))])
                clear hcv
                go_wp2_with (go_at_call 40; refine (ref_cvalid _ _ _ _ _ _ exs _ y1).mono ?_; rintro e w1 ⟨rfl, hb⟩; rw [HV.out]; replace hbr1 := hbr1.trans (hb.mono hbr1.size))
                go_ret
                exact ⟨ret_bool HR.out.symm, below_step hB (hbr.trans (hbr1.mono hbr.size))⟩
              · have HV := Lib.hid hcv
                by_cases hnD : (en : Int) = D
                · have HN := Lib.hid hnD
                  have q1 : ((en : Int) != D) = false := by simpa using hnD
                  have q2 : ((en : Int) == D) = true := by simpa using hnD
                  clear hcv hnD
                  go_wp2_with (go_at_call 40; refine (ref_cvalid _ _ _ _ _ _ exs _ y1).mono ?_; rintro e w1 ⟨rfl, hb⟩; rw [HV.out]; replace hbr1 := hbr1.trans (hb.mono hbr1.size); have z2 := (X1.step hb).c2; have c0 := (B3.step hb).c0)
                  go_roundw
                  case rel => exact ⟨j + 1, by omega, by go_num, (fun k x hk hkx => by
                    rcases Nat.lt_or_eq_of_le (Nat.le_of_lt_succ hk) with h | rfl
                    · exact HG2.out k x h hkx
                    · rw [HEJ.out] at hkx; cases hkx; exact ⟨HV.out, HN.out⟩), hbr1⟩
                  case measure => simp [intOf]; omega
                · have HR := Lib.hid (show v = false by rw [HE.out, all_not HPJ.out (piece_no (piece_bad HEJ.out (.inr hnD)))])
                  have q1 : ((en : Int) != D) = true := by simpa using hnD
                  have q2 : ((en : Int) == D) = false := by simpa using hnD
                  clear hcv hnD
                  go_wp2_with (go_at_call 40; refine (ref_cvalid _ _ _ _ _ _ exs _ y1).mono ?_; rintro e w1 ⟨rfl, hb⟩; rw [HV.out]; replace hbr1 := hbr1.trans (hb.mono hbr1.size); have z2 := (X1.step hb).c2; have c0 := (B3.step hb).c0)
                  go_ret
                  exact ⟨ret_bool HR.out.symm, below_step hB (hbr.trans (hbr1.mono hbr.size))⟩
            · have hge : ¬ ((j : Int) < pn) := by omega
              have HP := Lib.hid (show pieceOk D ⟨pA, pn, pc, pels⟩ = true from piece_yes (by have := HPL.out; simp only; omega) (piece_good fun k x hk hkx => HG2.out k x (by have hk : k < pels.length := hk; have := HPL.out; omega) hkx))
              go_wp2
              go_roundw
              case rel => exact ⟨i + 1, by omega, by go_num, (fun k x hk hkx => by
                rcases Nat.lt_or_eq_of_le (Nat.le_of_lt_succ hk) with h | rfl
                · exact HG.out k x h hkx
                · rw [HPJ.out] at hkx; cases hkx; exact HP.out), hbr.trans (hbs.mono hbr.size)⟩
              case measure => simp [intOf]; omega
        · have HV := Lib.hid (show v = false by rw [HE.out, all_not HPJ.out (piece_len (by have := HPL.out; simp only; omega))])
          have q96 : (96 : Int) < (pn : Int) := by omega
          go_wp2
          go_ret
          exact ⟨ret_bool HV.out.symm, below_step hB hbr⟩
      · have hge : ¬ ((i : Int) < n) := by omega
        have HV := Lib.hid (show v = true by rw [HE.out]; exact all_yes fun j x hj => HG.out j x (by have := HL.out; omega))
        go_wp2
        go_ret
        exact ⟨ret_bool HV.out.symm, below_step hB hbr⟩
  · have HE := Lib.hid (validS_out hd)
    rw [hl] at hd
    rcases (show D < 0 ∨ (0 ≤ D ∧ 12 < D) ∨ (0 ≤ D ∧ D ≤ 12 ∧ 400 < n) by omega) with h0 | ⟨h0, h1⟩ | ⟨h0, h1, h2⟩
    · clear hd
      go_enter Try.func17, Try.ntmps17
      go_wp2
      go_ret
      exact ⟨ret_bool HE.out.symm, hB⟩
    · clear hd
      go_enter Try.func17, Try.ntmps17
      go_wp2
      go_ret
      exact ⟨ret_bool HE.out.symm, hB⟩
    · have h3 : (400 : Int) < (n : Int) := by omega
      clear hd
      go_enter Try.func17, Try.ntmps17
      go_wp2
      go_ret
      exact ⟨ret_bool HE.out.symm, hB⟩
end Go.Proofs.Ytkgnlloioaobiaa

/-
  What the laws of layer 4 share: rows of sets, Few at one set and at two.
-/
namespace Go.Proofs.Ytkgnlloioaobiaa
open Go.RowKit
set_option linter.unusedVariables false
set_option linter.unusedSimpArgs false
set_option maxRecDepth 100000

theorem sets_one {w : World} {D : Int} {A : Option Addr} {n c : Nat} {ps : List PEl} (h : PiecesAt w A n ps) : SetsAt (w.alloc (.cells #[.int .i64 D, .slice A n c] 24)) (some ⟨w.heap.size, 0, none⟩) 1 [⟨D, A, n, c, ps⟩] := by
  have X := SetBox.new w D A n c
  refine ⟨rfl, by omega, fun _ => ⟨w.heap.size, 0, rfl, X.lt, fun j s hs => ?_⟩, fun s hs => ?_⟩
  · match j, hs with
    | 0, hs =>
      simp at hs
      subst hs
      exact ⟨X.c0, X.c1⟩
    | j + 1, hs => simp at hs
  · rw [List.mem_singleton.1 hs]
    exact h.step (below_alloc w _)
theorem sets_two {w : World} {D : Int} {A : Option Addr} {n c : Nat} {ps : List PEl} {D' : Int} {A' : Option Addr} {n' c' : Nat} {ps' : List PEl} (h : PiecesAt w A n ps) (h' : PiecesAt w A' n' ps') : SetsAt (w.alloc (.cells #[.int .i64 D, .slice A n c, .int .i64 D', .slice A' n' c'] 24)) (some ⟨w.heap.size, 0, none⟩) 2 [⟨D, A, n, c, ps⟩, ⟨D', A', n', c', ps'⟩] := by
  have hg := heap_alloc_new w (.cells #[.int .i64 D, .slice A n c, .int .i64 D', .slice A' n' c'] 24)
  have key : ∀ (k : Nat) (v : Value), #[Value.int .i64 D, .slice A n c, .int .i64 D', .slice A' n' c'][k]? = some v → (w.alloc (.cells #[.int .i64 D, .slice A n c, .int .i64 D', .slice A' n' c'] 24)).cell? ⟨w.heap.size, k, none⟩ = some v := fun k v hv => by rw [cell_of_row _ _ k _ _ (0, 0) hg]; exact hv
  refine ⟨rfl, by omega, fun _ => ⟨w.heap.size, 0, rfl, by simp, fun j s hs => ?_⟩, fun s hs => ?_⟩
  · match j, hs with
    | 0, hs =>
      simp at hs
      subst hs
      exact ⟨key 0 _ rfl, key 1 _ rfl⟩
    | 1, hs =>
      simp at hs
      subst hs
      exact ⟨key 2 _ rfl, key 3 _ rfl⟩
    | j + 2, hs => simp at hs
  · rcases List.mem_cons.1 hs with rfl | hs
    · exact h.step (below_alloc w _)
    · rw [List.mem_singleton.1 hs]
      exact h'.step (below_alloc w _)
theorem few_one {w : World} {P C : Int} {D : Int} {A : Option Addr} {n c : Nat} {ps : List PEl} (g c1 : Nat) (hg : w.heap.size = g) (h : PiecesAt w A n ps) :
    Calls Try.prog 10 #[.int .i64 P, .int .i64 C, .slice (some ⟨g, 0, none⟩) 1 c1] (w.alloc (.cells #[.int .i64 D, .slice A n c] 24)) fun e w' => e = .returned (.bool (fewB P C [⟨D, A, n, c, ps⟩])) ∧ Below w.heap.size w w' := by
  subst hg
  refine (few P C _ 1 c1 _ _ (sets_one h)).mono ?_
  rintro e w' ⟨he, hb⟩
  exact ⟨he, below_step (below_alloc w _) hb⟩
theorem few_two {w : World} {P C : Int} {D : Int} {A : Option Addr} {n c : Nat} {ps : List PEl} {D' : Int} {A' : Option Addr} {n' c' : Nat} {ps' : List PEl} (g c1 : Nat) (hg : w.heap.size = g) (h : PiecesAt w A n ps) (h' : PiecesAt w A' n' ps') :
    Calls Try.prog 10 #[.int .i64 P, .int .i64 C, .slice (some ⟨g, 0, none⟩) 2 c1] (w.alloc (.cells #[.int .i64 D, .slice A n c, .int .i64 D', .slice A' n' c'] 24)) fun e w' => e = .returned (.bool (fewB P C [⟨D, A, n, c, ps⟩, ⟨D', A', n', c', ps'⟩])) ∧ Below w.heap.size w w' := by
  subst hg
  refine (few P C _ 2 c1 _ _ (sets_two h h')).mono ?_
  rintro e w' ⟨he, hb⟩
  exact ⟨he, below_step (below_alloc w _) hb⟩
end Go.Proofs.Ytkgnlloioaobiaa

/-
  Has, of the reference.
-/
namespace Go.Proofs.Ytkgnlloioaobiaa
open Go.RowKit
set_option linter.unusedVariables false
set_option maxRecDepth 100000
set_option linter.unusedSimpArgs false

/-- Do all conditions hold at xs? -/
noncomputable def hasP (xs : List Int) (els : List CEl) : Bool := els.all fun e => hVal e.q e.M e.xs e.K xs
/-- Is xs in one of the pieces? -/
noncomputable def hasS (xs : List Int) (ps : List PEl) : Bool := ps.any fun p => hasP xs p.els
noncomputable def sErr (D : Int) (ps : List PEl) (xs : List Int) : Int := if validS D ps = true then (if (xs.length : Int) = D then (if pointB xs = true then 0 else 6) else 2) else 1
noncomputable def sVal (D : Int) (ps : List PEl) (xs : List Int) : Bool := if sErr D ps xs = 0 then hasS xs ps else false

section
variable {D : Int} {ps : List PEl} {xs : List Int}
theorem sv_inv (h : validS D ps = false) : sVal D ps xs = false ∧ sErr D ps xs = 1 := by
  have e : sErr D ps xs = 1 := by unfold sErr; rw [h]; rfl
  exact ⟨by unfold sVal; rw [e]; rfl, e⟩
theorem sv_dim (h : validS D ps = true) (hl : (xs.length : Int) ≠ D) : sVal D ps xs = false ∧ sErr D ps xs = 2 := by
  have e : sErr D ps xs = 2 := by unfold sErr; rw [if_pos h, if_neg hl]
  exact ⟨by unfold sVal; rw [e]; rfl, e⟩
theorem sv_range (h : validS D ps = true) (hl : (xs.length : Int) = D) (hp : pointB xs = false) : sVal D ps xs = false ∧ sErr D ps xs = 6 := by
  have e : sErr D ps xs = 6 := by unfold sErr; rw [if_pos h, if_pos hl, hp]; rfl
  exact ⟨by unfold sVal; rw [e]; rfl, e⟩
theorem sv_ok (h : validS D ps = true) (hl : (xs.length : Int) = D) (hp : pointB xs = true) : sVal D ps xs = hasS xs ps ∧ sErr D ps xs = 0 := by
  have e : sErr D ps xs = 0 := by unfold sErr; rw [if_pos h, if_pos hl, if_pos hp]
  exact ⟨by unfold sVal; rw [e, if_pos rfl], e⟩
end
theorem any_yes {α : Type} {p : α → Bool} {l : List α} {i : Nat} {x : α} (h : l[i]? = some x) (hp : p x = true) : l.any p = true := by
  obtain ⟨hi, e⟩ := List.getElem?_eq_some_iff.1 h
  rw [List.any_eq_true]
  exact ⟨x, e ▸ List.getElem_mem hi, hp⟩
theorem any_not {α : Type} {p : α → Bool} {l : List α} (h : ∀ j x, j < l.length → l[j]? = some x → p x = false) : l.any p = false := by
  rw [Bool.eq_false_iff]
  intro ha
  rw [List.any_eq_true] at ha
  obtain ⟨x, hx, hp⟩ := ha
  obtain ⟨j, hj, rfl⟩ := List.getElem_of_mem hx
  rw [h j _ hj (List.getElem?_eq_getElem hj)] at hp
  cases hp
theorem conds_elim {D : Int} {els : List CEl} (h : condsE D els = 0) : ∀ e ∈ els, e.ok = true ∧ (e.n : Int) = D := by
  unfold condsE at h
  split at h
  · rename_i h1
    split at h
    · rename_i h2
      intro e he
      exact ⟨(List.all_eq_true.1 h1) e he, by simpa using (List.all_eq_true.1 h2) e he⟩
    · cases h
  · cases h
theorem valid_elim {D : Int} {ps : List PEl} (h : validS D ps = true) : (0 ≤ D ∧ D ≤ 12 ∧ ps.length ≤ 400) ∧ ∀ p ∈ ps, p.els.length ≤ 96 ∧ condsE D p.els = 0 := by
  unfold validS at h
  rw [Bool.and_eq_true] at h
  refine ⟨of_decide_eq_true h.1, fun p hp => ?_⟩
  have h2 := (List.all_eq_true.1 h.2) p hp
  unfold pieceOk at h2
  rw [Bool.and_eq_true] at h2
  exact ⟨of_decide_eq_true h2.1, of_decide_eq_true h2.2⟩
theorem has_cond {q M K : Int} {xs ps : List Int} (hv : validC q M xs K = true) (hl : xs.length = ps.length) (hp : pointB ps = true) :
    holdB q M (K + dotSum xs ps xs.length) = hVal q M xs K ps ∧ fitsB K = true ∧ xs.length ≤ 12 ∧ (∀ j, j < xs.length → goodAt xs ps j) ∧ ((q = 0 ∧ M = 0) ∨ (q = 1 ∧ M = 0) ∨ (q = 2 ∧ 1 ≤ M ∧ M ≤ 512)) := by
  obtain ⟨hvB, hk⟩ := validC_kind hv
  have hd : dotErr xs ps = 0 := by
    rcases dot_cases (ps := ps) hvB with ⟨h, _⟩ | ⟨_, h, _⟩ | ⟨_, _, h⟩
    · exact absurd hl h
    · rw [hp] at h; cases h
    · exact h
  have e0 : atErr xs K ps = 0 := by unfold atErr; rw [if_pos hvB, hd]
  have hz := dotErr_zero.1 hd
  refine ⟨?_, (validB_true.1 hvB).2.1, hz.2.1, hz.2.2, hk⟩
  rw [(h_ok hv e0).1]
  unfold atVal
  rw [if_pos e0]


set_option maxHeartbeats 4000000 in
theorem ref_in (A : Option Addr) (m c : Nat) (els : List CEl) (A' : Option Addr) (n c' : Nat) (xs : List Int) (w : World) (C0 : CondsAt w A m els) (I2 : IntsAt w A' n xs) (hp : pointB xs = true) (hc : condsE n els = 0) :
    Calls Try.prog 30 #[.slice A m c, .slice A' n c'] w fun e w' => e = .returned (.bool (hasP xs els)) ∧ Below w.heap.size w w' := by
  have hsm := C0.small
  have HL := Lib.hid C0.len
  have HL2 := Lib.hid I2.len
  have HP := Lib.hid hp
  have HC := Lib.hid hc
  obtain ⟨er, her⟩ : ∃ er, hasP xs els = er := ⟨_, rfl⟩
  rw [her]
  have HE := Lib.hid her
  clear her hp hc
  go_enter Try.func30, Try.ntmps30
  go_wp2
  go_loopw [9] (fun v wr => ∃ i : Nat, i ≤ m ∧ v = .int .i64 i ∧ (∀ j x, j < i → els[j]? = some x → hVal x.q x.M x.xs x.K xs = true) ∧ Below w.heap.size w wr) (fun v _ => m - (intOf v).toNat)
  case atStart => exact ⟨0, Nat.zero_le _, rfl, (fun j x h => absurd h (by omega)), Below.refl _ _⟩
  case round =>
    obtain ⟨i, hi, rfl, hgood, hbr⟩ := hrel
    have HG := Lib.hid hgood
    clear hgood
    by_cases hlt : i < m
    · obtain ⟨b, off, e, rfl, hblt, hej, hmem, hcs, hin⟩ := (C0.step hbr).at hlt; obtain ⟨x0, x1, x2, x3⟩ := hcs; have HEJ := Lib.hid hej; have hgd := conds_elim HC.out e hmem; obtain ⟨eq, eM, eA, en, ec, eK, exs⟩ := e; simp only at x0 x1 x2 x3 hin hgd; have hq1 : (i : Int) < m := (by omega); have b5 := below_alloc wr (.cells #[.int .i64 eq, .int .i64 eM, .slice eA en ec, .int .i64 eK] 55); have y1 := hin.step b5; have X1 := CBox.new wr eq eM eA en ec eK; have y2 := (I2.step hbr).step b5; have hbr1 := hbr.trans (b5.mono hbr.size)
      have hnn : en = n := by have := hgd.2; omega
      have hlx : exs.length = en := hin.len
      obtain ⟨hh, hk, h12, hgo, hkd⟩ := has_cond (show validC eq eM exs eK = true from hgd.1) (show exs.length = xs.length by have := HL2.out; omega) HP.out
      rw [hlx] at hh h12 hgo
      have HH := Lib.hid hh
      have HK := Lib.hid hk
      have H12 := Lib.hid h12
      have HGO := Lib.hid hgo
      have HKD := Lib.hid hkd
      have HNN := Lib.hid (Nat.le_of_eq hnn)
      clear hh hk h12 hgo hkd hgd hnn hlx b5 hmem hej hin
      cases hv : hVal eq eM exs eK xs
      · have HV := Lib.hid hv
        have HR := Lib.hid (show er = false by rw [← HE.out]; unfold hasP; rw [all_not HEJ.out hv])
        clear hv
        go_wp2_with (go_at_call 37; refine (ref_is _ _ _ _ _ _ exs _ _ _ xs _ y1 y2 HK.out H12.out HNN.out HGO.out HKD.out).mono ?_; rintro e w1 ⟨rfl, hb⟩; rw [HH.out, HV.out]; replace hbr1 := hbr1.trans (hb.mono hbr1.size))
        go_ret
        exact ⟨ret_bool HR.out.symm, hbr1⟩
      · have HV := Lib.hid hv
        clear hv
        go_wp2_with (go_at_call 37; refine (ref_is _ _ _ _ _ _ exs _ _ _ xs _ y1 y2 HK.out H12.out HNN.out HGO.out HKD.out).mono ?_; rintro e w1 ⟨rfl, hb⟩; rw [HH.out, HV.out]; replace hbr1 := hbr1.trans (hb.mono hbr1.size))
        go_roundw
        case rel => exact ⟨i + 1, by omega, by go_num, (fun j x hj hjx => by
          rcases Nat.lt_or_eq_of_le (Nat.le_of_lt_succ hj) with h | rfl
          · exact HG.out j x h hjx
          · rw [HEJ.out] at hjx; cases hjx; exact HV.out), hbr1⟩
        case measure => simp [intOf]; omega
    · have hge : ¬ ((i : Int) < m) := by omega
      have HR := Lib.hid (show er = true by rw [← HE.out]; unfold hasP; rw [all_yes fun j x hj => HG.out j x (by have := HL.out; omega)])
      go_wp2
      go_ret
      exact ⟨ret_bool HR.out.symm, hbr⟩


set_option maxHeartbeats 4000000 in
theorem ref_sis (D : Int) (A : Option Addr) (n c : Nat) (ps : List PEl) (A' : Option Addr) (k c' : Nat) (xs : List Int) (w : World) (h : PiecesAt w A n ps) (hI : IntsAt w A' k xs) (hp : pointB xs = true) (hc : ∀ p ∈ ps, condsE k p.els = 0) :
    Calls Try.prog 29 #[setV D A n c, .slice A' k c'] w fun e w' => e = .returned (.bool (hasS xs ps)) ∧ Below w.heap.size w w' := by
  have hB := below_alloc w (.cells #[.int .i64 D, .slice A n c] 24)
  have P0 := h.step hB
  have I2 := hI.step hB
  have B1 := SetBox.new w D A n c
  have c1 := B1.c1
  have hsm := h.small
  have HL := Lib.hid h.len
  have HP := Lib.hid hp
  have HC := Lib.hid hc
  obtain ⟨er, her⟩ : ∃ er, hasS xs ps = er := ⟨_, rfl⟩
  rw [her]
  have HE := Lib.hid her
  clear her hp hc h hI
  go_enter Try.func29, Try.ntmps29
  go_wp2
  generalize hw0 : w.alloc (.cells #[.int .i64 D, .slice A n c] 24) = w0 at *
  clear hw0 c1
  go_loopw [10] (fun u wr => ∃ i : Nat, i ≤ n ∧ u = .int .i64 i ∧ (∀ j x, j < i → ps[j]? = some x → hasP xs x.els = false) ∧ Below w0.heap.size w0 wr) (fun u _ => n - (intOf u).toNat)
  case atStart => exact ⟨0, Nat.zero_le _, rfl, (fun j x h => absurd h (by omega)), Below.refl _ _⟩
  case round =>
    obtain ⟨i, hi, rfl, hgood, hbr⟩ := hrel
    have HG := Lib.hid hgood
    clear hgood
    by_cases hlt : i < n
    · obtain ⟨b, off, p, rfl, hblt, hpj, hmem, hcell, hCp⟩ := (P0.step hbr).at hlt; have HPJ := Lib.hid hpj; have hcp := HC.out p hmem; obtain ⟨pA, pn, pc, pels⟩ := p; simp only at hcell hCp hcp; have HCP := Lib.hid hcp; have hq1 : (i : Int) < n := (by omega); have y2 := I2.step hbr; clear hmem hpj hcp
      have HHB := Lib.hid hbr
      cases hv : hasP xs pels
      · have HV := Lib.hid hv
        clear hv
        go_wp2_with (go_at_call 30; refine (ref_in _ _ _ pels _ _ _ xs _ hCp y2 HP.out HCP.out).mono ?_; rintro e w1 ⟨rfl, hb⟩; rw [HV.out]; replace hbr := hbr.trans (hb.mono hbr.size))
        go_roundw
        case rel => exact ⟨i + 1, by omega, by go_num, (fun j x hj hjx => by
          rcases Nat.lt_or_eq_of_le (Nat.le_of_lt_succ hj) with h | rfl
          · exact HG.out j x h hjx
          · rw [HPJ.out] at hjx; cases hjx; exact HV.out), hbr⟩
        case measure => simp [intOf]; omega
      · have HV := Lib.hid hv
        have HR := Lib.hid (show er = true by rw [← HE.out]; unfold hasS; rw [any_yes HPJ.out hv])
        clear hv
        go_wp2_with (go_at_call 30; refine (ref_in _ _ _ pels _ _ _ xs _ hCp y2 HP.out HCP.out).mono ?_; rintro e w1 ⟨rfl, hb⟩; rw [HV.out]; replace hbr := hbr.trans (hb.mono hbr.size))
        go_ret
        exact ⟨ret_bool HR.out.symm, below_step hB hbr⟩
    · have hge : ¬ ((i : Int) < n) := by omega
      have HR := Lib.hid (show er = false by rw [← HE.out]; unfold hasS; rw [any_not fun j x hj => HG.out j x (by have := HL.out; omega)])
      go_wp2
      go_ret
      exact ⟨ret_bool HR.out.symm, below_step hB hbr⟩
end Go.Proofs.Ytkgnlloioaobiaa

/-
  Has, both.
-/
namespace Go.Proofs.Ytkgnlloioaobiaa
open Go.RowKit
set_option linter.unusedVariables false
set_option maxRecDepth 100000
set_option linter.unusedSimpArgs false

set_option maxHeartbeats 4000000 in
theorem ref_shas (D : Int) (A : Option Addr) (n c : Nat) (ps : List PEl) (A' : Option Addr) (k c' : Nat) (xs : List Int) (w : World) (h : PiecesAt w A n ps) (hI : IntsAt w A' k xs) :
    Calls Try.prog 20 #[setV D A n c, .slice A' k c'] w fun e w' => e = .returned (.tuple #[.bool (sVal D ps xs), .int .i64 (sErr D ps xs)]) ∧ Below w.heap.size w w' := by
  have hB := below_alloc w (.cells #[.int .i64 D, .slice A n c] 24)
  have P0 := h.step hB
  have I2 := hI.step hB
  have B1 := SetBox.new w D A n c
  have c0 := B1.c0
  have c1 := B1.c1
  have hl := hI.len
  have hsm := hI.small
  clear h hI
  cases hv : validS D ps
  · have HE := Lib.hid (sv_inv (xs := xs) hv)
    have HV := Lib.hid hv
    clear hv hl
    go_enter Try.func20, Try.ntmps20
    go_wp2_with (go_at_call 17; refine (ref_svalid _ _ _ _ ps _ P0).mono ?_; rintro e w1 ⟨rfl, hb⟩; rw [HV.out]; replace hB := below_step hB hb)
    go_ret2
    exact ⟨retB HE.out.1.symm HE.out.2.symm, hB⟩
  · have HV := Lib.hid hv
    by_cases hd : (k : Int) = D
    · have hd2 : (xs.length : Int) = D := by omega
      subst hd
      cases hp : pointB xs
      · have HE := Lib.hid (sv_range hv hd2 hp)
        have HP := Lib.hid hp
        clear hv hl hp hd2
        go_enter Try.func20, Try.ntmps20
        go_wp2_with (first
          | (go_at_call 17; refine (ref_svalid _ _ _ _ ps _ P0).mono ?_; rintro e w1 ⟨rfl, hb⟩; rw [HV.out]; replace hB := below_step hB hb; replace I2 := I2.step hb; replace B1 := B1.step hb; have c0 := B1.c0; have c1 := B1.c1)
          | (go_at_call 43; refine (ref_point _ _ _ xs _ I2).mono ?_; rintro e w' ⟨rfl, rfl⟩; rw [HP.out]))
        go_ret2
        exact ⟨retB HE.out.1.symm HE.out.2.symm, hB⟩
      · have HE := Lib.hid (sv_ok hv hd2 hp)
        have HP := Lib.hid hp
        have HC := Lib.hid (fun p (hp : p ∈ ps) => ((valid_elim hv).2 p hp).2)
        clear hv hl hp hd2
        go_enter Try.func20, Try.ntmps20
        go_wp2_with (first
          | (go_at_call 17; refine (ref_svalid _ _ _ _ ps _ P0).mono ?_; rintro e w1 ⟨rfl, hb⟩; rw [HV.out]; replace hB := below_step hB hb; replace P0 := P0.step hb; replace I2 := I2.step hb; replace B1 := B1.step hb; have c0 := B1.c0; have c1 := B1.c1)
          | (go_at_call 43; refine (ref_point _ _ _ xs _ I2).mono ?_; rintro e w' ⟨rfl, rfl⟩; rw [HP.out])
          | (go_at_call 29; refine (ref_sis _ _ _ _ ps _ _ _ xs _ P0 I2 HP.out HC.out).mono ?_; rintro e w1 ⟨rfl, hb⟩; replace hB := below_step hB hb))
        go_ret2
        exact ⟨retB HE.out.1.symm HE.out.2.symm, hB⟩
    · have hd2 : ¬ (xs.length : Int) = D := by omega
      have HE := Lib.hid (sv_dim hv hd2)
      have q1 : ((k : Int) != D) = true := by simpa using hd
      have q2 : ((k : Int) == D) = false := by simpa using hd
      clear hv hl hd hd2
      go_enter Try.func20, Try.ntmps20
      go_wp2_with (go_at_call 17; refine (ref_svalid _ _ _ _ ps _ P0).mono ?_; rintro e w1 ⟨rfl, hb⟩; rw [HV.out]; replace hB := below_step hB hb; replace B1 := B1.step hb; have c0 := B1.c0; have c1 := B1.c1)
      go_ret2
      exact ⟨retB HE.out.1.symm HE.out.2.symm, hB⟩

theorem set_coord (x : Int) (w : World) : Calls Try.prog 41 #[.int .i64 x] w fun e w' => e = .returned (.bool (coordB x)) ∧ w = w' := by
  have HB : coordB x = true ↔ _ := coordB_true
  rcases (show x < -4294967296 ∨ 4294967296 < x ∨ (-4294967296 ≤ x ∧ x ≤ 4294967296) by omega) with h | h | ⟨h, h'⟩
  · have HE := Lib.hid (show coordB x = false by rw [Bool.eq_false_iff]; intro hc; have := HB.1 hc; omega)
    have h1 : ¬ (-4294967296 ≤ x) := by omega
    clear HB
    go_enter Try.func41, Try.ntmps41
    go_wp2
    go_ret
    exact ⟨ret_bool HE.out.symm, rfl⟩
  · have HE := Lib.hid (show coordB x = false by rw [Bool.eq_false_iff]; intro hc; have := HB.1 hc; omega)
    have h1 : (-4294967296 ≤ x) := by omega
    have h2 : ¬ (x ≤ 4294967296) := by omega
    clear HB
    go_enter Try.func41, Try.ntmps41
    go_wp2
    go_ret
    exact ⟨ret_bool HE.out.symm, rfl⟩
  · have HE := Lib.hid (show coordB x = true from HB.2 ⟨h, h'⟩)
    clear HB
    go_enter Try.func41, Try.ntmps41
    go_wp2
    go_ret
    exact ⟨ret_bool HE.out.symm, rfl⟩

set_option maxHeartbeats 4000000 in
theorem set_has (D : Int) (A : Option Addr) (n c : Nat) (ps : List PEl) (A' : Option Addr) (k c' : Nat) (xs : List Int) (w : World) (h : PiecesAt w A n ps) (hI : IntsAt w A' k xs) :
    Calls Try.prog 19 #[setV D A n c, .slice A' k c'] w fun e w' => e = .returned (.tuple #[.bool (sVal D ps xs), .int .i64 (sErr D ps xs)]) ∧ Below w.heap.size w w' := by
  have hB := below_alloc w (.cells #[.int .i64 D, .slice A n c] 24)
  have P0 := h.step hB
  have I2 := hI.step hB
  have B1 := SetBox.new w D A n c
  have c0 := B1.c0
  have c1 := B1.c1
  have hl := hI.len
  have hsm := hI.small
  have hsm2 := h.small
  have HLn := Lib.hid h.len
  clear h hI
  cases hv : validS D ps
  · have HE := Lib.hid (sv_inv (xs := xs) hv)
    have HV := Lib.hid hv
    clear hv hl
    go_enter Try.func19, Try.ntmps19
    go_wp2
    go_step3
    go_wp2_with (go_at_call 16; refine (set_valid _ _ _ _ ps _ P0).mono ?_; rintro e w1 ⟨rfl, hb⟩; rw [HV.out]; replace hB := below_step hB hb)
    try rw [Exit.noGoto_ret]
    go_ret2
    exact ⟨retB HE.out.1.symm HE.out.2.symm, hB⟩
  · have HV := Lib.hid hv
    by_cases hd : (k : Int) = D
    · have hd2 : (xs.length : Int) = D := by omega
      have HS6 := Lib.hid (fun h : pointB xs = false => sv_range hv hd2 h)
      have HS0 := Lib.hid (fun h : pointB xs = true => sv_ok hv hd2 h)
      have HL := Lib.hid hl
      subst hd
      clear hv hl hd2
      go_enter Try.func19, Try.ntmps19
      go_wp2
      go_step3
      go_wp2_with (go_at_call 16; refine (set_valid _ _ _ _ ps _ P0).mono ?_; rintro e w1 ⟨rfl, hb⟩; rw [HV.out]; replace hB := below_step hB hb; replace P0 := P0.step hb; replace I2 := I2.step hb; replace B1 := B1.step hb; have c0 := B1.c0; have c1 := B1.c1)
      go_loop [24] (fun v => ∃ i : Nat, i ≤ k ∧ v = .int .i64 i ∧ ∀ j, j < i → coordB (xs[j]?.getD 0) = true) (fun v => k - (intOf v).toNat)
      case atStart => exact ⟨0, Nat.zero_le _, rfl, fun j hj => absurd hj (by omega)⟩
      case round =>
        obtain ⟨i, hi, rfl, hg⟩ := hrel
        have HG := Lib.hid hg
        clear hg
        by_cases hlt : i < k
        · have hmem := I2.mem hlt
          obtain ⟨b, off, rfl, hbl, hc⟩ := I2.cells (by omega)
          have hcell := hc i hlt
          clear hc
          cases hx : coordB (xs[i]?.getD 0)
          · have HE := Lib.hid (HS6.out (by
              rw [Bool.eq_false_iff]; intro h'; have := List.all_eq_true.1 h' _ hmem; rw [hx] at this; cases this))
            have HX := Lib.hid hx
            clear hmem hx
            go_wp2_with (go_at_call 41; refine (set_coord _ _).mono ?_; rintro e w' ⟨rfl, rfl⟩; rw [HX.out])
            try rw [Exit.noGoto_ret]
            go_ret2
            exact ⟨retB HE.out.1.symm HE.out.2.symm, hB⟩
          · have HX := Lib.hid hx
            clear hmem hx
            go_wp2_with (go_at_call 41; refine (set_coord _ _).mono ?_; rintro e w' ⟨rfl, rfl⟩; rw [HX.out])
            go_round
            case rel => exact ⟨i + 1, by omega, by go_num, fun j hj => by
              rcases Nat.lt_or_eq_of_le (Nat.le_of_lt_succ hj) with h1 | h1
              · exact HG.out j h1
              · exact h1 ▸ HX.out⟩
            case measure => simp [intOf]; omega
        · obtain rfl : i = k := by omega
          have hp : pointB xs = true := List.all_eq_true.2 ((all_getD (p := fun x => coordB x = true)).2 fun j hj => HG.out j (by have := HL.out; omega))
          have HE := Lib.hid (HS0.out hp)
          obtain ⟨hs, hhs⟩ : ∃ hs, hasS xs ps = hs := ⟨_, rfl⟩
          rw [hhs] at HE
          have HH := Lib.hid hhs
          clear hhs hp HS0 HS6 HG
          go_wp2
          go_step3
          go_wp2
          go_loopg [35] n (fun g s wx => ∃ i : Nat, i + g = n ∧ s = .int .i64 i ∧ (∀ j x, j < i → ps[j]? = some x → hasP xs x.els = false) ∧ Below w1.heap.size w1 wx)
          case atStart => exact ⟨0, by omega, rfl, (fun j x h => absurd h (by omega)), Below.refl _ _⟩
          case round =>
            obtain ⟨i, hig, rfl, hgood, hbr⟩ := hrel
            have HG := Lib.hid hgood
            clear hgood
            cases gk with
            | zero =>
              have hge : ¬ ((i : Int) < n) := by omega
              have HR := Lib.hid (show hs = false by rw [← HH.out]; unfold hasS; rw [any_not fun j x hj => HG.out j x (by have := HLn.out; omega)])
              go_wp2
              try rw [Exit.noGoto_ret]
              go_ret2
              exact ⟨retB (HR.out.symm.trans HE.out.1.symm) HE.out.2.symm, hB.trans (hbr.mono hB.size)⟩
            | succ g =>
              have hlt : i < n := by omega
              obtain ⟨b, off, p, rfl, hblt, hpj, hmem, hcell, hCp⟩ := (P0.step hbr).at hlt; have HPJ := Lib.hid hpj; obtain ⟨pA, pn, pc, pels⟩ := p; simp only at hcell hCp; have hq1 : (i : Int) < n := (by omega); have HPL := Lib.hid hCp.len; have hps := hCp.small; clear hmem hpj
              have C1 := hCp
              have I3 := I2.step hbr
              go_wp2
              clear hcell hblt
              generalize hw2 : wr = w2 at *
              clear hw2
              go_loopg [41] pn (fun g2 s wx => ∃ j : Nat, j + g2 = pn ∧ s = .int .i64 j ∧ (∀ k x, k < j → pels[k]? = some x → hVal x.q x.M x.xs x.K xs = true) ∧ Below w2.heap.size w2 wx)
              case atStart => exact ⟨0, by omega, rfl, (fun j x h => absurd h (by omega)), Below.refl _ _⟩
              case round =>
                obtain ⟨j, hjg, rfl, hgood2, hbs⟩ := hrel
                have HG2 := Lib.hid hgood2
                clear hgood2
                cases gk with
                | zero =>
                  have hge : ¬ ((j : Int) < pn) := by omega
                  have HR := Lib.hid (show hs = true by rw [← HH.out]; unfold hasS; rw [any_yes HPJ.out (all_yes fun k x hk hkx => HG2.out k x (by have hk : k < pels.length := hk; have := HPL.out; omega) hkx)])
                  go_wp2
                  try rw [Exit.noGoto_ret]
                  go_ret2
                  exact ⟨retB (HR.out.symm.trans HE.out.1.symm) HE.out.2.symm, hB.trans ((hbr.trans (hbs.mono hbr.size)).mono hB.size)⟩
                | succ g2 =>
                  have hlt2 : j < pn := by omega
                  obtain ⟨b2, off2, e, rfl, hblt2, hej, hmem, hcs, hin⟩ := (C1.step hbs).at hlt2; obtain ⟨x0, x1, x2, x3⟩ := hcs; have HEJ := Lib.hid hej; obtain ⟨eq, eM, eA, en, ec, eK, exs⟩ := e; simp only at x0 x1 x2 x3 hin; have hq2 : (j : Int) < pn := (by omega); have b5 := below_alloc wr (.cells #[.int .i64 eq, .int .i64 eM, .slice eA en ec, .int .i64 eK] 55); have y1 := hin.step b5; have X1 := CBox.new wr eq eM eA en ec eK; have y2 := (I3.step hbs).step b5; have hbr1 := hbs.trans (b5.mono hbs.size); clear b5 hmem hej hin hbs
                  cases hv : hVal eq eM exs eK xs
                  · have HV2 := Lib.hid hv
                    have HN := Lib.hid (show hasP xs pels = false from all_not HEJ.out hv)
                    clear hv
                    go_wp2_with (go_at_call 42; refine (cond_holds _ _ _ _ _ _ exs _ _ _ xs _ y1 y2).mono ?_; rintro e w3 ⟨rfl, hb⟩; rw [HV2.out]; replace hbr1 := hbr1.trans (hb.mono hbr1.size))
                    go_roundg g
                    case measure => omega
                    case rel => exact ⟨i + 1, by omega, by go_num, (fun k x hk hkx => by
                      rcases Nat.lt_or_eq_of_le (Nat.le_of_lt_succ hk) with h | rfl
                      · exact HG.out k x h hkx
                      · rw [HPJ.out] at hkx; cases hkx; exact HN.out), hbr.trans (hbr1.mono hbr.size)⟩
                  · have HV2 := Lib.hid hv
                    clear hv
                    go_wp2_with (go_at_call 42; refine (cond_holds _ _ _ _ _ _ exs _ _ _ xs _ y1 y2).mono ?_; rintro e w3 ⟨rfl, hb⟩; rw [HV2.out]; replace hbr1 := hbr1.trans (hb.mono hbr1.size))
                    go_roundg g2
                    case measure => omega
                    case rel => exact ⟨j + 1, by omega, by go_num, (fun k x hk hkx => by
                      rcases Nat.lt_or_eq_of_le (Nat.le_of_lt_succ hk) with h | rfl
                      · exact HG2.out k x h hkx
                      · rw [HEJ.out] at hkx; cases hkx; exact HV2.out), hbr1⟩
    · have hd2 : ¬ (xs.length : Int) = D := by omega
      have HE := Lib.hid (sv_dim hv hd2)
      have q1 : ((k : Int) != D) = true := by simpa using hd
      have q2 : ((k : Int) == D) = false := by simpa using hd
      clear hv hl hd hd2
      go_enter Try.func19, Try.ntmps19
      go_wp2
      go_step3
      go_wp2_with (go_at_call 16; refine (set_valid _ _ _ _ ps _ P0).mono ?_; rintro e w1 ⟨rfl, hb⟩; rw [HV.out]; replace hB := below_step hB hb; replace B1 := B1.step hb; have c0 := B1.c0; have c1 := B1.c1)
      try rw [Exit.noGoto_ret]
      go_ret2
      exact ⟨retB HE.out.1.symm HE.out.2.symm, hB⟩
end Go.Proofs.Ytkgnlloioaobiaa
