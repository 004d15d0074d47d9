/-
  Part 5 of the texts that the laws stand on, merged: what each part says stands at its own head.
-/
import Derived.Test.YtkgnlloioaobiaaGreatProg
import Derived.Deep.RegionHeld3
import Derived.OwnWalk
import Derived.Laws.OwnMore
import Derived.Laws.AppendOwnNone
import Derived.Lib.AppendZerosOnto
import Derived.Lib.Walk
import Derived.Lib.SliceRun
import Derived.Test.YtkgnlloioaobiaaGreatMd

/-
  set.Minus.
-/
namespace Go.Proofs.YtkgnlloioaobiaaGreat
open Go.RowKit Go.Shelf
set_option linter.unusedVariables false
set_option linter.unusedSimpArgs false
set_option maxRecDepth 100000

theorem gather_ok {n : Nat} {w w' : World} {e : Ending} {D : Int} {l : List (List CD)} (h : GatherRet n w e w' D (0, l)) :
    ∃ A k c ps, e = .returned (.tuple #[setV D A k c, .int .i64 0]) ∧ PiecesAt w' A k ps ∧ (∀ p ∈ ps, PieceOk n w' p) ∧ ps.map PEl.dat = l ∧ (0 < k → ∃ g o, A = some ⟨g, o, none⟩ ∧ w.heap.size ≤ g) ∧ Below w.heap.size w w' := h
theorem gather_bad {n : Nat} {w w' : World} {e : Ending} {D : Int} {l : List (List CD)} {er : Int} (h0 : er ≠ 0) (h : GatherRet n w e w' D (er, l)) :
    ∃ A k c, e = .returned (.tuple #[setV 0 A k c, .int .i64 er]) ∧ Below w.heap.size w w' := by
  obtain ⟨A, k, c, ps, he, _, _, _, _, hb⟩ := h
  have h0 : ((er, l).1 ≠ 0) := h0
  rw [if_pos h0] at he
  exact ⟨A, k, c, he, hb⟩
theorem pieceV_of {n : Nat} {w : World} {ps : List PEl} {l : List (List CD)} (hok : ∀ p ∈ ps, PieceOk n w p) (hd : ps.map PEl.dat = l) (hg : GoodU n l) : (∀ p ∈ ps, PieceV n w p) ∧ ps.length ≤ 400 := by
  subst hd
  refine ⟨fun p hp => ⟨hok p hp, ?_⟩, by have := hg.2; rwa [List.length_map] at this⟩
  obtain ⟨h1, h2⟩ := hg.1 p.dat (List.mem_map.2 ⟨p, hp, rfl⟩)
  exact ⟨h1, by rwa [PEl.dat, List.length_map] at h2⟩
theorem valid_kinds {D : Int} {w : World} {A : Option Addr} {k : Nat} {ps : List PEl} (hP : PiecesAt w A k ps) (hv : validS D ps = true) : ∀ ds ∈ ps.map PEl.dat, KindsOk D.toNat ds := fun ds hds d hd => by
  obtain ⟨p, hp, rfl⟩ := List.mem_map.1 hds
  obtain ⟨e, he, rfl⟩ := List.mem_map.1 hd
  have h1 := ((valid_parts hv).2 p hp).1 e he
  have hl := ((hP.conds p hp).ints e he).len
  exact ⟨h1.2.1, by have := h1.1; show e.xs.length = _; omega⟩
theorem minus_val {n : Nat} {ps qs l1 l2 : List (List CD)} (h1 : gatherD n ps = (0, l1)) (h2 : gatherD n qs = (0, l2)) : minusD n ps qs = foldE (withoutD n) l2 l1 := by
  unfold minusD
  rw [h1, h2]
  rw [if_neg (show ¬ ((0 : Int) ≠ 0) by decide), if_neg (show ¬ ((0 : Int) ≠ 0) by decide)]
theorem minus_e1 {n : Nat} {ps qs l1 : List (List CD)} {er : Int} (h1 : gatherD n ps = (er, l1)) (h0 : er ≠ 0) : (minusD n ps qs).1 = er := by
  unfold minusD
  rw [h1, if_pos h0]
theorem minus_e2 {n : Nat} {ps qs l1 l2 : List (List CD)} {er : Int} (h1 : gatherD n ps = (0, l1)) (h2 : gatherD n qs = (er, l2)) (h0 : er ≠ 0) : (minusD n ps qs).1 = er := by
  unfold minusD
  rw [h1, h2, if_neg (show ¬ ((0 : Int) ≠ 0) by decide), if_pos h0]
theorem put_far {w : World} {b k : Nat} {D : Int} {A : Option Addr} {n c : Nat} (h : SetBox w k D A n c) (hk : k ≠ b) (x y : Value) : SetBox ((w.setCell ⟨b, 0, none⟩ x).setCell ⟨b, 1, none⟩ y) k D A n c := (put_other hk x y).trans h


set_option maxHeartbeats 4000000 in
theorem set_minus_bad (D : Int) (A : Option Addr) (n c : Nat) (ps : List PEl) (D' : Int) (A' : Option Addr) (n' c' : Nat) (ps' : List PEl) (w : World) (h : PiecesAt w A n ps) (h' : PiecesAt w A' n' ps') (hbe : bothE D ps D' ps' ≠ 0) :
    Calls Tryz.prog 18 #[setV D A n c, setV D' A' n' c'] w fun e w' => e = .returned (.tuple #[setV 0 none 0 0, .int .i64 (bothE D ps D' ps')]) ∧ Below w.heap.size w w' := by
  obtain ⟨er, her⟩ : ∃ er, bothE D ps D' ps' = er := ⟨_, rfl⟩
  rw [her] at hbe ⊢
  have HE := Lib.hid her
  have B1 := below_step (below_step (below_alloc w (.cells #[.int .i64 D, .slice A n c] 24)) (below_alloc _ (.cells #[.int .i64 D', .slice A' n' c'] 24))) (below_alloc _ (.cells #[.int .i64 0, .slice none 0 0] 24))
  have X1 := ((SetBox.new w D A n c).alloc (.cells #[.int .i64 D', .slice A' n' c'] 24)).alloc (.cells #[.int .i64 0, .slice none 0 0] 24)
  have X2 := (SetBox.new (w.alloc (.cells #[.int .i64 D, .slice A n c] 24)) D' A' n' c').alloc (.cells #[.int .i64 0, .slice none 0 0] 24)
  have X3 : SetBox (((w.alloc (.cells #[.int .i64 D, .slice A n c] 24)).alloc (.cells #[.int .i64 D', .slice A' n' c'] 24)).alloc (.cells #[.int .i64 0, .slice none 0 0] 24)) (w.heap.size + 2) 0 none 0 0 := by
    have := SetBox.new ((w.alloc (.cells #[.int .i64 D, .slice A n c] 24)).alloc (.cells #[.int .i64 D', .slice A' n' c'] 24)) 0 none 0 0
    rw [World.size_alloc, World.size_alloc] at this
    exact this
  rw [World.size_alloc] at X2
  have P1 := h.step B1
  have P2 := h'.step B1
  have c0 := X1.c0
  have c1 := X1.c1
  have d0 := X2.c0
  have d1 := X2.c1
  have h0' : (er != 0) = true := by simpa using hbe
  have h0'' : (er == 0) = false := by simpa using hbe
  clear her h h' hbe
  go_enter Tryz.func18, Tryz.ntmps18
  go_wp2_with (go_at_call 48; refine (set_both D A n c ps D' A' n' c' ps' _ P1 P2).mono ?_; rintro e w4 ⟨rfl, hb⟩; rw [HE.out]; replace B1 := below_step B1 hb; have X4 := X3.step hb; have z0 := X4.c0; have z1 := X4.c1; have f0 := X4.f 0; have f1 := X4.f 1)
  have X5 := X4.put 0 none 0 0
  have hb8 := below_put (w := w4) (N := w.heap.size) (b := w.heap.size + 2) (by omega) (.int .i64 0) (.slice none 0 0)
  generalize (w4.setCell ⟨w.heap.size + 2, 0, none⟩ (.int .i64 0)).setCell ⟨w.heap.size + 2, 1, none⟩ (.slice none 0 0) = w5 at *
  have y0 := X5.c0
  have y1 := X5.c1
  try rw [Exit.noGoto_ret]
  refine bodyPost_ret (v := .tuple #[setV 0 none 0 0, .int .i64 er]) (by simp [results, Tryz.results18, go_sem, y0, y1]) rfl ?_
  exact ⟨rfl, B1.trans hb8⟩


set_option maxHeartbeats 8000000 in
theorem set_minus (D : Int) (A : Option Addr) (n c : Nat) (ps : List PEl) (A' : Option Addr) (n' c' : Nat) (ps' : List PEl) (w : World) (h : PiecesAt w A n ps) (h' : PiecesAt w A' n' ps') (hv1 : validS D ps = true) (hv2 : validS D ps' = true) :
    Calls Tryz.prog 18 #[setV D A n c, setV D A' n' c'] w fun e w' => GatherRet D.toNat w e w' D (minusD D.toNat (ps.map PEl.dat) (ps'.map PEl.dat)) := by
  have HE := Lib.hid (show bothE D ps D ps' = 0 by unfold bothE; rw [if_pos ⟨hv1, hv2⟩, if_pos rfl])
  obtain ⟨md, hmd⟩ : ∃ md, minusD D.toNat (ps.map PEl.dat) (ps'.map PEl.dat) = md := ⟨_, rfl⟩
  rw [hmd]
  have hD : D.toNat ≤ 12 := by have := (valid_parts hv1).1; omega
  have HD := Lib.hid hD
  have HN1 := Lib.hid (fun W (P : PiecesAt W A n ps) => set_normal D A n c ps W P hv1)
  have HN2 := Lib.hid (fun W (P : PiecesAt W A' n' ps') => set_normal D A' n' c' ps' W P hv2)
  have HGU1 := Lib.hid (gather_good (valid_kinds h hv1))
  have HGU2 := Lib.hid (gather_good (valid_kinds h' hv2))
  obtain ⟨g1, hg1⟩ : ∃ g, gatherD D.toNat (ps.map PEl.dat) = g := ⟨_, rfl⟩
  obtain ⟨g2, hg2⟩ : ∃ g, gatherD D.toNat (ps'.map PEl.dat) = g := ⟨_, rfl⟩
  obtain ⟨er1, l1⟩ := g1
  obtain ⟨er2, l2⟩ := g2
  rw [hg1] at HN1 HGU1
  rw [hg2] at HN2 HGU2
  have HM := Lib.hid (And.intro hmd (And.intro hg1 hg2))
  obtain ⟨nn, hnn⟩ : ∃ nn, D.toNat = nn := ⟨_, rfl⟩
  rw [hnn] at HN1 HN2 HGU1 HGU2 HM HD ⊢
  have B1 := below_step (below_step (below_alloc w (.cells #[.int .i64 D, .slice A n c] 24)) (below_alloc _ (.cells #[.int .i64 D, .slice A' n' c'] 24))) (below_alloc _ (.cells #[.int .i64 0, .slice none 0 0] 24))
  have X1 := ((SetBox.new w D A n c).alloc (.cells #[.int .i64 D, .slice A' n' c'] 24)).alloc (.cells #[.int .i64 0, .slice none 0 0] 24)
  have X2 := (SetBox.new (w.alloc (.cells #[.int .i64 D, .slice A n c] 24)) D A' n' c').alloc (.cells #[.int .i64 0, .slice none 0 0] 24)
  have X3 : SetBox (((w.alloc (.cells #[.int .i64 D, .slice A n c] 24)).alloc (.cells #[.int .i64 D, .slice A' n' c'] 24)).alloc (.cells #[.int .i64 0, .slice none 0 0] 24)) (w.heap.size + 2) 0 none 0 0 := by
    have := SetBox.new ((w.alloc (.cells #[.int .i64 D, .slice A n c] 24)).alloc (.cells #[.int .i64 D, .slice A' n' c'] 24)) 0 none 0 0
    rw [World.size_alloc, World.size_alloc] at this
    exact this
  rw [World.size_alloc] at X2
  have P1 := h.step B1
  have P2 := h'.step B1
  have c0 := X1.c0
  have c1 := X1.c1
  have d0 := X2.c0
  have d1 := X2.c1
  have T1 : True := trivial
  clear h h' hv1 hv2 hg1 hg2 hmd hD hnn
  by_cases h1 : er1 = 0
  · subst h1
    by_cases h2 : er2 = 0
    · subst h2
      go_enter Tryz.func18, Tryz.ntmps18
      go_wp2_with (first
        | (go_at_call 48; refine (set_both D A n c ps D A' n' c' ps' _ P1 P2).mono ?_; rintro e w1 ⟨rfl, hb⟩; rw [HE.out]; replace B1 := below_step B1 hb; replace X1 := X1.step hb; replace X2 := X2.step hb; replace X3 := X3.step hb; replace P1 := P1.step hb; replace P2 := P2.step hb; clear c0 c1 d0 d1; have c0 := X1.c0; have c1 := X1.c1; have HW1 := Lib.hid (show w.heap.size + 3 ≤ w1.heap.size from X3.lt))
        | (go_at_call 11; have t1 := T1; clear T1 t1; refine (HN1.out _ P1).mono ?_; rintro e w2 hG; obtain ⟨A3, k3, c3, us, rfl, hP3, hok3, hd3, hA3, hb2⟩ := gather_ok hG; have S1 := SetBox.new w2 D A3 k3 c3; have b2 := below_step hb2 (below_alloc w2 (.cells #[.int .i64 D, .slice A3 k3 c3] 24)); replace B1 := below_step B1 b2; replace X2 := X2.step b2; replace X3 := X3.step b2; replace P2 := P2.step b2; clear c0 c1 X1 P1; have d0 := X2.c0; have d1 := X2.c1; have b3 := below_alloc w2 (.cells #[.int .i64 D, .slice A3 k3 c3] 24); have HG3 := Lib.hid (And.intro (hP3.step b3) (And.intro (fun p hp => (hok3 p hp).keep (.of_below b3)) (And.intro hd3 (And.intro hA3 (And.intro (fun h0 => (let ⟨b, off, hA, hlt, _⟩ := hP3.cells h0; ⟨b, off, hA, hlt⟩ : ∃ g o, A3 = some ⟨g, o, none⟩ ∧ g < w2.heap.size)) hb2.size))))); clear hG hP3 hok3 hd3 hA3 hb2 b2 b3)
        | (go_at_call 11; refine (HN2.out _ P2).mono ?_; rintro e w4 hG; obtain ⟨A4, k4, c4, qs, rfl, hP4, hok4, hd4, hA4, hb4⟩ := gather_ok hG; have b4 := below_alloc w4 (.cells #[.int .i64 D, .slice A4 k4 c4] 24); have b5 := below_step hb4 b4; replace B1 := below_step B1 b5; replace S1 := S1.step b5; replace X3 := X3.step b5; clear d0 d1 X2 P2; have HG4 := Lib.hid (And.intro (hP4.step b4) (And.intro (fun p hp => (hok4 p hp).keep (.of_below b4)) (And.intro hd4 hA4))); have HG3b := Lib.hid (And.intro (HG3.out.1.step b5) (fun p hp => (HG3.out.2.1 p hp).keep (.of_below b5))); clear hG hP4 hok4 hd4 hA4 hb4 b4 b5))
      generalize w4.alloc (.cells #[.int .i64 D, .slice A4 k4 c4] 24) = w5 at *
      have HQV := Lib.hid (pieceV_of HG4.out.2.1 HG4.out.2.2.1 HGU2.out)
      have HUV := Lib.hid (pieceV_of HG3b.out.2 HG3.out.2.2.1 HGU1.out)
      have HQ4 := Lib.hid (show 0 < k4 → ∀ g o, A4 = some ⟨g, o, none⟩ → g ≠ w2.heap.size from fun h0 g o hA => by
        obtain ⟨g', o', h1, h2⟩ := HG4.out.2.2.2 h0
        rw [hA] at h1
        cases h1
        rw [World.size_alloc] at h2
        omega)
      have HFR := Lib.hid (show 0 < k3 → ∃ g o, A3 = some ⟨g, o, none⟩ ∧ w.heap.size + 3 ≤ g ∧ g ≠ w2.heap.size from fun h0 => by
        obtain ⟨g, o, h1, h2⟩ := HG3.out.2.2.2.1 h0
        obtain ⟨g', o', h3, h4⟩ := HG3.out.2.2.2.2.1 h0
        rw [h1] at h3
        cases h3
        have := HW1.out
        exact ⟨g, o, h1, by omega, by omega⟩)
      have hw2 := Nat.le_trans HW1.out HG3.out.2.2.2.2.2
      have hk4 : k4 ≤ 400 := by have h5 := HG4.out.1.len; have h6 := HQV.out.2; omega
      have HW2 := Lib.hid hw2
      go_loopg [40] k4 (fun g v wr => ∃ i : Nat, i + g = k4 ∧ v = .int .i64 i ∧ (∃ A5 k5 c5 us5, SetBox wr w2.heap.size D A5 k5 c5 ∧ (PiecesAt wr A5 k5 us5 ∧ (∀ p ∈ us5, PieceV nn wr p)) ∧ (GoodU nn (us5.map PEl.dat) ∧ foldE (withoutD nn) (l2.take i) l1 = (0, us5.map PEl.dat)) ∧ (0 < k5 → ∃ g o, A5 = some ⟨g, o, none⟩ ∧ w.heap.size + 3 ≤ g ∧ g ≠ w2.heap.size)) ∧ SetBox wr (w.heap.size + 2) 0 none 0 0 ∧ (PiecesAt wr A4 k4 qs ∧ ∀ p ∈ qs, PieceV nn wr p) ∧ Below w.heap.size w wr)
      case atStart => exact ⟨0, by omega, rfl, ⟨A3, k3, c3, us, S1, ⟨HG3b.out.1, HUV.out.1⟩, ⟨by rw [HG3.out.2.2.1]; exact HGU1.out, by rw [HG3.out.2.2.1]; rfl⟩, HFR.out⟩, X3, ⟨HG4.out.1, HQV.out.1⟩, B1⟩
      case round =>
        clear S1 X3 B1
        obtain ⟨i, hig, rfl, ⟨A5, k5, c5, us5, S5, ⟨P5, hV5⟩, ⟨hG5, hF5⟩, hA5⟩, X5, ⟨Q5, hW5⟩, hbr⟩ := hrel
        have HV5 := Lib.hid hV5
        have HG5 := Lib.hid hG5
        have HF5 := Lib.hid hF5
        have HA5 := Lib.hid hA5
        have HW5 := Lib.hid hW5
        have hx5 := S5.c0
        have hx6 := S5.c1
        clear hV5 hG5 hF5 hA5 hW5
        cases gk with
        | succ g =>
          have hlt : i < k4 := by omega
          obtain ⟨b1, off1, q, hA, hblt, hqj, hmem, hcell, hCq⟩ := Q5.at hlt
          have HVq := Lib.hid (HW5.out q hmem)
          have HQ9 := Lib.hid (HQ4.out (by omega) b1 off1 hA)
          obtain ⟨r6, hr6⟩ : ∃ r, withoutD nn (us5.map PEl.dat) q.dat = r := ⟨_, rfl⟩
          obtain ⟨er6, l6⟩ := r6
          have HT := Lib.hid ((fold_take (f := withoutD nn) (l := l2) (i := i) (x := q.dat) (by rw [← HG4.out.2.2.1, List.getElem?_map, hqj]; rfl) HF5.out).trans hr6)
          have HGG := Lib.hid (show GoodU nn l6 by
            have := without_good HD.out HG5.out (c := q.dat) ⟨HVq.out.2.1, by rw [PEl.dat, List.length_map]; exact HVq.out.2.2⟩
            rw [hr6] at this
            exact this)
          have HWO := Lib.hid (show Calls Tryz.prog 54 #[setV D A5 k5 c5, .slice q.A q.n q.c] wr fun e w' => GatherRet nn wr e w' D (er6, l6) by
            rw [← hr6]
            exact set_without HD.out D A5 k5 c5 us5 q.A q.n q.c q.els wr P5 (by have h5 := P5.len; have h6 := HG5.out.2; rw [List.length_map] at h6; omega) HV5.out HVq.out)
          obtain ⟨qA, qn, qc, qels⟩ := q
          simp only at hcell HWO
          have hqq : (i : Int) < k4 := by omega
          subst hA
          clear hqj hmem hCq hr6
          by_cases h0 : er6 = 0
          · subst h0
            go_wp2_with (go_at_call 54; refine HWO.out.mono ?_; rintro e w6 hG; obtain ⟨A6, k6, c6, us6, rfl, hP6, hok6, hd6, hA6, hb6⟩ := gather_ok hG; have S6 := S5.step hb6; have X6 := X5.step hb6; have z0 := S6.c0; have z1 := S6.c1; have f0 := S6.f 0; have f1 := S6.f 1; have HG6 := Lib.hid (And.intro hP6 (And.intro hok6 (And.intro hd6 (And.intro hA6 (And.intro (Q5.step hb6) (And.intro (fun p hp => (HW5.out p hp).step hb6) hb6)))))); clear hG hP6 hok6 hd6 hA6 hb6)
            have hku := S6.keepU (.int .i64 D) (.slice A6 k6 c6)
            have HV6 := Lib.hid (pieceV_of HG6.out.2.1 HG6.out.2.2.1 HGG.out)
            have hl5 := S5.lt
            have HS6 := Lib.hid (show (0 < k6 → ∃ g o, A6 = some ⟨g, o, none⟩ ∧ w.heap.size + 3 ≤ g ∧ g ≠ w2.heap.size) from fun h0 => by
              obtain ⟨g, o, h1, h2⟩ := HG6.out.2.2.2.1 h0
              have := HW2.out
              exact ⟨g, o, h1, by omega, by omega⟩)
            have HRL := Lib.hid (⟨S6.put D A6 k6 c6, ⟨pieces_move HG6.out.1 (fun p hp => ((HV6.out.1 p hp).keep hku).1) hku.size (fun h0 g o hA => by
              obtain ⟨g', o', h1, h2, h3⟩ := HS6.out h0
              rw [hA] at h1
              cases h1
              exact put_other h3 _ _), fun p hp => (HV6.out.1 p hp).keep hku⟩, ⟨by rw [HG6.out.2.2.1]; exact HGG.out, by rw [HG6.out.2.2.1]; exact HT.out⟩, HS6.out⟩ : SetBox _ w2.heap.size D A6 k6 c6 ∧ (PiecesAt _ A6 k6 us6 ∧ ∀ p ∈ us6, PieceV nn _ p) ∧ (GoodU nn (us6.map PEl.dat) ∧ foldE (withoutD nn) (l2.take (i + 1)) l1 = (0, us6.map PEl.dat)) ∧ (0 < k6 → ∃ g o, A6 = some ⟨g, o, none⟩ ∧ w.heap.size + 3 ≤ g ∧ g ≠ w2.heap.size))
            have HX6 := Lib.hid (put_far X6 (b := w2.heap.size) (by have := HW2.out; omega) (.int .i64 D) (.slice A6 k6 c6))
            have HQ6 := Lib.hid (⟨pieces_move HG6.out.2.2.2.2.1 (fun p hp => ((HG6.out.2.2.2.2.2.1 p hp).keep hku).1) hku.size (fun h0 g o hA => put_other (HQ4.out h0 g o hA) _ _), fun p hp => (HG6.out.2.2.2.2.2.1 p hp).keep hku⟩ : PiecesAt _ (some ⟨b1, off1, none⟩) k4 qs ∧ ∀ p ∈ qs, PieceV nn _ p)
            have HBR := Lib.hid ((hbr.trans (HG6.out.2.2.2.2.2.2.mono hbr.size)).trans (below_put (w := w6) (N := w.heap.size) (b := w2.heap.size) (by have := HW2.out; omega) (.int .i64 D) (.slice A6 k6 c6)))
            clear hku
            go_roundg g
            case measure => omega
            case rel => exact ⟨i + 1, by omega, by go_num, ⟨A6, k6, c6, us6, HRL.out⟩, HX6.out, HQ6.out, HBR.out⟩
          · have h0' : (er6 != 0) = true := by simpa using h0
            have h0'' : (er6 == 0) = false := by simpa using h0
            go_wp2_with (go_at_call 54; refine HWO.out.mono ?_; rintro e w6 hG; obtain ⟨A6, k6, c6, rfl, hb6⟩ := gather_bad h0 hG; have S6 := S5.step hb6; have X6 := put_far (X5.step hb6) (b := w2.heap.size) (by have := HW2.out; omega) (.int .i64 0) (.slice A6 k6 c6); have z0 := S6.c0; have z1 := S6.c1; have f0 := S6.f 0; have f1 := S6.f 1; have hb7 := (hbr.trans (hb6.mono hbr.size)).trans (below_put (w := w6) (N := w.heap.size) (b := w2.heap.size) (by have := HW2.out; omega) (.int .i64 0) (.slice A6 k6 c6)); have u0 := X6.c0; have u1 := X6.c1; have v0 := X6.f 0; have v1 := X6.f 1; clear hG)
            generalize (w6.setCell ⟨w2.heap.size, 0, none⟩ (.int .i64 0)).setCell ⟨w2.heap.size, 1, none⟩ (.slice A6 k6 c6) = w4 at *
            have X4 := X6
            have X5 := X4.put 0 none 0 0; have hb8 := below_put (w := w4) (N := w.heap.size) (b := w.heap.size + 2) (by omega) (.int .i64 0) (.slice none 0 0); generalize (w4.setCell ⟨w.heap.size + 2, 0, none⟩ (.int .i64 0)).setCell ⟨w.heap.size + 2, 1, none⟩ (.slice none 0 0) = w5 at *; have y0 := X5.c0; have y1 := X5.c1; try rw [Exit.noGoto_ret]
            refine bodyPost_ret (v := .tuple #[setV 0 none 0 0, .int .i64 er6]) (by simp [results, Tryz.results18, go_sem, y0, y1]) rfl ?_
            have HR := (show md.1 = er6 by
              rw [← HM.out.1, minus_val HM.out.2.1 HM.out.2.2, fold_fail HT.out h0])
            exact gather_fail HR h0 (hb7.trans hb8)
        | zero =>
          obtain rfl : i = k4 := by omega
          have hge : ¬ ((i : Int) < i) := by omega
          have HR := Lib.hid (show md = (0, us5.map PEl.dat) by
            rw [← HM.out.1, minus_val HM.out.2.1 HM.out.2.2, ← HF5.out, List.take_of_length_le]
            rw [← HG4.out.2.2.1, List.length_map, HG4.out.1.len]
            exact Nat.le_refl _)
          have u0 := X5.c0
          have u1 := X5.c1
          have v0 := X5.f 0
          have v1 := X5.f 1
          go_wp2
          have X7 := X5.put D A5 k5 c5
          have hku := X5.keepU (.int .i64 D) (.slice A5 k5 c5)
          have hP7 := pieces_move P5 (fun p hp => ((HV5.out p hp).keep hku).1) hku.size (fun h0 g o hA => by
            obtain ⟨g', o', h1, h2, h3⟩ := HA5.out h0
            rw [hA] at h1
            cases h1
            exact put_other (by omega) _ _)
          have hok7 := fun p hp => ((HV5.out p hp).keep hku).1
          have hb8 := hbr.trans (below_put (w := wr) (N := w.heap.size) (b := w.heap.size + 2) (by omega) (.int .i64 D) (.slice A5 k5 c5))
          clear hku
          generalize (wr.setCell ⟨w.heap.size + 2, 0, none⟩ (.int .i64 D)).setCell ⟨w.heap.size + 2, 1, none⟩ (.slice A5 k5 c5) = w7 at *
          have y0 := X7.c0
          have y1 := X7.c1
          try rw [Exit.noGoto_ret]
          refine bodyPost_ret (v := .tuple #[setV D A5 k5 c5, .int .i64 0]) (by simp [results, Tryz.results18, go_sem, y0, y1]) rfl ?_
          rw [HR.out]
          exact ⟨A5, k5, c5, us5, rfl, hP7, hok7, rfl, (fun h => let ⟨g, o, h1, h2, _⟩ := HA5.out h; ⟨g, o, h1, by omega⟩), hb8⟩
    · have h0' : (er2 != 0) = true := by simpa using h2
      have h0'' : (er2 == 0) = false := by simpa using h2
      have HR := Lib.hid (show md.1 = er2 by rw [← HM.out.1]; exact minus_e2 HM.out.2.1 HM.out.2.2 h2)
      go_enter Tryz.func18, Tryz.ntmps18
      go_wp2_with (first
        | (go_at_call 48; refine (set_both D A n c ps D A' n' c' ps' _ P1 P2).mono ?_; rintro e w1 ⟨rfl, hb⟩; rw [HE.out]; replace B1 := below_step B1 hb; replace X1 := X1.step hb; replace X2 := X2.step hb; replace X3 := X3.step hb; replace P1 := P1.step hb; replace P2 := P2.step hb; clear c0 c1 d0 d1; have c0 := X1.c0; have c1 := X1.c1; have HW1 := Lib.hid (show w.heap.size + 3 ≤ w1.heap.size from X3.lt))
        | (go_at_call 11; have t1 := T1; clear T1 t1; refine (HN1.out _ P1).mono ?_; rintro e w2 hG; obtain ⟨A3, k3, c3, us, rfl, hP3, hok3, hd3, hA3, hb2⟩ := gather_ok hG; have S1 := SetBox.new w2 D A3 k3 c3; have b2 := below_step hb2 (below_alloc w2 (.cells #[.int .i64 D, .slice A3 k3 c3] 24)); replace B1 := below_step B1 b2; replace X2 := X2.step b2; replace X3 := X3.step b2; replace P2 := P2.step b2; clear c0 c1 X1 P1; have d0 := X2.c0; have d1 := X2.c1; have b3 := below_alloc w2 (.cells #[.int .i64 D, .slice A3 k3 c3] 24); have HG3 := Lib.hid (And.intro (hP3.step b3) (And.intro (fun p hp => (hok3 p hp).keep (.of_below b3)) (And.intro hd3 (And.intro hA3 (And.intro (fun h0 => (let ⟨b, off, hA, hlt, _⟩ := hP3.cells h0; ⟨b, off, hA, hlt⟩ : ∃ g o, A3 = some ⟨g, o, none⟩ ∧ g < w2.heap.size)) hb2.size))))); clear hG hP3 hok3 hd3 hA3 hb2 b2 b3)
        | (go_at_call 11; refine (HN2.out _ P2).mono ?_; rintro e w9 hG; obtain ⟨A4, k4, c4, rfl, hb4⟩ := gather_bad h2 hG; replace B1 := below_step (below_step B1 hb4) (below_alloc w9 (.cells #[.int .i64 0, .slice A4 k4 c4] 24)); have X4 := (X3.step hb4).alloc (.cells #[.int .i64 0, .slice A4 k4 c4] 24); have z0 := X4.c0; have z1 := X4.c1; have f0 := X4.f 0; have f1 := X4.f 1; clear hG; generalize hw4 : w9.alloc (.cells #[.int .i64 0, .slice A4 k4 c4] 24) = w4 at *))
      have X5 := X4.put 0 none 0 0; have hb8 := below_put (w := w4) (N := w.heap.size) (b := w.heap.size + 2) (by omega) (.int .i64 0) (.slice none 0 0); generalize (w4.setCell ⟨w.heap.size + 2, 0, none⟩ (.int .i64 0)).setCell ⟨w.heap.size + 2, 1, none⟩ (.slice none 0 0) = w5 at *; have y0 := X5.c0; have y1 := X5.c1; try rw [Exit.noGoto_ret]
      refine bodyPost_ret (v := .tuple #[setV 0 none 0 0, .int .i64 er2]) (by simp [results, Tryz.results18, go_sem, y0, y1]) rfl ?_
      exact gather_fail HR.out h2 (B1.trans hb8)
  · have h0' : (er1 != 0) = true := by simpa using h1
    have h0'' : (er1 == 0) = false := by simpa using h1
    have HR := Lib.hid (show md.1 = er1 by rw [← HM.out.1]; exact minus_e1 HM.out.2.1 h1)
    go_enter Tryz.func18, Tryz.ntmps18
    go_wp2_with (first
      | (go_at_call 48; refine (set_both D A n c ps D A' n' c' ps' _ P1 P2).mono ?_; rintro e w1 ⟨rfl, hb⟩; rw [HE.out]; replace B1 := below_step B1 hb; replace X1 := X1.step hb; replace X2 := X2.step hb; replace X3 := X3.step hb; replace P1 := P1.step hb; replace P2 := P2.step hb; clear c0 c1 d0 d1; have c0 := X1.c0; have c1 := X1.c1; have HW1 := Lib.hid (show w.heap.size + 3 ≤ w1.heap.size from X3.lt))
      | (go_at_call 11; refine (HN1.out _ P1).mono ?_; rintro e w9 hG; obtain ⟨A4, k4, c4, rfl, hb4⟩ := gather_bad h1 hG; replace B1 := below_step (below_step B1 hb4) (below_alloc w9 (.cells #[.int .i64 0, .slice A4 k4 c4] 24)); have X4 := (X3.step hb4).alloc (.cells #[.int .i64 0, .slice A4 k4 c4] 24); have z0 := X4.c0; have z1 := X4.c1; have f0 := X4.f 0; have f1 := X4.f 1; clear hG; generalize hw4 : w9.alloc (.cells #[.int .i64 0, .slice A4 k4 c4] 24) = w4 at *))
    have X5 := X4.put 0 none 0 0; have hb8 := below_put (w := w4) (N := w.heap.size) (b := w.heap.size + 2) (by omega) (.int .i64 0) (.slice none 0 0); generalize (w4.setCell ⟨w.heap.size + 2, 0, none⟩ (.int .i64 0)).setCell ⟨w.heap.size + 2, 1, none⟩ (.slice none 0 0) = w5 at *; have y0 := X5.c0; have y1 := X5.c1; try rw [Exit.noGoto_ret]
    refine bodyPost_ret (v := .tuple #[setV 0 none 0 0, .int .i64 er1]) (by simp [results, Tryz.results18, go_sem, y0, y1]) rfl ?_
    exact gather_fail HR.out h1 (B1.trans hb8)
end Go.Proofs.YtkgnlloioaobiaaGreat

/-
  The reference's Same of conditions.
-/
namespace Go.Proofs.YtkgnlloioaobiaaGreat
open Go.RowKit
set_option linter.unusedVariables false
set_option linter.unusedSimpArgs false

def sameC (q M : Int) (xs : List Int) (K : Int) (q' M' : Int) (ys : List Int) (K' : Int) : Bool := (q == q') && ((M == M') && sameB xs K ys K')

set_option maxHeartbeats 2000000 in
theorem cond_same (q M : Int) (A : Option Addr) (n c : Nat) (K : Int) (xs : List Int) (q' M' : Int) (A' : Option Addr) (n' c' : Nat) (K' : Int) (ys : List Int) (w : World) (hI : IntsAt w A n xs) (hI' : IntsAt w A' n' ys) :
    Calls Tryz.prog 96 #[condV q M A n c K, condV q' M' A' n' c' K'] w fun e w' => e = .returned (.bool (sameC q M xs K q' M' ys K')) ∧ Below w.heap.size w w' := by
  have b1 := below_alloc w (.cells #[.int .i64 q, .int .i64 M, .slice A n c, .int .i64 K] 56)
  have hB := below_step b1 (below_alloc _ (.cells #[.int .i64 q', .int .i64 M', .slice A' n' c', .int .i64 K'] 56))
  have h1 := hI.step hB
  have h2 := hI'.step hB
  have B1 := (CBox.new w q M A n c K).alloc (.cells #[.int .i64 q', .int .i64 M', .slice A' n' c', .int .i64 K'] 56)
  have B2 := CBox.new (w.alloc (.cells #[.int .i64 q, .int .i64 M, .slice A n c, .int .i64 K] 56)) q' M' A' n' c' K'
  rw [World.size_alloc] at B2
  have c0 := B1.c0
  have c1 := B1.c1
  have c2 := B1.c2
  have c3 := B1.c3
  have d0 := B2.c0
  have d1 := B2.c1
  have d2 := B2.c2
  have d3 := B2.c3
  obtain ⟨v, hv⟩ : ∃ v, sameB xs K ys K' = v := ⟨_, rfl⟩
  have HV := Lib.hid hv
  clear hI hI' b1
  by_cases hq : q = q'
  · subst hq
    by_cases hm : M = M'
    · subst hm
      have e : sameC q M xs K q M ys K' = v := by unfold sameC; rw [hv]; simp
      rw [e]
      clear e hv
      go_enter Tryz.func96, Tryz.ntmps96
      go_wp2_with (go_at_call 124; refine (ref_same _ _ _ _ xs _ _ _ _ ys _ h1 h2).mono ?_; rintro e w1 ⟨rfl, hb⟩; rw [HV.out]; replace hB := below_step hB hb)
      go_ret
      exact ⟨ret_bool (by simp), hB⟩
    · have e : sameC q M xs K q M' ys K' = false := by unfold sameC; simp [hm]
      rw [e]
      have g : (M == M') = false := by simpa using hm
      clear e hv
      go_enter Tryz.func96, Tryz.ntmps96
      go_wp2
      go_ret
      exact ⟨ret_bool (by simp), hB⟩
  · have e : sameC q M xs K q' M' ys K' = false := by unfold sameC; simp [hq]
    rw [e]
    have g : (q == q') = false := by simpa using hq
    clear e hv
    go_enter Tryz.func96, Tryz.ntmps96
    go_wp2
    go_ret
    exact ⟨ret_bool (by simp), hB⟩
end Go.Proofs.YtkgnlloioaobiaaGreat

/-
  The reference's SamePiece and Same.
-/
namespace Go.Proofs.YtkgnlloioaobiaaGreat
open Go.RowKit
set_option linter.unusedVariables false
set_option maxRecDepth 100000
set_option linter.unusedSimpArgs false

/-- Lists of equal length whose elements agree one by one. -/
def sameL {α : Type} (f : α → α → Bool) : List α → List α → Bool
  | [], [] => true
  | a :: l, b :: l' => f a b && sameL f l l'
  | _, _ => false
theorem sameL_len {α : Type} {f : α → α → Bool} : ∀ {l l' : List α}, l.length ≠ l'.length → sameL f l l' = false
  | [], [], h => absurd rfl h
  | [], _ :: _, _ => rfl
  | _ :: _, [], _ => rfl
  | a :: l, b :: l', h => by
    have := sameL_len (f := f) (l := l) (l' := l') fun e => h (by simp [e])
    simp [sameL, this]
theorem sameL_no {α : Type} {f : α → α → Bool} : ∀ {l l' : List α} {i : Nat} {a b : α}, l[i]? = some a → l'[i]? = some b → f a b = false → sameL f l l' = false
  | [], _, _, _, _, h, _, _ => by simp at h
  | _ :: _, [], _, _, _, _, h, _ => by simp at h
  | a :: l, b :: l', 0, x, y, h, h', hf => by
    simp only [List.getElem?_cons_zero, Option.some.injEq] at h h'
    subst h h'
    simp [sameL, hf]
  | a :: l, b :: l', i + 1, x, y, h, h', hf => by
    simp only [List.getElem?_cons_succ] at h h'
    simp [sameL, sameL_no h h' hf]
theorem sameL_yes {α : Type} {f : α → α → Bool} : ∀ {l l' : List α}, l.length = l'.length → (∀ i a b, i < l.length → l[i]? = some a → l'[i]? = some b → f a b = true) → sameL f l l' = true
  | [], [], _, _ => rfl
  | [], _ :: _, h, _ => by simp at h
  | _ :: _, [], h, _ => by simp at h
  | a :: l, b :: l', h, hf => by
    have h0 := hf 0 a b (by simp) rfl rfl
    have h1 := sameL_yes (f := f) (l := l) (l' := l') (by simpa using h) fun i x y hi hx hy => hf (i + 1) x y (by simp; omega) (by simpa using hx) (by simpa using hy)
    simp [sameL, h0, h1]
def CEl.same (e e' : CEl) : Bool := sameC e.q e.M e.xs e.K e'.q e'.M e'.xs e'.K
def sameP (l l' : List CEl) : Bool := sameL CEl.same l l'
def sameS (D : Int) (ps : List PEl) (D' : Int) (ps' : List PEl) : Bool := (D == D') && sameL (fun p p' => sameP p.els p'.els) ps ps'


set_option maxHeartbeats 4000000 in
theorem same_piece (A : Option Addr) (m c : Nat) (els : List CEl) (A' : Option Addr) (m' c' : Nat) (els' : List CEl) (w : World) (C0 : CondsAt w A m els) (C1 : CondsAt w A' m' els') :
    Calls Tryz.prog 72 #[.slice A m c, .slice A' m' c'] w fun e w' => e = .returned (.bool (sameP els els')) ∧ Below w.heap.size w w' := by
  have hsm := C0.small
  have hsm' := C1.small
  by_cases hmm : m = m'
  · subst hmm
    have HL := Lib.hid C0.len
    have HL' := Lib.hid C1.len
    obtain ⟨er, her⟩ : ∃ er, sameP els els' = er := ⟨_, rfl⟩
    rw [her]
    have HE := Lib.hid her
    clear her
    go_enter Tryz.func72, Tryz.ntmps72
    go_wp2
    go_loopw [13] (fun v wr => ∃ i : Nat, i ≤ m ∧ v = .int .i64 i ∧ (∀ j x y, j < i → els[j]? = some x → els'[j]? = some y → x.same y = true) ∧ Below w.heap.size w wr) (fun v _ => m - (intOf v).toNat)
    case atStart => exact ⟨0, Nat.zero_le _, rfl, (fun j x y h => absurd h (by omega)), Below.refl _ _⟩
    case round =>
      obtain ⟨i, hi, rfl, hgood, hbr⟩ := hrel
      have HG := Lib.hid hgood
      clear hgood
      by_cases hlt : i < m
      · obtain ⟨b, off, e, hA2, hblt, hej, hmem, hcs, hin⟩ := (C0.step hbr).at hlt
        obtain ⟨b', off', e', hA3, hblt', hej', hmem', hcs', hin'⟩ := (C1.step hbr).at hlt
        obtain ⟨eq, eM, eA, en, ec, eK, exs⟩ := e
        obtain ⟨eq', eM', eA', en', ec', eK', exs'⟩ := e'
        obtain ⟨x0, x1, x2, x3⟩ := hcs
        obtain ⟨y0, y1, y2, y3⟩ := hcs'
        simp only at x0 x1 x2 x3 y0 y1 y2 y3 hin hin'
        have HEJ := Lib.hid hej
        have HEJ' := Lib.hid hej'
        subst hA2 hA3
        have hq1 : (i : Int) < m := by omega
        replace hin := hin.step (Below.refl _ wr).drew
        replace hin' := hin'.step (Below.refl _ wr).drew
        have hbd := hbr.drew
        clear hej hej' hmem hmem' hbr
        cases hv : sameC eq eM exs eK eq' eM' exs' eK'
        · have HV := Lib.hid hv
          have HR := Lib.hid (show er = false by rw [← HE.out]; exact sameL_no HEJ.out HEJ'.out hv)
          clear hv
          go_wp2
          go_region_held3 (fun W => W.cell? ⟨b, off + i * 4, none⟩ = some (.int .i64 eq) ∧ W.cell? ⟨b, off + i * 4 + 1, none⟩ = some (.int .i64 eM) ∧ W.cell? ⟨b, off + i * 4 + 2, none⟩ = some (.slice eA en ec) ∧ W.cell? ⟨b, off + i * 4 + 3, none⟩ = some (.int .i64 eK) ∧ W.cell? ⟨b', off' + i * 4, none⟩ = some (.int .i64 eq') ∧ W.cell? ⟨b', off' + i * 4 + 1, none⟩ = some (.int .i64 eM') ∧ W.cell? ⟨b', off' + i * 4 + 2, none⟩ = some (.slice eA' en' ec') ∧ W.cell? ⟨b', off' + i * 4 + 3, none⟩ = some (.int .i64 eK')) (first | with_reducible exact ⟨x0, x1, x2, x3, y0, y1, y2, y3⟩ | with_reducible exact ⟨z0, z1, z2, z3, z4, z5, z6, z7⟩ | go_keep) (first | (go_at_call 96; refine (cond_same _ _ _ _ _ _ exs _ _ _ _ _ _ exs' _ hin hin').mono ?_; rintro e w4 ⟨rfl, hb⟩; rw [HV.out]; have hbe := (Below.refl wr.heap.size wr).drew.trans hb; have z0 := (hbe.cell (p := ⟨b, off + i * 4, none⟩) hblt).trans x0; have z1 := (hbe.cell (p := ⟨b, off + i * 4 + 1, none⟩) hblt).trans x1; have z2 := (hbe.cell (p := ⟨b, off + i * 4 + 2, none⟩) hblt).trans x2; have z3 := (hbe.cell (p := ⟨b, off + i * 4 + 3, none⟩) hblt).trans x3; have z4 := (hbe.cell (p := ⟨b', off' + i * 4, none⟩) hblt').trans y0; have z5 := (hbe.cell (p := ⟨b', off' + i * 4 + 1, none⟩) hblt').trans y1; have z6 := (hbe.cell (p := ⟨b', off' + i * 4 + 2, none⟩) hblt').trans y2; have z7 := (hbe.cell (p := ⟨b', off' + i * 4 + 3, none⟩) hblt').trans y3; replace hbd := hbd.trans (hb.mono hbd.size)))
          all_goals
            go_wp2
            go_ret
            exact ⟨ret_bool HR.out.symm, hbd⟩
        · have HV := Lib.hid hv
          clear hv
          go_wp2
          go_region_held3 (fun W => W.cell? ⟨b, off + i * 4, none⟩ = some (.int .i64 eq) ∧ W.cell? ⟨b, off + i * 4 + 1, none⟩ = some (.int .i64 eM) ∧ W.cell? ⟨b, off + i * 4 + 2, none⟩ = some (.slice eA en ec) ∧ W.cell? ⟨b, off + i * 4 + 3, none⟩ = some (.int .i64 eK) ∧ W.cell? ⟨b', off' + i * 4, none⟩ = some (.int .i64 eq') ∧ W.cell? ⟨b', off' + i * 4 + 1, none⟩ = some (.int .i64 eM') ∧ W.cell? ⟨b', off' + i * 4 + 2, none⟩ = some (.slice eA' en' ec') ∧ W.cell? ⟨b', off' + i * 4 + 3, none⟩ = some (.int .i64 eK')) (first | with_reducible exact ⟨x0, x1, x2, x3, y0, y1, y2, y3⟩ | with_reducible exact ⟨z0, z1, z2, z3, z4, z5, z6, z7⟩ | go_keep) (first | (go_at_call 96; refine (cond_same _ _ _ _ _ _ exs _ _ _ _ _ _ exs' _ hin hin').mono ?_; rintro e w4 ⟨rfl, hb⟩; rw [HV.out]; have hbe := (Below.refl wr.heap.size wr).drew.trans hb; have z0 := (hbe.cell (p := ⟨b, off + i * 4, none⟩) hblt).trans x0; have z1 := (hbe.cell (p := ⟨b, off + i * 4 + 1, none⟩) hblt).trans x1; have z2 := (hbe.cell (p := ⟨b, off + i * 4 + 2, none⟩) hblt).trans x2; have z3 := (hbe.cell (p := ⟨b, off + i * 4 + 3, none⟩) hblt).trans x3; have z4 := (hbe.cell (p := ⟨b', off' + i * 4, none⟩) hblt').trans y0; have z5 := (hbe.cell (p := ⟨b', off' + i * 4 + 1, none⟩) hblt').trans y1; have z6 := (hbe.cell (p := ⟨b', off' + i * 4 + 2, none⟩) hblt').trans y2; have z7 := (hbe.cell (p := ⟨b', off' + i * 4 + 3, none⟩) hblt').trans y3; replace hbd := hbd.trans (hb.mono hbd.size)))
          all_goals
            go_wp2
            go_roundw
            case rel => exact ⟨i + 1, by omega, by go_num, (fun j x y hj hjx hjy => by
              rcases Nat.lt_or_eq_of_le (Nat.le_of_lt_succ hj) with h | rfl
              · exact HG.out j x y h hjx hjy
              · rw [HEJ.out] at hjx; rw [HEJ'.out] at hjy; cases hjx; cases hjy; exact HV.out), hbd⟩
            case measure => simp [intOf]; omega
      · have hge : ¬ ((i : Int) < m) := by omega
        have HR := Lib.hid (show er = true by rw [← HE.out]; exact sameL_yes (by rw [HL.out, HL'.out]) fun j x y hj => HG.out j x y (by have := HL.out; omega))
        go_wp2
        go_ret
        exact ⟨ret_bool HR.out.symm, hbr⟩
  · have HR := Lib.hid (show sameP els els' = false from sameL_len (by rw [C0.len, C1.len]; exact hmm))
    have q1 : ((m : Int) != (m' : Int)) = true := by simpa using fun e => hmm (by omega)
    have q2 : ((m : Int) == (m' : Int)) = false := by simpa using fun e => hmm (by omega)
    clear C0 C1 hmm
    go_enter Tryz.func72, Tryz.ntmps72
    go_wp2
    go_ret
    exact ⟨ret_bool HR.out.symm, Below.refl _ _⟩

set_option maxHeartbeats 4000000 in
theorem same_set (D : Int) (A : Option Addr) (n c : Nat) (ps : List PEl) (D' : Int) (A' : Option Addr) (n' c' : Nat) (ps' : List PEl) (w : World) (h : PiecesAt w A n ps) (h' : PiecesAt w A' n' ps') :
    Calls Tryz.prog 41 #[setV D A n c, setV D' A' n' c'] w fun e w' => e = .returned (.bool (sameS D ps D' ps')) ∧ Below w.heap.size w w' := by
  have b1 := below_alloc w (.cells #[.int .i64 D, .slice A n c] 24)
  have hB := below_step b1 (below_alloc _ (.cells #[.int .i64 D', .slice A' n' c'] 24))
  have P0 := h.step hB
  have P1 := h'.step hB
  have B1 := (SetBox.new w D A n c).alloc (.cells #[.int .i64 D', .slice A' n' c'] 24)
  have B2 := SetBox.new (w.alloc (.cells #[.int .i64 D, .slice A n c] 24)) D' A' n' c'
  rw [World.size_alloc] at B2
  have c0 := B1.c0
  have c1 := B1.c1
  have d0 := B2.c0
  have d1 := B2.c1
  have hl := h.len
  have hl' := h'.len
  have hsm := h.small
  have hsm' := h'.small
  clear b1 h h'
  by_cases hD : D = D'
  · by_cases hnn : n = n'
    · subst hD hnn
      have HL := Lib.hid hl
      have HL' := Lib.hid hl'
      obtain ⟨er, her⟩ : ∃ er, sameS D ps D ps' = er := ⟨_, rfl⟩
      rw [her]
      have HE := Lib.hid (show sameL (fun p p' => sameP p.els p'.els) ps ps' = er by rw [← her]; simp [sameS])
      clear her hl hl'
      go_enter Tryz.func41, Tryz.ntmps41
      go_wp2
      generalize hw0 : (w.alloc (.cells #[.int .i64 D, .slice A n c] 24)).alloc (.cells #[.int .i64 D, .slice A' n c'] 24) = w0 at *
      clear hw0 c0 c1 d0 d1
      go_loopw [23] (fun v wr => ∃ i : Nat, i ≤ n ∧ v = .int .i64 i ∧ (∀ j x y, j < i → ps[j]? = some x → ps'[j]? = some y → sameP x.els y.els = true) ∧ Below w0.heap.size w0 wr) (fun v _ => n - (intOf v).toNat)
      case atStart => exact ⟨0, Nat.zero_le _, rfl, (fun j x y h => absurd h (by omega)), Below.refl _ _⟩
      case round =>
        obtain ⟨i, hi, rfl, hgood, hbr⟩ := hrel
        have HG := Lib.hid hgood
        clear hgood
        by_cases hlt : i < n
        · obtain ⟨b, off, p, hA2, hblt, hpj, hmem, x2, hin⟩ := (P0.step hbr).at hlt
          obtain ⟨b', off', p', hA3, hblt', hpj', hmem', x3, hin'⟩ := (P1.step hbr).at hlt
          obtain ⟨pA, pn, pc, pels⟩ := p
          obtain ⟨pA', pn', pc', pels'⟩ := p'
          simp only at x2 x3 hin hin'
          have HPJ := Lib.hid hpj
          have HPJ' := Lib.hid hpj'
          subst hA2 hA3
          have hq1 : (i : Int) < n := by omega
          replace hin := hin.step (Below.refl _ wr).drew
          replace hin' := hin'.step (Below.refl _ wr).drew
          have B3 := B1.step hbr
          have B4 := B2.step hbr
          have x0 := B3.c1
          have x1 := B4.c1
          have hbd := hbr.drew
          clear hpj hpj' hmem hmem' hbr
          cases hv : sameP pels pels'
          · have HV := Lib.hid hv
            have HR := Lib.hid (show er = false by rw [← HE.out]; exact sameL_no HPJ.out HPJ'.out hv)
            clear hv
            go_wp2
            go_region_held3 (fun W => W.cell? ⟨w.heap.size, 1, none⟩ = some (.slice (some ⟨b, off, none⟩) n c) ∧ W.cell? ⟨w.heap.size + 1, 1, none⟩ = some (.slice (some ⟨b', off', none⟩) n c') ∧ W.cell? ⟨b, off + i, none⟩ = some (.slice pA pn pc) ∧ W.cell? ⟨b', off' + i, none⟩ = some (.slice pA' pn' pc')) (first | with_reducible exact ⟨x0, x1, x2, x3⟩ | with_reducible exact ⟨z0, z1, z2, z3⟩ | go_keep) (first | (go_at_call 72; refine (same_piece _ _ _ pels _ _ _ pels' _ hin hin').mono ?_; rintro e w4 ⟨rfl, hb⟩; rw [HV.out]; have hbe := (Below.refl wr.heap.size wr).drew.trans hb; have z0 := (hbe.cell (p := ⟨w.heap.size, 1, none⟩) B3.lt).trans x0; have z1 := (hbe.cell (p := ⟨w.heap.size + 1, 1, none⟩) B4.lt).trans x1; have z2 := (hbe.cell (p := ⟨b, off + i, none⟩) hblt).trans x2; have z3 := (hbe.cell (p := ⟨b', off' + i, none⟩) hblt').trans x3; replace hbd := hbd.trans (hb.mono hbd.size)))
            all_goals
              go_wp2
              go_ret
              exact ⟨ret_bool HR.out.symm, below_step hB hbd⟩
          · have HV := Lib.hid hv
            clear hv
            go_wp2
            go_region_held3 (fun W => W.cell? ⟨w.heap.size, 1, none⟩ = some (.slice (some ⟨b, off, none⟩) n c) ∧ W.cell? ⟨w.heap.size + 1, 1, none⟩ = some (.slice (some ⟨b', off', none⟩) n c') ∧ W.cell? ⟨b, off + i, none⟩ = some (.slice pA pn pc) ∧ W.cell? ⟨b', off' + i, none⟩ = some (.slice pA' pn' pc')) (first | with_reducible exact ⟨x0, x1, x2, x3⟩ | with_reducible exact ⟨z0, z1, z2, z3⟩ | go_keep) (first | (go_at_call 72; refine (same_piece _ _ _ pels _ _ _ pels' _ hin hin').mono ?_; rintro e w4 ⟨rfl, hb⟩; rw [HV.out]; have hbe := (Below.refl wr.heap.size wr).drew.trans hb; have z0 := (hbe.cell (p := ⟨w.heap.size, 1, none⟩) B3.lt).trans x0; have z1 := (hbe.cell (p := ⟨w.heap.size + 1, 1, none⟩) B4.lt).trans x1; have z2 := (hbe.cell (p := ⟨b, off + i, none⟩) hblt).trans x2; have z3 := (hbe.cell (p := ⟨b', off' + i, none⟩) hblt').trans x3; replace hbd := hbd.trans (hb.mono hbd.size)))
            all_goals
              go_wp2
              go_roundw
              case rel => exact ⟨i + 1, by omega, by go_num, (fun j x y hj hjx hjy => by
                rcases Nat.lt_or_eq_of_le (Nat.le_of_lt_succ hj) with h | rfl
                · exact HG.out j x y h hjx hjy
                · rw [HPJ.out] at hjx; rw [HPJ'.out] at hjy; cases hjx; cases hjy; exact HV.out), hbd⟩
              case measure => simp [intOf]; omega
        · have hge : ¬ ((i : Int) < n) := by omega
          have HR := Lib.hid (show er = true by rw [← HE.out]; exact sameL_yes (by rw [HL.out, HL'.out]) fun j x y hj => HG.out j x y (by have := HL.out; omega))
          go_wp2
          go_ret
          exact ⟨ret_bool HR.out.symm, below_step hB hbr⟩
    · have HR := Lib.hid (show sameS D ps D' ps' = false by unfold sameS; rw [sameL_len (by rw [hl, hl']; exact hnn), Bool.and_false])
      have q1 : ((n : Int) != (n' : Int)) = true := by simpa using fun e => hnn (by omega)
      have q2 : ((n : Int) == (n' : Int)) = false := by simpa using fun e => hnn (by omega)
      subst hD
      clear hl hl' hnn
      go_enter Tryz.func41, Tryz.ntmps41
      go_wp2
      go_ret
      exact ⟨ret_bool HR.out.symm, hB⟩
  · have HR := Lib.hid (show sameS D ps D' ps' = false by unfold sameS; rw [beq_eq_false_iff_ne.2 hD, Bool.false_and])
    have q1 : (D != D') = true := by simpa using hD
    have q2 : (D == D') = false := by simpa using hD
    clear hl hl' hD
    go_enter Tryz.func41, Tryz.ntmps41
    go_wp2
    go_ret
    exact ⟨ret_bool HR.out.symm, hB⟩
end Go.Proofs.YtkgnlloioaobiaaGreat

/-
  Whole and None, of package set and of its reference; the comparison of two answers.
-/
namespace Go.Proofs.YtkgnlloioaobiaaGreat
open Go.RowKit
set_option linter.unusedVariables false
set_option maxRecDepth 100000
set_option linter.unusedSimpArgs false

/-- A function's answer is a set and an error. -/
def SetRet (w : World) (e : Ending) (w' : World) (D : Int) (ps : List PEl) (err : Int) : Prop :=
  ∃ A n c, e = .returned (.tuple #[setV D A n c, .int .i64 err]) ∧ PiecesAt w' A n ps ∧ Below w.heap.size w w'
theorem ret_set {A : Option Addr} {n c : Nat} {D err : Int} {w w' : World} {ps : List PEl} {D' err' : Int} (h1 : err' = err) (h2 : D' = D) (hI : PiecesAt w' A n ps) (hb : Below w.heap.size w w') :
    SetRet w (.returned (.tuple #[setV D A n c, .int .i64 err])) w' D' ps err' := by
  subst h1; subst h2; exact ⟨A, n, c, rfl, hI, hb⟩
theorem pieces_nil (w : World) (A : Option Addr) : PiecesAt w A 0 [] := ⟨rfl, by omega, fun h => absurd h (by omega), fun p h => by cases h⟩
/-- The list of one piece that has no condition. -/
def onePs : List PEl := [⟨none, 0, 0, []⟩]
theorem pieces_one (w : World) (g : Nat) (hg : g = w.heap.size) : PiecesAt (w.alloc (.cells #[.slice none 0 0] 34)) (some ⟨g, 0, none⟩) 1 onePs := by
  subst hg
  refine ⟨rfl, by omega, fun _ => ⟨_, 0, rfl, by simp, fun j p hp => ?_⟩, fun p hp => ?_⟩
  · match j, hp with
    | 0, hp =>
      simp [onePs] at hp
      subst hp
      rw [cell_of_row _ _ _ _ _ (0, 0) (heap_alloc_new w _)]; rfl
    | j + 1, hp => simp [onePs] at hp
  · simp [onePs] at hp
    subst hp
    exact conds_nil _ _
def mErr (n : Int) : Int := if 0 ≤ n ∧ n ≤ 12 then 0 else 6
def mD (n : Int) : Int := if 0 ≤ n ∧ n ≤ 12 then n else 0
def mPs (n : Int) : List PEl := if 0 ≤ n ∧ n ≤ 12 then onePs else []
theorem m_ok {n : Int} (h : 0 ≤ n ∧ n ≤ 12) : mErr n = 0 ∧ mD n = n ∧ mPs n = onePs := by unfold mErr mD mPs; rw [if_pos h, if_pos h, if_pos h]; exact ⟨rfl, rfl, rfl⟩
theorem m_rng {n : Int} (h : ¬ (0 ≤ n ∧ n ≤ 12)) : mErr n = 6 ∧ mD n = 0 ∧ mPs n = [] := by unfold mErr mD mPs; rw [if_neg h, if_neg h, if_neg h]; exact ⟨rfl, rfl, rfl⟩

/-- What a set says: its dimension and its pieces' conditions, without their addresses. -/
def CEl.data (e : CEl) : Int × Int × List Int × Int := (e.q, e.M, e.xs, e.K)
def dataS (ps : List PEl) : List (List (Int × Int × List Int × Int)) := ps.map fun p => p.els.map CEl.data
theorem same_data {e e' : CEl} (h : e.data = e'.data) : e.same e' = true := by
  obtain ⟨q, M, A, n, c, K, xs⟩ := e
  obtain ⟨q', M', A', n', c', K', xs'⟩ := e'
  simp only [CEl.data, Prod.mk.injEq] at h
  obtain ⟨rfl, rfl, rfl, rfl⟩ := h
  show sameC q M xs K q M xs K = true
  unfold sameC
  simp [sameB_self]
theorem sameP_data : ∀ {l l' : List CEl}, l.map CEl.data = l'.map CEl.data → sameP l l' = true
  | [], [], _ => rfl
  | [], _ :: _, h => by simp at h
  | _ :: _, [], h => by simp at h
  | a :: l, b :: l', h => by
    simp only [List.map_cons, List.cons.injEq] at h
    show (a.same b && sameP l l') = true
    rw [same_data h.1, sameP_data h.2]; rfl
theorem sameL_data : ∀ {l l' : List PEl}, dataS l = dataS l' → sameL (fun p p' => sameP p.els p'.els) l l' = true
  | [], [], _ => rfl
  | [], _ :: _, h => by simp [dataS] at h
  | _ :: _, [], h => by simp [dataS] at h
  | a :: l, b :: l', h => by
    simp only [dataS, List.map_cons, List.cons.injEq] at h
    show (sameP a.els b.els && sameL _ l l') = true
    rw [sameP_data h.1, sameL_data h.2]; rfl
theorem sameS_data {D : Int} {l l' : List PEl} (h : dataS l = dataS l') : sameS D l D l' = true := by
  unfold sameS; rw [sameL_data h]; simp

/-- Two equal answers. -/
theorem sis_same (D : Int) (A : Option Addr) (n c : Nat) (ps : List PEl) (A' : Option Addr) (n' c' : Nat) (ps' : List PEl) (e : Int) (w : World) (h : PiecesAt w A n ps) (h' : PiecesAt w A' n' ps') (hd : dataS ps = dataS ps') :
    Calls Tryz.prog 13 #[setV D A n c, .int .i64 e, setV D A' n' c', .int .i64 e] w fun e w' => e = .returned (.bool true) ∧ Below w.heap.size w w' := by
  have hB := below_step (below_alloc w (.cells #[.int .i64 D, .slice A n c] 24)) (below_alloc _ (.cells #[.int .i64 D, .slice A' n' c'] 24))
  have h1 := h.step hB
  have h2 := h'.step hB
  have HD := Lib.hid (sameS_data (D := D) hd)
  clear h h' hd
  go_enter Tryz.func13, Tryz.ntmps13
  go_wp2_with (go_at_call 41; refine (same_set _ _ _ _ ps _ _ _ _ ps' _ h1 h2).mono ?_; rintro e w3 ⟨rfl, hb3⟩; rw [HD.out]; replace hB := below_step hB hb3)
  go_ret
  exact ⟨rfl, hB⟩
end Go.Proofs.YtkgnlloioaobiaaGreat

/-
  Rows of conditions and of pieces as a composite literal lays them; the law's function 'at'.
-/
namespace Go.Proofs.YtkgnlloioaobiaaGreat
open Go.RowKit
set_option linter.unusedVariables false
set_option linter.unusedSimpArgs false
set_option maxRecDepth 100000

theorem conds_row {w : World} {g : Nat} {els : List CEl} (hg : w.heap[g]? = some (.cells (ccells els).toArray 56 (0, 0))) (hi : ∀ e ∈ els, IntsAt w e.A e.n e.xs) (hl : els.length ≤ 1000) : CondsAt w (some ⟨g, 0, none⟩) els.length els := by
  have key : ∀ (k : Nat) (v : Value), (ccells els)[k]? = some v → w.cell? ⟨g, k, none⟩ = some v := fun k v hv => by rw [cell_of_row w g k _ _ (0, 0) hg]; simpa using hv
  refine ⟨rfl, by omega, fun _ => ⟨g, 0, rfl, (Array.getElem?_eq_some_iff.1 hg).1, fun j e he => ?_⟩, hi⟩
  obtain ⟨h0, h1, h2, h3⟩ := ccells_at els j e he
  rw [Nat.zero_add]
  exact ⟨key _ _ h0, key _ _ h1, key _ _ h2, key _ _ h3⟩
theorem pieces_row {w : World} {g : Nat} {ps : List PEl} (hg : w.heap[g]? = some (.cells (ps.map PEl.v).toArray 34 (0, 0))) (hc : ∀ p ∈ ps, CondsAt w p.A p.n p.els) (hl : ps.length ≤ 1000) : PiecesAt w (some ⟨g, 0, none⟩) ps.length ps := by
  refine ⟨rfl, by omega, fun _ => ⟨g, 0, rfl, (Array.getElem?_eq_some_iff.1 hg).1, fun j p hp => ?_⟩, hc⟩
  rw [Nat.zero_add, cell_of_row w g j _ _ (0, 0) hg]
  simp [hp, PEl.v]
/-- A condition that 'at' makes. -/
def atE (A : Option Addr) (a k : Int) : CEl := ⟨0, 0, A, 1, 1, k, [a]⟩
/-- Two conditions that 'at' makes, in a row of their own. -/
theorem conds_two {w : World} {A B : Option Addr} {a b k l : Int} (hA : IntsAt w A 1 [a]) (hB : IntsAt w B 1 [b]) :
    CondsAt (w.alloc (.cells #[.int .i64 0, .int .i64 0, .slice A 1 1, .int .i64 k, .int .i64 0, .int .i64 0, .slice B 1 1, .int .i64 l] 56)) (some ⟨w.heap.size, 0, none⟩) 2 [atE A a k, atE B b l] := by
  have hb := below_alloc w (.cells #[.int .i64 0, .int .i64 0, .slice A 1 1, .int .i64 k, .int .i64 0, .int .i64 0, .slice B 1 1, .int .i64 l] 56)
  refine conds_row (els := [atE A a k, atE B b l]) (heap_alloc_new w _) (fun e he => ?_) (by simp)
  rcases List.mem_cons.1 he with rfl | he
  · exact hA.step hb
  · rw [List.mem_singleton.1 he]; exact hB.step hb
/-- One piece, in a row of its own. -/
theorem pieces_single {w : World} {p : PEl} (h : CondsAt w p.A p.n p.els) : PiecesAt (w.alloc (.cells #[.slice p.A p.n p.c] 34)) (some ⟨w.heap.size, 0, none⟩) 1 [p] := by
  refine pieces_row (ps := [p]) (heap_alloc_new w _) (fun q hq => ?_) (by simp)
  rw [List.mem_singleton.1 hq]
  exact h.step (below_alloc w _)
theorem pieces_two {w : World} {p q : PEl} (h : CondsAt w p.A p.n p.els) (h' : CondsAt w q.A q.n q.els) : PiecesAt (w.alloc (.cells #[.slice p.A p.n p.c, .slice q.A q.n q.c] 34)) (some ⟨w.heap.size, 0, none⟩) 2 [p, q] := by
  refine pieces_row (ps := [p, q]) (heap_alloc_new w _) (fun x hx => ?_) (by simp)
  rcases List.mem_cons.1 hx with rfl | hx
  · exact h.step (below_alloc w _)
  · rw [List.mem_singleton.1 hx]; exact h'.step (below_alloc w _)

theorem one_row (w : World) (a : Int) (ha : -9223372036854775808 ≤ a ∧ a ≤ 9223372036854775807) :
    IntsAt (w.alloc (.cells #[.int .i64 a] 3)) (some ⟨w.heap.size, 0, none⟩) 1 [a] :=
  (OwnRow.new w [a] 1 rfl).ints (by omega) (fun x hx => by rw [List.mem_singleton] at hx; subst hx; exact ha)

theorem law_at (a k : Int) (ha : -9223372036854775808 ≤ a ∧ a ≤ 9223372036854775807) (w : World) : Calls Tryz.prog 42 #[.int .i64 a, .int .i64 k] w fun e w' => ∃ A, e = .returned (condV 0 0 A 1 1 k) ∧ IntsAt w' A 1 [a] ∧ Below w.heap.size w w' := by
  have I1 : ∀ x : Int, IntsAt ((w.alloc (.cells #[.int .i64 0, .int .i64 0, .slice (some ⟨w.heap.size + 1, 0, none⟩) 1 1, .int .i64 x] 56)).alloc (.cells #[.int .i64 a] 3)) (some ⟨w.heap.size + 1, 0, none⟩) 1 [a] := fun x => by
    have := one_row (w.alloc (.cells #[.int .i64 0, .int .i64 0, .slice (some ⟨w.heap.size + 1, 0, none⟩) 1 1, .int .i64 x] 56)) a ha
    rw [World.size_alloc] at this
    exact this
  have hB := below_step (below_alloc w (.cells #[.int .i64 0, .int .i64 0, .slice (some ⟨w.heap.size + 1, 0, none⟩) 1 1, .int .i64 k] 56)) (below_alloc _ (.cells #[.int .i64 a] 3))
  go_enter Tryz.func42, Tryz.ntmps42
  go_wp2
  refine bodyPost_ret (v := condV 0 0 (some ⟨w.heap.size + 1, 0, none⟩) 1 1 k) (by simp [results, Tryz.results42, go_sem]) rfl ?_
  exact ⟨_, rfl, I1 k, hB⟩
/-- What a set says, by its pieces' data. -/
theorem data_dat {l l' : List PEl} (h : l.map PEl.dat = l'.map PEl.dat) : dataS l = dataS l' := by
  have key : ∀ l : List PEl, dataS l = (l.map PEl.dat).map fun ds => ds.map fun d => (d.q, d.M, d.xs, d.K) := fun l => by
    unfold dataS
    rw [List.map_map]
    refine List.map_congr_left fun p _ => ?_
    simp [PEl.dat, CEl.data, CEl.d]
  rw [key, key, h]
end Go.Proofs.YtkgnlloioaobiaaGreat

/-
  awake of layer 4: its two calls of package set, evaluated.
-/
namespace Go.Proofs.YtkgnlloioaobiaaGreat
open Go.RowKit
set_option linter.unusedVariables false
set_option linter.unusedSimpArgs false
set_option maxRecDepth 100000

def awM : List (List CD) := [[⟨0, 0, [-1], 5⟩, ⟨0, 0, [1], -4⟩], [⟨0, 0, [-1], 1⟩, ⟨0, 0, [1], 0⟩]]
def awN : List (List CD) := [[⟨1, 0, [1], -3⟩]]

theorem aw_minus_call {w : World} {B1 B2 g1 g2 A1 A2 A3 A4 : Option Addr} (Q1 : PiecesAt w B1 1 [⟨g1, 2, 2, [atE A1 1 0, atE A2 (-1) 5]⟩]) (Q3 : PiecesAt w B2 1 [⟨g2, 2, 2, [atE A3 1 (-2), atE A4 (-1) 3]⟩]) :
    Calls Tryz.prog 18 #[setV 1 B1 1 1, setV 1 B2 1 1] w fun e w' => GatherRet 1 w e w' 1 (0, awM) := by
  have h := set_minus 1 B1 1 1 _ B2 1 1 _ w Q1 Q3 (by kernel_rfl) (by kernel_rfl)
  have e : minusD (1 : Int).toNat (List.map PEl.dat [⟨g1, 2, 2, [atE A1 1 0, atE A2 (-1) 5]⟩]) (List.map PEl.dat [⟨g2, 2, 2, [atE A3 1 (-2), atE A4 (-1) 3]⟩]) = (0, awM) := aw_minus
  rw [e] at h
  exact h

theorem aw_norm_call {w : World} {B1 g1 A1 A2 : Option Addr} (Q1 : PiecesAt w B1 1 [⟨g1, 2, 2, [atE A1 1 (-3), atE A2 (-1) 3]⟩]) :
    Calls Tryz.prog 11 #[setV 1 B1 1 1] w fun e w' => GatherRet 1 w e w' 1 (0, awN) := by
  have h := set_normal 1 B1 1 1 _ w Q1 (by kernel_rfl)
  have e : gatherD (1 : Int).toNat (List.map PEl.dat [⟨g1, 2, 2, [atE A1 1 (-3), atE A2 (-1) 3]⟩]) = (0, awN) := aw_three
  rw [e] at h
  exact h


theorem aw_core {w : World} {A : Option Addr} {n c : Nat} {ps : List PEl} {A' : Option Addr} {n' c' : Nat} {ps' : List PEl} (h : PiecesAt w A n ps) (h' : PiecesAt w A' n' ps') (hd : ps.map PEl.dat = ps'.map PEl.dat) :
    Calls Tryz.prog 41 #[setV 1 A n c, setV 1 A' n' c'] w fun e w' => e = .returned (.bool true) ∧ Below w.heap.size w w' := by
  have := same_set 1 A n c ps 1 A' n' c' ps' w h h'
  rw [sameS_data (data_dat hd)] at this
  exact this

theorem aw_ga {w : World} {g : Nat} {A7 A8 A9 A10 : Option Addr} (R : w.heap[g]? = some (.cells (ccells [atE A7 (-1) 5, atE A8 1 (-4)]).toArray 56 (0, 0))) (I7 : IntsAt w A7 1 [-1]) (I8 : IntsAt w A8 1 [1]) (I9 : IntsAt w A9 1 [-1]) (I10 : IntsAt w A10 1 [1]) :
    PiecesAt ((w.alloc (.cells #[.int .i64 0, .int .i64 0, .slice A9 1 1, .int .i64 1, .int .i64 0, .int .i64 0, .slice A10 1 1, .int .i64 0] 56)).alloc (.cells #[.slice (some ⟨g, 0, none⟩) 2 2, .slice (some ⟨w.heap.size, 0, none⟩) 2 2] 34)) (some ⟨w.heap.size + 1, 0, none⟩) 2 [⟨some ⟨g, 0, none⟩, 2, 2, [atE A7 (-1) 5, atE A8 1 (-4)]⟩, ⟨some ⟨w.heap.size, 0, none⟩, 2, 2, [atE A9 (-1) 1, atE A10 1 0]⟩] := by
  have C2 := conds_two (k := 1) (l := 0) I9 I10
  have C1 : CondsAt w (some ⟨g, 0, none⟩) 2 [atE A7 (-1) 5, atE A8 1 (-4)] := conds_row (els := [atE A7 (-1) 5, atE A8 1 (-4)]) R (fun e he => by
    rcases List.mem_cons.1 he with rfl | he
    · exact I7
    · rw [List.mem_singleton.1 he]; exact I8) (by simp)
  have h := pieces_two (p := ⟨some ⟨g, 0, none⟩, 2, 2, [atE A7 (-1) 5, atE A8 1 (-4)]⟩) (q := ⟨some ⟨w.heap.size, 0, none⟩, 2, 2, [atE A9 (-1) 1, atE A10 1 0]⟩) (C1.step (below_alloc w (.cells #[.int .i64 0, .int .i64 0, .slice A9 1 1, .int .i64 1, .int .i64 0, .int .i64 0, .slice A10 1 1, .int .i64 0] 56))) C2
  rw [World.size_alloc] at h
  exact h

theorem aw_gb {w : World} {A7 A8 A9 A10 : Option Addr} (I7 : IntsAt w A7 1 [-1]) (I8 : IntsAt w A8 1 [1]) (I9 : IntsAt w A9 1 [-1]) (I10 : IntsAt w A10 1 [1]) :
    PiecesAt (((w.alloc (.cells #[.int .i64 0, .int .i64 0, .slice A7 1 1, .int .i64 5, .int .i64 0, .int .i64 0, .slice A8 1 1, .int .i64 (-4)] 56)).alloc (.cells #[.int .i64 0, .int .i64 0, .slice A9 1 1, .int .i64 1, .int .i64 0, .int .i64 0, .slice A10 1 1, .int .i64 0] 56)).alloc (.cells #[.slice (some ⟨w.heap.size, 0, none⟩) 2 2, .slice (some ⟨w.heap.size + 1, 0, none⟩) 2 2] 34)) (some ⟨w.heap.size + 1 + 1, 0, none⟩) 2 [⟨some ⟨w.heap.size, 0, none⟩, 2, 2, [atE A7 (-1) 5, atE A8 1 (-4)]⟩, ⟨some ⟨w.heap.size + 1, 0, none⟩, 2, 2, [atE A9 (-1) 1, atE A10 1 0]⟩] := by
  have b := below_alloc w (.cells #[.int .i64 0, .int .i64 0, .slice A7 1 1, .int .i64 5, .int .i64 0, .int .i64 0, .slice A8 1 1, .int .i64 (-4)] 56)
  have h := aw_ga (g := w.heap.size) (heap_alloc_new w (.cells #[.int .i64 0, .int .i64 0, .slice A7 1 1, .int .i64 5, .int .i64 0, .int .i64 0, .slice A8 1 1, .int .i64 (-4)] 56)) (I7.step b) (I8.step b) (I9.step b) (I10.step b)
  rw [World.size_alloc] at h
  exact h

theorem aw_gc {w : World} {A7 A8 A9 A10 : Option Addr} (I7 : IntsAt w A7 1 [-1]) (I8 : IntsAt w A8 1 [1]) (I9 : IntsAt w A9 1 [-1]) (I10 : IntsAt w A10 1 [1]) :
    PiecesAt (((w.alloc (.cells #[.int .i64 0, .int .i64 0, .slice A9 1 1, .int .i64 1, .int .i64 0, .int .i64 0, .slice A10 1 1, .int .i64 0] 56)).alloc (.cells #[.int .i64 0, .int .i64 0, .slice A7 1 1, .int .i64 5, .int .i64 0, .int .i64 0, .slice A8 1 1, .int .i64 (-4)] 56)).alloc (.cells #[.slice (some ⟨w.heap.size + 1, 0, none⟩) 2 2, .slice (some ⟨w.heap.size, 0, none⟩) 2 2] 34)) (some ⟨w.heap.size + 1 + 1, 0, none⟩) 2 [⟨some ⟨w.heap.size + 1, 0, none⟩, 2, 2, [atE A7 (-1) 5, atE A8 1 (-4)]⟩, ⟨some ⟨w.heap.size, 0, none⟩, 2, 2, [atE A9 (-1) 1, atE A10 1 0]⟩] := by
  have b := below_alloc w (.cells #[.int .i64 0, .int .i64 0, .slice A9 1 1, .int .i64 1, .int .i64 0, .int .i64 0, .slice A10 1 1, .int .i64 0] 56)
  have C2 := (conds_two (k := 1) (l := 0) I9 I10).step (below_alloc _ (.cells #[.int .i64 0, .int .i64 0, .slice A7 1 1, .int .i64 5, .int .i64 0, .int .i64 0, .slice A8 1 1, .int .i64 (-4)] 56))
  have C1 := conds_two (w := w.alloc (.cells #[.int .i64 0, .int .i64 0, .slice A9 1 1, .int .i64 1, .int .i64 0, .int .i64 0, .slice A10 1 1, .int .i64 0] 56)) (k := 5) (l := -4) (I7.step b) (I8.step b)
  rw [World.size_alloc] at C1
  have h := pieces_two (p := ⟨some ⟨w.heap.size + 1, 0, none⟩, 2, 2, [atE A7 (-1) 5, atE A8 1 (-4)]⟩) (q := ⟨some ⟨w.heap.size, 0, none⟩, 2, 2, [atE A9 (-1) 1, atE A10 1 0]⟩) C1 C2
  rw [World.size_alloc, World.size_alloc] at h
  exact h

theorem aw_gn {w : World} {B : Option Addr} (I : IntsAt w B 1 [1]) :
    PiecesAt ((w.alloc (.cells #[.int .i64 1, .int .i64 0, .slice B 1 1, .int .i64 (-3)] 56)).alloc (.cells #[.slice (some ⟨w.heap.size, 0, none⟩) 1 1] 34)) (some ⟨w.heap.size + 1, 0, none⟩) 1 [⟨some ⟨w.heap.size, 0, none⟩, 1, 1, [⟨1, 0, B, 1, 1, -3, [1]⟩]⟩] := by
  have C := conds_row (els := [⟨1, 0, B, 1, 1, -3, [1]⟩]) (heap_alloc_new w (.cells #[.int .i64 1, .int .i64 0, .slice B 1 1, .int .i64 (-3)] 56)) (fun e he => by
    rw [List.mem_singleton.1 he]
    exact I.step (below_alloc w _)) (by simp)
  have h := pieces_single (p := ⟨some ⟨w.heap.size, 0, none⟩, 1, 1, [⟨1, 0, B, 1, 1, -3, [1]⟩]⟩) C
  rw [World.size_alloc] at h
  exact h

set_option maxHeartbeats 16000000 in
theorem awake4 (w : World) : Calls Tryz.prog 10 #[] w fun e w' => e = .returned (.bool true) ∧ Below w.heap.size w w' := by
  have hB := Below.refl w.heap.size w
  have T1 : True := trivial
  have T2 : True := trivial
  have T3 : True := trivial
  have T4 : True := trivial
  have T5 : True := trivial
  have T6 : True := trivial
  have T7 : True := trivial
  have T8 : True := trivial
  have T9 : True := trivial
  have T10 : True := trivial
  have T11 : True := trivial
  go_enter Tryz.func10, Tryz.ntmps10
  go_wp2_with (first
    | (go_at_call 42; have t1 := T1; clear T1 t1; refine (law_at 1 0 (by omega) _).mono ?_; rintro e w1 ⟨A1, rfl, I1, hb⟩; replace hB := below_step hB hb; clear hb)
    | (go_at_call 42; have t1 := T2; clear T2 t1; refine (law_at (-1) 5 (by omega) _).mono ?_; rintro e w2 ⟨A2, rfl, I2, hb⟩; replace hB := below_step hB hb; replace I1 := I1.step hb; clear hb; have C1 := conds_two (k := 0) (l := 5) I1 I2; have Q1 := pieces_single (p := ⟨some ⟨w2.heap.size, 0, none⟩, 2, 2, [atE A1 1 0, atE A2 (-1) 5]⟩) C1; rw [World.size_alloc] at Q1; clear C1 I1 I2; have b9 := below_step (below_alloc w2 (.cells #[.int .i64 0, .int .i64 0, .slice A1 1 1, .int .i64 0, .int .i64 0, .int .i64 0, .slice A2 1 1, .int .i64 5] 56)) (below_alloc (w2.alloc (.cells #[.int .i64 0, .int .i64 0, .slice A1 1 1, .int .i64 0, .int .i64 0, .int .i64 0, .slice A2 1 1, .int .i64 5] 56)) (.cells #[.slice (some ⟨w2.heap.size, 0, none⟩) 2 2] 34)); replace hB := below_step hB b9; clear b9; have b9 := below_alloc ((w2.alloc (.cells #[.int .i64 0, .int .i64 0, .slice A1 1 1, .int .i64 0, .int .i64 0, .int .i64 0, .slice A2 1 1, .int .i64 5] 56)).alloc (.cells #[.slice (some ⟨w2.heap.size, 0, none⟩) 2 2] 34)) (.cells #[.int .i64 1, .slice (some ⟨w2.heap.size + 1, 0, none⟩) 1 1] 24); have X1 := SetBox.new ((w2.alloc (.cells #[.int .i64 0, .int .i64 0, .slice A1 1 1, .int .i64 0, .int .i64 0, .int .i64 0, .slice A2 1 1, .int .i64 5] 56)).alloc (.cells #[.slice (some ⟨w2.heap.size, 0, none⟩) 2 2] 34)) 1 (some ⟨w2.heap.size + 1, 0, none⟩) 1 1; replace hB := below_step hB b9; replace Q1 := Q1.step b9; clear b9; simp only [World.size_alloc] at X1)
    | (go_at_call 42; have t1 := T3; clear T3 t1; refine (law_at 1 (-2) (by omega) _).mono ?_; rintro e w3 ⟨A3, rfl, I3, hb⟩; replace hB := below_step hB hb; replace Q1 := Q1.step hb; replace X1 := X1.step hb; clear hb)
    | (go_at_call 42; have t1 := T4; clear T4 t1; refine (law_at (-1) 3 (by omega) _).mono ?_; rintro e w4 ⟨A4, rfl, I4, hb⟩; replace hB := below_step hB hb; replace Q1 := Q1.step hb; replace X1 := X1.step hb; replace I3 := I3.step hb; clear hb; have C3 := conds_two (k := (-2)) (l := 3) I3 I4; have Q3 := pieces_single (p := ⟨some ⟨w4.heap.size, 0, none⟩, 2, 2, [atE A3 1 (-2), atE A4 (-1) 3]⟩) C3; rw [World.size_alloc] at Q3; clear C3 I3 I4; have b9 := below_step (below_alloc w4 (.cells #[.int .i64 0, .int .i64 0, .slice A3 1 1, .int .i64 (-2), .int .i64 0, .int .i64 0, .slice A4 1 1, .int .i64 3] 56)) (below_alloc (w4.alloc (.cells #[.int .i64 0, .int .i64 0, .slice A3 1 1, .int .i64 (-2), .int .i64 0, .int .i64 0, .slice A4 1 1, .int .i64 3] 56)) (.cells #[.slice (some ⟨w4.heap.size, 0, none⟩) 2 2] 34)); replace hB := below_step hB b9; replace Q1 := Q1.step b9; replace X1 := X1.step b9; clear b9; have b9 := below_alloc ((w4.alloc (.cells #[.int .i64 0, .int .i64 0, .slice A3 1 1, .int .i64 (-2), .int .i64 0, .int .i64 0, .slice A4 1 1, .int .i64 3] 56)).alloc (.cells #[.slice (some ⟨w4.heap.size, 0, none⟩) 2 2] 34)) (.cells #[.int .i64 1, .slice (some ⟨w4.heap.size + 1, 0, none⟩) 1 1] 24); have X3 := SetBox.new ((w4.alloc (.cells #[.int .i64 0, .int .i64 0, .slice A3 1 1, .int .i64 (-2), .int .i64 0, .int .i64 0, .slice A4 1 1, .int .i64 3] 56)).alloc (.cells #[.slice (some ⟨w4.heap.size, 0, none⟩) 2 2] 34)) 1 (some ⟨w4.heap.size + 1, 0, none⟩) 1 1; replace hB := below_step hB b9; replace Q1 := Q1.step b9; replace X1 := X1.step b9; replace Q3 := Q3.step b9; clear b9; simp only [World.size_alloc] at X3; have c0 := X1.c0; have c1 := X1.c1; have d0 := X3.c0; have d1 := X3.c1)
    | (go_at_call 18; refine (aw_minus_call Q1 Q3).mono ?_; rintro e w5 hG; obtain ⟨A50, k50, c50, us, rfl, HP, -, HD, -, hb⟩ := gather_ok hG; have b9 := below_alloc w5 (.cells #[.int .i64 1, .slice A50 k50 c50] 24); replace hB := below_step (below_step hB hb) b9; replace HP := HP.step b9; have M5 := SetBox.new w5 1 A50 k50 c50; clear hG hb b9 X1 X3 Q1 Q3 c0 c1 d0 d1)
    | (go_at_call 42; have t1 := T5; clear T5 t1; refine (law_at 1 (-3) (by omega) _).mono ?_; rintro e w6 ⟨A5, rfl, I5, hb⟩; replace hB := below_step hB hb; replace HP := HP.step hb; replace M5 := M5.step hb; clear hb)
    | (go_at_call 42; have t1 := T6; clear T6 t1; refine (law_at (-1) 3 (by omega) _).mono ?_; rintro e w7 ⟨A6, rfl, I6, hb⟩; replace hB := below_step hB hb; replace HP := HP.step hb; replace M5 := M5.step hb; replace I5 := I5.step hb; clear hb; have C5 := conds_two (k := (-3)) (l := 3) I5 I6; have Q5 := pieces_single (p := ⟨some ⟨w7.heap.size, 0, none⟩, 2, 2, [atE A5 1 (-3), atE A6 (-1) 3]⟩) C5; rw [World.size_alloc] at Q5; clear C5 I5 I6; have b9 := below_step (below_alloc w7 (.cells #[.int .i64 0, .int .i64 0, .slice A5 1 1, .int .i64 (-3), .int .i64 0, .int .i64 0, .slice A6 1 1, .int .i64 3] 56)) (below_alloc (w7.alloc (.cells #[.int .i64 0, .int .i64 0, .slice A5 1 1, .int .i64 (-3), .int .i64 0, .int .i64 0, .slice A6 1 1, .int .i64 3] 56)) (.cells #[.slice (some ⟨w7.heap.size, 0, none⟩) 2 2] 34)); replace hB := below_step hB b9; replace HP := HP.step b9; replace M5 := M5.step b9; clear b9)
    | (go_at_call 11; refine (aw_norm_call Q5).mono ?_; rintro e w8 hG; obtain ⟨A80, k80, c80, vs, rfl, HN, -, HE, -, hb⟩ := gather_ok hG; have b9 := below_step hb (below_alloc w8 (.cells #[.int .i64 1, .slice A80 k80 c80] 24)); replace HN := HN.step (below_alloc w8 (.cells #[.int .i64 1, .slice A80 k80 c80] 24)); have M8 := SetBox.new w8 1 A80 k80 c80; replace hB := below_step hB b9; replace HP := HP.step b9; replace M5 := M5.step b9; clear hG hb b9 Q5))
  have I1 := one_row (w8.alloc (.cells #[.int .i64 1, .slice A80 k80 c80] 24)) 1 (by omega)
  have b1 := below_alloc (w8.alloc (.cells #[.int .i64 1, .slice A80 k80 c80] 24)) (.cells #[.int .i64 1] 3)
  have K7 := CBox.new ((w8.alloc (.cells #[.int .i64 1, .slice A80 k80 c80] 24)).alloc (.cells #[.int .i64 1] 3)) 1 0 (some ⟨w8.heap.size + 1, 0, none⟩) 1 1 (-3)
  have b2 := below_step b1 (below_alloc _ (.cells #[.int .i64 1, .int .i64 0, .slice (some ⟨w8.heap.size + 1, 0, none⟩) 1 1, .int .i64 (-3)] 56))
  have b3 := below_alloc ((w8.alloc (.cells #[.int .i64 1, .slice A80 k80 c80] 24)).alloc (.cells #[.int .i64 1] 3)) (.cells #[.int .i64 1, .int .i64 0, .slice (some ⟨w8.heap.size + 1, 0, none⟩) 1 1, .int .i64 (-3)] 56)
  replace HN := HN.step b2
  replace HP := HP.step b2
  replace M5 := M5.step b2
  replace M8 := M8.step b2
  replace I1 := I1.step b3
  replace hB := below_step hB b2
  simp only [World.size_alloc] at K7 I1
  clear b1 b2 b3
  generalize ((w8.alloc (.cells #[.int .i64 1, .slice A80 k80 c80] 24)).alloc (.cells #[.int .i64 1] 3)).alloc (.cells #[.int .i64 1, .int .i64 0, .slice (some ⟨w8.heap.size + 1, 0, none⟩) 1 1, .int .i64 (-3)] 56) = w9 at *
  have HD := Lib.hid HD
  have HE := Lib.hid HE
  generalize w5.heap.size = b5 at *
  generalize w8.heap.size = b8 at *
  have c0 := M5.c0
  have c1 := M5.c1
  have d0 := M8.c0
  have d1 := M8.c1
  have e0 := K7.c0
  have e1 := K7.c1
  have e2 := K7.c2
  have e3 := K7.c3
  go_region_held3 (fun W => W.cell? ⟨b5, 0, none⟩ = some (.int .i64 1) ∧ W.cell? ⟨b5, 1, none⟩ = some (.slice A50 k50 c50) ∧ W.cell? ⟨b8, 0, none⟩ = some (.int .i64 1) ∧ W.cell? ⟨b8, 1, none⟩ = some (.slice A80 k80 c80) ∧ W.cell? ⟨b8 + 1 + 1, 0, none⟩ = some (.int .i64 1) ∧ W.cell? ⟨b8 + 1 + 1, 1, none⟩ = some (.int .i64 0) ∧ W.cell? ⟨b8 + 1 + 1, 2, none⟩ = some (.slice (some ⟨b8 + 1, 0, none⟩) 1 1) ∧ W.cell? ⟨b8 + 1 + 1, 3, none⟩ = some (.int .i64 (-3))) (first | with_reducible exact ⟨c0, c1, d0, d1, e0, e1, e2, e3⟩ | go_keep)
    (first
      | (go_at_call 42; have t1 := T7; clear T7 t1; refine (law_at (-1) (5) (by omega) _).mono ?_; rintro e w10 ⟨A7, rfl, I7, hb⟩; have hx : Below w9.heap.size w9 w10 := (by first | exact hb | exact below_step (Below.refl _ w9).drew hb | exact below_step (below_alloc _ _) hb); replace HN := HN.step hx; replace HP := HP.step hx; replace M5 := M5.step hx; replace M8 := M8.step hx; replace K7 := K7.step hx; replace I1 := I1.step hx; replace hB := below_step hB hx; clear hb hx; clear c0 c1 d0 d1 e0 e1 e2 e3; have c0 := M5.c0; have c1 := M5.c1; have d0 := M8.c0; have d1 := M8.c1; have e0 := K7.c0; have e1 := K7.c1; have e2 := K7.c2; have e3 := K7.c3)
      | (go_at_call 42; have t1 := T8; clear T8 t1; refine (law_at (1) (-4) (by omega) _).mono ?_; rintro e w11 ⟨A8, rfl, I8, hb⟩; have hx : Below w10.heap.size w10 w11 := (by first | exact hb | exact below_step (Below.refl _ w10).drew hb | exact below_step (below_alloc _ _) hb); replace HN := HN.step hx; replace HP := HP.step hx; replace M5 := M5.step hx; replace M8 := M8.step hx; replace K7 := K7.step hx; replace I1 := I1.step hx; replace I7 := I7.step hx; replace hB := below_step hB hx; clear hb hx; clear c0 c1 d0 d1 e0 e1 e2 e3; have c0 := M5.c0; have c1 := M5.c1; have d0 := M8.c0; have d1 := M8.c1; have e0 := K7.c0; have e1 := K7.c1; have e2 := K7.c2; have e3 := K7.c3)
      | (go_at_call 42; have t1 := T9; clear T9 t1; refine (law_at (-1) (1) (by omega) _).mono ?_; rintro e w12 ⟨A9, rfl, I9, hb⟩; have hx : Below w11.heap.size w11 w12 := (by first | exact hb | exact below_step (Below.refl _ w11).drew hb | exact below_step (below_alloc _ _) hb); (try (have R9 : w12.heap[w11.heap.size]? = some (.cells (ccells [atE A7 (-1) 5, atE A8 1 (-4)]).toArray 56 (0, 0)) := (hb.block _ (by simp)).trans (heap_alloc_new w11 (.cells #[.int .i64 0, .int .i64 0, .slice A7 1 1, .int .i64 5, .int .i64 0, .int .i64 0, .slice A8 1 1, .int .i64 (-4)] 56)))); replace HN := HN.step hx; replace HP := HP.step hx; replace M5 := M5.step hx; replace M8 := M8.step hx; replace K7 := K7.step hx; replace I1 := I1.step hx; replace I7 := I7.step hx; replace I8 := I8.step hx; replace hB := below_step hB hx; clear hb hx; clear c0 c1 d0 d1 e0 e1 e2 e3; have c0 := M5.c0; have c1 := M5.c1; have d0 := M8.c0; have d1 := M8.c1; have e0 := K7.c0; have e1 := K7.c1; have e2 := K7.c2; have e3 := K7.c3)
      | (go_at_call 42; have t1 := T10; clear T10 t1; refine (law_at (1) (0) (by omega) _).mono ?_; rintro e w13 ⟨A10, rfl, I10, hb⟩; have hx : Below w12.heap.size w12 w13 := (by first | exact hb | exact below_step (Below.refl _ w12).drew hb | exact below_step (below_alloc _ _) hb); (try (replace R9 := (hx.block _ (Array.getElem?_eq_some_iff.1 R9).1).trans R9)); (try (have R10 : w13.heap[w12.heap.size]? = some (.cells (ccells [atE A7 (-1) 5, atE A8 1 (-4)]).toArray 56 (0, 0)) := (hb.block _ (by simp)).trans (heap_alloc_new w12 (.cells #[.int .i64 0, .int .i64 0, .slice A7 1 1, .int .i64 5, .int .i64 0, .int .i64 0, .slice A8 1 1, .int .i64 (-4)] 56)))); replace HN := HN.step hx; replace HP := HP.step hx; replace M5 := M5.step hx; replace M8 := M8.step hx; replace K7 := K7.step hx; replace I1 := I1.step hx; replace I7 := I7.step hx; replace I8 := I8.step hx; replace I9 := I9.step hx; replace hB := below_step hB hx; clear hb hx; clear c0 c1 d0 d1 e0 e1 e2 e3; have c0 := M5.c0; have c1 := M5.c1; have d0 := M8.c0; have d1 := M8.c1; have e0 := K7.c0; have e1 := K7.c1; have e2 := K7.c2; have e3 := K7.c3)
      | (go_at_call 41; have t1 := T11; clear T11 t1; (first | (refine (aw_core (HP.step (below_step (below_alloc _ _) (below_alloc _ _))) (aw_ga R9 I7 I8 I9 I10) HD.out).mono ?_; rintro e w14 ⟨rfl, hb⟩; have hx := below_step (below_step (below_alloc _ _) (below_alloc _ _)) hb) | (refine (aw_core (HP.step (below_step (below_alloc _ _) (below_alloc _ _))) (aw_ga R10 I7 I8 I9 I10) HD.out).mono ?_; rintro e w14 ⟨rfl, hb⟩; have hx := below_step (below_step (below_alloc _ _) (below_alloc _ _)) hb) | (refine (aw_core (HP.step (below_step (below_step (below_alloc _ _) (below_alloc _ _)) (below_alloc _ _))) (aw_gb I7 I8 I9 I10) HD.out).mono ?_; rintro e w14 ⟨rfl, hb⟩; have hx := below_step (below_step (below_step (below_alloc _ _) (below_alloc _ _)) (below_alloc _ _)) hb) | (refine (aw_core (HP.step (below_step (below_step (below_alloc _ _) (below_alloc _ _)) (below_alloc _ _))) (aw_gc I7 I8 I9 I10) HD.out).mono ?_; rintro e w14 ⟨rfl, hb⟩; have hx := below_step (below_step (below_step (below_alloc _ _) (below_alloc _ _)) (below_alloc _ _)) hb)); replace HN := HN.step hx; replace M5 := M5.step hx; replace M8 := M8.step hx; replace K7 := K7.step hx; replace I1 := I1.step hx; replace hB := below_step hB hx; clear hb hx; clear c0 c1 d0 d1 e0 e1 e2 e3; have c0 := M5.c0; have c1 := M5.c1; have d0 := M8.c0; have d1 := M8.c1; have e0 := K7.c0; have e1 := K7.c1; have e2 := K7.c2; have e3 := K7.c3)
      | (go_at_call 41; refine (aw_core (HN.step (below_step (below_alloc _ _) (below_alloc _ _))) (aw_gn I1) HE.out).mono ?_; rintro e w15 ⟨rfl, hb⟩; have hx := below_step (below_step (below_alloc _ _) (below_alloc _ _)) hb; replace M5 := M5.step hx; replace M8 := M8.step hx; replace K7 := K7.step hx; replace hB := below_step hB hx; clear hb hx; clear c0 c1 d0 d1 e0 e1 e2 e3; have c0 := M5.c0; have c1 := M5.c1; have d0 := M8.c0; have d1 := M8.c1; have e0 := K7.c0; have e1 := K7.c1; have e2 := K7.c2; have e3 := K7.c3))
  all_goals
    go_wp2
    go_ret
    exact ⟨rfl, hB⟩
end Go.Proofs.YtkgnlloioaobiaaGreat

/-
  Few of layer 4's laws.
-/
namespace Go.Proofs.YtkgnlloioaobiaaGreat
open Go.RowKit
set_option linter.unusedVariables false
set_option maxRecDepth 100000
set_option linter.unusedSimpArgs false

/-- A set as it lies in memory. -/
structure SEl where
  D : Int
  A : Option Addr
  n : Nat
  c : Nat
  ps : List PEl
/-- A list of sets that can be read. -/
structure SetsAt (w : World) (A : Option Addr) (m : Nat) (ss : List SEl) : Prop where
  len : ss.length = m
  small : m ≤ 4
  cells : 0 < m → ∃ b off, A = some ⟨b, off, none⟩ ∧ b < w.heap.size ∧ ∀ j s, ss[j]? = some s → w.cell? ⟨b, off + j * 2, none⟩ = some (.int .i64 s.D) ∧ w.cell? ⟨b, off + j * 2 + 1, none⟩ = some (.slice s.A s.n s.c)
  pieces : ∀ s ∈ ss, PiecesAt w s.A s.n s.ps
theorem SetsAt.step {w w' : World} {A : Option Addr} {m : Nat} {ss : List SEl} (h : SetsAt w A m ss) (hb : Below w.heap.size w w') : SetsAt w' A m ss :=
  ⟨h.len, h.small, fun hm => let ⟨b, off, hA, hlt, hc⟩ := h.cells hm; ⟨b, off, hA, Nat.lt_of_lt_of_le hlt hb.size, fun j s hs => ⟨(hb.cell (p := ⟨b, off + j * 2, none⟩) hlt).trans (hc j s hs).1, (hb.cell (p := ⟨b, off + j * 2 + 1, none⟩) hlt).trans (hc j s hs).2⟩⟩, fun s hs => (h.pieces s hs).step hb⟩
theorem SetsAt.at {w : World} {A : Option Addr} {m : Nat} {ss : List SEl} (h : SetsAt w A m ss) {j : Nat} (hj : j < m) : ∃ b off s, A = some ⟨b, off, none⟩ ∧ b < w.heap.size ∧ ss[j]? = some s ∧ s ∈ ss ∧ (w.cell? ⟨b, off + j * 2, none⟩ = some (.int .i64 s.D) ∧ w.cell? ⟨b, off + j * 2 + 1, none⟩ = some (.slice s.A s.n s.c)) ∧ PiecesAt w s.A s.n s.ps := by
  obtain ⟨b, off, hA, hlt, hc⟩ := h.cells (by omega)
  have hj' : j < ss.length := by rw [h.len]; exact hj
  exact ⟨b, off, ss[j], hA, hlt, List.getElem?_eq_getElem hj', List.getElem_mem hj', hc j _ (List.getElem?_eq_getElem hj'), h.pieces _ (List.getElem_mem hj')⟩

def fewP (C : Int) (ps : List PEl) : Bool := ps.all fun p => decide ((p.els.length : Int) ≤ C)
def fewC (C : Int) (ss : List SEl) : Bool := ss.all fun s => fewP C s.ps
def fewN : List SEl → Int
  | [] => 0
  | s :: ss => (s.ps.length : Int) + fewN ss
def fewB (P C : Int) (ss : List SEl) : Bool := fewC C ss && decide (fewN ss ≤ P)
theorem fewN_append : ∀ l l' : List SEl, fewN (l ++ l') = fewN l + fewN l'
  | [], l' => by simp [fewN]
  | s :: l, l' => by simp only [List.cons_append, fewN, fewN_append l l']; omega
theorem fewN_take {ss : List SEl} {i : Nat} {s : SEl} (h : ss[i]? = some s) : fewN (ss.take (i + 1)) = fewN (ss.take i) + (s.ps.length : Int) := by
  rw [List.take_add_one, h, Option.toList, fewN_append]
  simp [fewN]


set_option maxHeartbeats 4000000 in
theorem few (P C : Int) (A : Option Addr) (m c : Nat) (ss : List SEl) (w : World) (S0 : SetsAt w A m ss) :
    Calls Tryz.prog 9 #[.int .i64 P, .int .i64 C, .slice A m c] w fun e w' => e = .returned (.bool (fewB P C ss)) ∧ Below w.heap.size w w' := by
  have hsm := S0.small
  have HL := Lib.hid S0.len
  obtain ⟨er, her⟩ : ∃ er, fewB P C ss = er := ⟨_, rfl⟩
  rw [her]
  have HE := Lib.hid her
  clear her
  go_enter Tryz.func9, Tryz.ntmps9
  go_wp2
  go_loopw [7, 14] (fun u v wr => ∃ (i : Nat) (N : Int), i ≤ m ∧ v = .int .i64 i ∧ u = .int .i64 N ∧ (0 ≤ N ∧ N ≤ i * 17592186044416) ∧ (fewN (ss.take i) = N ∧ ∀ j x, j < i → ss[j]? = some x → fewP C x.ps = true) ∧ Below w.heap.size w wr) (fun _ v _ => m - (intOf v).toNat)
  case atStart => exact ⟨0, 0, Nat.zero_le _, rfl, rfl, by omega, ⟨rfl, fun j x h => absurd h (by omega)⟩, Below.refl _ _⟩
  case round =>
    obtain ⟨i, N, hi, rfl, rfl, ⟨hN0, hN1⟩, hgood, hbr⟩ := hrel
    have HG := Lib.hid hgood
    clear hgood
    by_cases hlt : i < m
    · obtain ⟨b, off, s, rfl, hblt, hsj, hmem, hcs, hP⟩ := (S0.step hbr).at hlt; obtain ⟨x0, x1⟩ := hcs; have HSJ := Lib.hid hsj; obtain ⟨sD, sA, sn, sc, sps⟩ := s; simp only at x0 x1 hP; have hq1 : (i : Int) < m := (by omega); have b5 := below_alloc wr (.cells #[.int .i64 sD, .slice sA sn sc] 24); have P1 := hP.step b5; have X1 := SetBox.new wr sD sA sn sc; have z1 := X1.c1; have hss := hP.small; have HPL := Lib.hid hP.len; have hbr1 := hbr.trans (b5.mono hbr.size); clear b5 hmem hsj hP
      have hw : wrap64 (N + (sn : Int)) = N + sn := IntWalk.wrap64_in _ (by omega)
      go_wp2
      generalize hw2 : wr.alloc (.cells #[.int .i64 sD, .slice sA sn sc] 24) = w2 at *
      clear hw2 z1 x0 x1
      go_loopw [26] (fun u wr => ∃ j : Nat, j ≤ sn ∧ u = .int .i64 j ∧ (∀ k x, k < j → sps[k]? = some x → decide ((x.els.length : Int) ≤ C) = true) ∧ Below w2.heap.size w2 wr) (fun u _ => sn - (intOf u).toNat)
      case atStart => exact ⟨0, Nat.zero_le _, rfl, (fun j x h => absurd h (by omega)), Below.refl _ _⟩
      case round =>
        obtain ⟨j, hj, rfl, hgood2, hbs⟩ := hrel
        have HG2 := Lib.hid hgood2
        clear hgood2
        by_cases hlt2 : j < sn
        · obtain ⟨b2, off2, p, rfl, hblt2, hpj, hmem, hcell, hCp⟩ := (P1.step hbs).at hlt2
          have HPJ := Lib.hid hpj
          obtain ⟨pA, pn, pc, pels⟩ := p
          simp only at hcell hCp
          have hq2 : (j : Int) < sn := by omega
          have HPE := Lib.hid hCp.len
          have hps := hCp.small
          clear hmem hpj hCp
          by_cases hC : C < (pn : Int)
          · have HR := Lib.hid (show er = false by
              rw [← HE.out]; unfold fewB fewC
              rw [all_not HSJ.out (show fewP C sps = false from all_not HPJ.out (decide_eq_false (by have := HPE.out; simp only; omega))), Bool.false_and])
            go_wp2
            go_ret
            exact ⟨ret_bool HR.out.symm, hbr1.trans (hbs.mono hbr1.size)⟩
          · go_wp2
            go_roundw
            case rel => exact ⟨j + 1, by omega, by go_num, (fun k x hk hkx => by
              rcases Nat.lt_or_eq_of_le (Nat.le_of_lt_succ hk) with h | rfl
              · exact HG2.out k x h hkx
              · rw [HPJ.out] at hkx; cases hkx; exact decide_eq_true (by have := HPE.out; simp only; omega)), hbs⟩
            case measure => simp [intOf]; omega
        · have hge : ¬ ((j : Int) < sn) := by omega
          have HF := Lib.hid (show fewP C sps = true from all_yes fun k x hk hkx => HG2.out k x (by have hk : k < sps.length := hk; have := HPL.out; omega) hkx)
          go_wp2
          go_roundw
          case rel => exact ⟨i + 1, N + sn, by omega, by go_num, by first | rfl | rw [hw], by omega, ⟨by rw [fewN_take HSJ.out, HG.out.1]; have := HPL.out; simp only; omega, fun k x hk hkx => by
            rcases Nat.lt_or_eq_of_le (Nat.le_of_lt_succ hk) with h | rfl
            · exact HG.out.2 k x h hkx
            · rw [HSJ.out] at hkx; cases hkx; exact HF.out⟩, hbr1.trans (hbs.mono hbr1.size)⟩
          case measure => simp [intOf]; omega
    · have hge : ¬ ((i : Int) < m) := by omega
      have HR := Lib.hid (show er = decide (N ≤ P) by
        rw [← HE.out]; unfold fewB fewC
        rw [all_yes fun j x hj => HG.out.2 j x (by have := HL.out; omega), Bool.true_and, ← HG.out.1, List.take_of_length_le (by have := HL.out; omega)])
      go_wp2
      go_ret
      exact ⟨ret_bool HR.out.symm, hbr⟩
end Go.Proofs.YtkgnlloioaobiaaGreat

/-
  The reference's Valid of sets.
-/
namespace Go.Proofs.YtkgnlloioaobiaaGreat
open Go.RowKit
set_option linter.unusedVariables false
set_option maxRecDepth 100000
set_option linter.unusedSimpArgs false

theorem piece_bad {D : Int} {els : List CEl} {i : Nat} {e : CEl} (he : els[i]? = some e) (h : e.ok = false ∨ (e.n : Int) ≠ D) : condsE D els ≠ 0 := by
  unfold condsE
  rcases h with h | h
  · rw [if_neg (by rw [all_not he h]; decide)]; decide
  · by_cases ho : els.all CEl.ok = true
    · rw [if_pos ho, if_neg (by rw [all_not (p := fun e : CEl => (e.n : Int) == D) he (by simpa using h)]; decide)]; decide
    · rw [if_neg ho]; decide
theorem piece_good {D : Int} {els : List CEl} (h : ∀ i e, i < els.length → els[i]? = some e → e.ok = true ∧ (e.n : Int) = D) : condsE D els = 0 := by
  unfold condsE
  rw [if_pos (all_yes fun i e hi he => (h i e hi he).1), if_pos (all_yes fun i e hi he => by simpa using (h i e hi he).2)]
theorem piece_len {D : Int} {p : PEl} (h : ¬ p.els.length ≤ 96) : pieceOk D p = false := by
  unfold pieceOk; rw [decide_eq_false h]; rfl
theorem piece_no {D : Int} {p : PEl} (h : condsE D p.els ≠ 0) : pieceOk D p = false := by
  unfold pieceOk; rw [decide_eq_false h, Bool.and_false]
theorem piece_yes {D : Int} {p : PEl} (h : p.els.length ≤ 96) (h0 : condsE D p.els = 0) : pieceOk D p = true := by
  unfold pieceOk; rw [decide_eq_true h, decide_eq_true h0]; rfl


set_option maxHeartbeats 4000000 in
theorem ref_svalid (D : Int) (A : Option Addr) (n c : Nat) (ps : List PEl) (w : World) (h : PiecesAt w A n ps) :
    Calls Tryz.prog 46 #[setV D A n c] w fun e w' => e = .returned (.bool (validS D ps)) ∧ Below w.heap.size w w' := by
  have hB := below_alloc w (.cells #[.int .i64 D, .slice A n c] 24)
  have P0 := h.step hB
  have B1 := SetBox.new w D A n c
  have c0 := B1.c0
  have c1 := B1.c1
  have hl := h.len
  have hsm := h.small
  by_cases hd : 0 ≤ D ∧ D ≤ 12 ∧ ps.length ≤ 400
  · have HE := Lib.hid (validS_in hd)
    obtain ⟨v, hv⟩ : ∃ v, validS D ps = v := ⟨_, rfl⟩
    rw [hv] at HE ⊢
    obtain ⟨hd0, hd1, hd2⟩ := hd
    have hn : (n : Int) ≤ 400 := by omega
    have q1 : ¬ (400 : Int) < (n : Int) := by omega
    have HL := Lib.hid hl
    clear hv h hd2 hl
    go_enter Tryz.func46, Tryz.ntmps46
    go_wp2
    generalize hw0 : w.alloc (.cells #[.int .i64 D, .slice A n c] 24) = w0 at *
    clear hw0 q1
    go_loopw [24] (fun u wr => ∃ i : Nat, i ≤ n ∧ u = .int .i64 i ∧ (∀ j x, j < i → ps[j]? = some x → pieceOk D x = true) ∧ Below w0.heap.size w0 wr) (fun u _ => n - (intOf u).toNat)
    case atStart => exact ⟨0, Nat.zero_le _, rfl, (fun j x h => absurd h (by omega)), Below.refl _ _⟩
    case round =>
      obtain ⟨i, hi, rfl, hgood, hbr⟩ := hrel
      have HG := Lib.hid hgood
      have B2 := B1.step hbr
      clear hgood c0 c1
      by_cases hlt : i < n
      · obtain ⟨b, off, p, rfl, hblt, hpj, hmem, hcell, hCp⟩ := (P0.step hbr).at hlt; have HPJ := Lib.hid hpj; obtain ⟨pA, pn, pc, pels⟩ := p; simp only at hcell hCp; have hq1 : (i : Int) < n := (by omega); have hps := hCp.small; have HPL := Lib.hid hCp.len; clear hmem hpj
        by_cases h96 : pn ≤ 96
        · have q96 : ¬ (96 : Int) < (pn : Int) := by omega
          have C1 := hCp
          go_wp2
          clear hcell q96 hblt
          generalize hw2 : wr = w2 at *
          clear hw2
          go_loopw [33] (fun u wr => ∃ j : Nat, j ≤ pn ∧ u = .int .i64 j ∧ (∀ k x, k < j → pels[k]? = some x → x.ok = true ∧ (x.n : Int) = D) ∧ Below w2.heap.size w2 wr) (fun u _ => pn - (intOf u).toNat)
          case atStart => exact ⟨0, Nat.zero_le _, rfl, (fun j x h => absurd h (by omega)), Below.refl _ _⟩
          case round =>
            obtain ⟨j, hj, rfl, hgood2, hbs⟩ := hrel
            have HG2 := Lib.hid hgood2
            clear hgood2
            by_cases hlt2 : j < pn
            · obtain ⟨b2, off2, e, rfl, hblt2, hej, hmem, hcs, hin⟩ := (C1.step hbs).at hlt2; obtain ⟨x0, x1, x2, x3⟩ := hcs; have HEJ := Lib.hid hej; obtain ⟨eq, eM, eA, en, ec, eK, exs⟩ := e; simp only at x0 x1 x2 x3 hin; have hq2 : (j : Int) < pn := (by omega); have b5 := below_alloc wr (.cells #[.int .i64 eq, .int .i64 eM, .slice eA en ec, .int .i64 eK] 56); have y1 := hin.step b5; have X1 := CBox.new wr eq eM eA en ec eK; have B3 := (B2.step hbs).step b5; have hbr1 := hbs.trans (b5.mono hbs.size); clear b5 hmem hej hin hbs
              cases hcv : validC eq eM exs eK
              · have HV := Lib.hid hcv
                have HR := Lib.hid (show v = false by rw [HE.out, all_not HPJ.out (piece_no (piece_bad HEJ.out (.inl hcv)))])
                clear hcv
                go_wp2_with (go_at_call 58; refine (ref_cvalid _ _ _ _ _ _ exs _ y1).mono ?_; rintro e w1 ⟨rfl, hb⟩; rw [HV.out]; replace hbr1 := hbr1.trans (hb.mono hbr1.size))
                go_ret
                exact ⟨ret_bool HR.out.symm, below_step hB (hbr.trans (hbr1.mono hbr.size))⟩
              · have HV := Lib.hid hcv
                by_cases hnD : (en : Int) = D
                · have HN := Lib.hid hnD
                  have q1 : ((en : Int) != D) = false := by simpa using hnD
                  have q2 : ((en : Int) == D) = true := by simpa using hnD
                  clear hcv hnD
                  go_wp2_with (go_at_call 58; refine (ref_cvalid _ _ _ _ _ _ exs _ y1).mono ?_; rintro e w1 ⟨rfl, hb⟩; rw [HV.out]; replace hbr1 := hbr1.trans (hb.mono hbr1.size); have z2 := (X1.step hb).c2; have c0 := (B3.step hb).c0)
                  go_roundw
                  case rel => exact ⟨j + 1, by omega, by go_num, (fun k x hk hkx => by
                    rcases Nat.lt_or_eq_of_le (Nat.le_of_lt_succ hk) with h | rfl
                    · exact HG2.out k x h hkx
                    · rw [HEJ.out] at hkx; cases hkx; exact ⟨HV.out, HN.out⟩), hbr1⟩
                  case measure => simp [intOf]; omega
                · have HR := Lib.hid (show v = false by rw [HE.out, all_not HPJ.out (piece_no (piece_bad HEJ.out (.inr hnD)))])
                  have q1 : ((en : Int) != D) = true := by simpa using hnD
                  have q2 : ((en : Int) == D) = false := by simpa using hnD
                  clear hcv hnD
                  go_wp2_with (go_at_call 58; refine (ref_cvalid _ _ _ _ _ _ exs _ y1).mono ?_; rintro e w1 ⟨rfl, hb⟩; rw [HV.out]; replace hbr1 := hbr1.trans (hb.mono hbr1.size); have z2 := (X1.step hb).c2; have c0 := (B3.step hb).c0)
                  go_ret
                  exact ⟨ret_bool HR.out.symm, below_step hB (hbr.trans (hbr1.mono hbr.size))⟩
            · have hge : ¬ ((j : Int) < pn) := by omega
              have HP := Lib.hid (show pieceOk D ⟨pA, pn, pc, pels⟩ = true from piece_yes (by have := HPL.out; simp only; omega) (piece_good fun k x hk hkx => HG2.out k x (by have hk : k < pels.length := hk; have := HPL.out; omega) hkx))
              go_wp2
              go_roundw
              case rel => exact ⟨i + 1, by omega, by go_num, (fun k x hk hkx => by
                rcases Nat.lt_or_eq_of_le (Nat.le_of_lt_succ hk) with h | rfl
                · exact HG.out k x h hkx
                · rw [HPJ.out] at hkx; cases hkx; exact HP.out), hbr.trans (hbs.mono hbr.size)⟩
              case measure => simp [intOf]; omega
        · have HV := Lib.hid (show v = false by rw [HE.out, all_not HPJ.out (piece_len (by have := HPL.out; simp only; omega))])
          have q96 : (96 : Int) < (pn : Int) := by omega
          go_wp2
          go_ret
          exact ⟨ret_bool HV.out.symm, below_step hB hbr⟩
      · have hge : ¬ ((i : Int) < n) := by omega
        have HV := Lib.hid (show v = true by rw [HE.out]; exact all_yes fun j x hj => HG.out j x (by have := HL.out; omega))
        go_wp2
        go_ret
        exact ⟨ret_bool HV.out.symm, below_step hB hbr⟩
  · have HE := Lib.hid (validS_out hd)
    rw [hl] at hd
    rcases (show D < 0 ∨ (0 ≤ D ∧ 12 < D) ∨ (0 ≤ D ∧ D ≤ 12 ∧ 400 < n) by omega) with h0 | ⟨h0, h1⟩ | ⟨h0, h1, h2⟩
    · clear hd
      go_enter Tryz.func46, Tryz.ntmps46
      go_wp2
      go_ret
      exact ⟨ret_bool HE.out.symm, hB⟩
    · clear hd
      go_enter Tryz.func46, Tryz.ntmps46
      go_wp2
      go_ret
      exact ⟨ret_bool HE.out.symm, hB⟩
    · have h3 : (400 : Int) < (n : Int) := by omega
      clear hd
      go_enter Tryz.func46, Tryz.ntmps46
      go_wp2
      go_ret
      exact ⟨ret_bool HE.out.symm, hB⟩
end Go.Proofs.YtkgnlloioaobiaaGreat

/-
  What the laws of layer 4 share: rows of sets, Few at one set and at two.
-/
namespace Go.Proofs.YtkgnlloioaobiaaGreat
open Go.RowKit
set_option linter.unusedVariables false
set_option linter.unusedSimpArgs false
set_option maxRecDepth 100000

theorem sets_one {w : World} {D : Int} {A : Option Addr} {n c : Nat} {ps : List PEl} (h : PiecesAt w A n ps) : SetsAt (w.alloc (.cells #[.int .i64 D, .slice A n c] 24)) (some ⟨w.heap.size, 0, none⟩) 1 [⟨D, A, n, c, ps⟩] := by
  have X := SetBox.new w D A n c
  refine ⟨rfl, by omega, fun _ => ⟨w.heap.size, 0, rfl, X.lt, fun j s hs => ?_⟩, fun s hs => ?_⟩
  · match j, hs with
    | 0, hs =>
      simp at hs
      subst hs
      exact ⟨X.c0, X.c1⟩
    | j + 1, hs => simp at hs
  · rw [List.mem_singleton.1 hs]
    exact h.step (below_alloc w _)
theorem sets_two {w : World} {D : Int} {A : Option Addr} {n c : Nat} {ps : List PEl} {D' : Int} {A' : Option Addr} {n' c' : Nat} {ps' : List PEl} (h : PiecesAt w A n ps) (h' : PiecesAt w A' n' ps') : SetsAt (w.alloc (.cells #[.int .i64 D, .slice A n c, .int .i64 D', .slice A' n' c'] 24)) (some ⟨w.heap.size, 0, none⟩) 2 [⟨D, A, n, c, ps⟩, ⟨D', A', n', c', ps'⟩] := by
  have hg := heap_alloc_new w (.cells #[.int .i64 D, .slice A n c, .int .i64 D', .slice A' n' c'] 24)
  have key : ∀ (k : Nat) (v : Value), #[Value.int .i64 D, .slice A n c, .int .i64 D', .slice A' n' c'][k]? = some v → (w.alloc (.cells #[.int .i64 D, .slice A n c, .int .i64 D', .slice A' n' c'] 24)).cell? ⟨w.heap.size, k, none⟩ = some v := fun k v hv => by rw [cell_of_row _ _ k _ _ (0, 0) hg]; exact hv
  refine ⟨rfl, by omega, fun _ => ⟨w.heap.size, 0, rfl, by simp, fun j s hs => ?_⟩, fun s hs => ?_⟩
  · match j, hs with
    | 0, hs =>
      simp at hs
      subst hs
      exact ⟨key 0 _ rfl, key 1 _ rfl⟩
    | 1, hs =>
      simp at hs
      subst hs
      exact ⟨key 2 _ rfl, key 3 _ rfl⟩
    | j + 2, hs => simp at hs
  · rcases List.mem_cons.1 hs with rfl | hs
    · exact h.step (below_alloc w _)
    · rw [List.mem_singleton.1 hs]
      exact h'.step (below_alloc w _)
theorem few_one {w : World} {P C : Int} {D : Int} {A : Option Addr} {n c : Nat} {ps : List PEl} (g c1 : Nat) (hg : w.heap.size = g) (h : PiecesAt w A n ps) :
    Calls Tryz.prog 9 #[.int .i64 P, .int .i64 C, .slice (some ⟨g, 0, none⟩) 1 c1] (w.alloc (.cells #[.int .i64 D, .slice A n c] 24)) fun e w' => e = .returned (.bool (fewB P C [⟨D, A, n, c, ps⟩])) ∧ Below w.heap.size w w' := by
  subst hg
  refine (few P C _ 1 c1 _ _ (sets_one h)).mono ?_
  rintro e w' ⟨he, hb⟩
  exact ⟨he, below_step (below_alloc w _) hb⟩
theorem few_two {w : World} {P C : Int} {D : Int} {A : Option Addr} {n c : Nat} {ps : List PEl} {D' : Int} {A' : Option Addr} {n' c' : Nat} {ps' : List PEl} (g c1 : Nat) (hg : w.heap.size = g) (h : PiecesAt w A n ps) (h' : PiecesAt w A' n' ps') :
    Calls Tryz.prog 9 #[.int .i64 P, .int .i64 C, .slice (some ⟨g, 0, none⟩) 2 c1] (w.alloc (.cells #[.int .i64 D, .slice A n c, .int .i64 D', .slice A' n' c'] 24)) fun e w' => e = .returned (.bool (fewB P C [⟨D, A, n, c, ps⟩, ⟨D', A', n', c', ps'⟩])) ∧ Below w.heap.size w w' := by
  subst hg
  refine (few P C _ 2 c1 _ _ (sets_two h h')).mono ?_
  rintro e w' ⟨he, hb⟩
  exact ⟨he, below_step (below_alloc w _) hb⟩
end Go.Proofs.YtkgnlloioaobiaaGreat

/-
  Several lists of conditions that a call owns: an append to one leaves the others.
-/
namespace Go.Proofs.YtkgnlloioaobiaaGreat
open Go.RowKit
set_option linter.unusedVariables false
set_option linter.unusedSimpArgs false
set_option maxRecDepth 100000

/-- Two rows are not one. -/
def RowsApart (u v : Value) : Prop := ∀ g, u.ownBlock = some g → v.ownBlock = some g → False
theorem RowsApart.symm {u v : Value} (h : RowsApart u v) : RowsApart v u := fun g h1 h2 => h g h2 h1
theorem RowsApart.nil (v : Value) : RowsApart (.slice none 0 0) v := fun g h _ => by simp [Value.ownBlock] at h
theorem CL2.lt {N0 N : Nat} {W : World} {u : Value} {els : List CEl} (h : CL2 N0 N W u els) {g : Nat} (hg : u.ownBlock = some g) : g < W.heap.size := by
  rcases h.own.2 with ⟨hv, _⟩ | ⟨gl, cap, cur, hv, _, hc, _⟩
  · rw [hv] at hg; simp [Value.ownBlock] at hg
  · rw [hv] at hg
    simp only [Value.ownBlock, Option.some.injEq] at hg
    subst hg
    exact (Array.getElem?_eq_some_iff.1 hc).1
theorem CL2.typed {N0 N : Nat} {W : World} {u : Value} {els : List CEl} (h : CL2 N0 N W u els) : ∀ r, u.ownBlock = some r → ∃ cur fr, W.heap[r]? = some (.cells cur 56 fr) := fun r e => by
  rcases h.own.2 with ⟨hv, _⟩ | ⟨gl, cap', cur', hv, hgN, hgl, _⟩
  · rw [hv] at e; cases e
  · rw [hv] at e
    simp only [Value.ownBlock, Option.some.injEq] at e
    subst e
    exact ⟨cur', _, hgl⟩
/-- Another list's row has grown. -/
theorem CL2.others {N0 N N1 N2 : Nat} {W W' : World} {u v : Value} {els els' : List CEl} (h : CL2 N0 N W v els) (hu : CL2 N1 N2 W u els') (hg : W.grownBy W' u.ownBlock) (hne : RowsApart u v) : CL2 N0 N W' v els := by
  refine ⟨⟨h.own.1, ?_⟩, h.few, fun e he => (h.ints e he).grown (h.rows e he) hg hu.typed, fun e he => (h.rows e he).grown hg hu.typed⟩
  rcases h.own.2 with h0 | ⟨g, cap, cur, hv, hgN, hc, rest⟩
  · exact .inl h0
  · refine .inr ⟨g, cap, cur, hv, hgN, (hg.block g (Array.getElem?_eq_some_iff.1 hc).1 fun e => ?_).trans hc, rest⟩
    exact hne g e.symm (by rw [hv]; rfl)
theorem RowsApart.grown {N0 N : Nat} {W : World} {u v u' : Value} {els : List CEl} (h : RowsApart u v) (hv : CL2 N0 N W v els) {g : Nat} (hu : u'.ownBlock = some g) (hg : u.ownBlock = some g ∨ g = W.heap.size) : RowsApart u' v := fun k h1 h2 => by
  rw [hu] at h1
  cases h1
  rcases hg with hg | rfl
  · exact h g hg h2
  · exact absurd (hv.lt h2) (Nat.lt_irrefl _)

/-- Some conditions are appended; the new row is the old one or a new one. -/
theorem append_conds3 {N0 N : Nat} {w : World} {u : Value} {els : List CEl} (h : CL2 N0 N w u els) (g : Nat) (new : List CEl) (hg : w.heap[g]? = some (.cells (ccells new).toArray 56 (0, 0))) (hi : ∀ e ∈ new, IntsAt w e.A e.n e.xs) (hro : ∀ e ∈ new, RowOk N0 w e.A e.n) (hm : els.length + new.length ≤ 100000) (h0 : 0 < new.length) (hN : N ≤ w.heap.size) (ty : TypeId) (t : TypeId) (ht : Tryz.prog.underlying t = some (.slice 56)) :
    ∃ g' cap w', (Builtin.append_ #[t, t] ty #[u, .slice (some ⟨g, 0, none⟩) new.length new.length]).run Tryz.prog w = .ok (.slice (some ⟨g', 0, none⟩) (els.length + new.length) cap) w' ∧ CL2 N0 N w' (.slice (some ⟨g', 0, none⟩) (els.length + new.length) cap) (els ++ new) ∧ w.grownBy w' u.ownBlock ∧ Below N w w' ∧ (u.ownBlock = some g' ∨ g' = w.heap.size) := by
  obtain ⟨i0, hi0, hz, hz1, hz2⟩ := info_parts infoCond
  obtain ⟨g', cap, w', hr, hown, hgr, hwh, _⟩ := run_append_lies (P := Tryz.prog) w t ty N 56 i0 (.agg #[.int .i64 0, .int .i64 0, .slice none 0 0, .int .i64 0]) 4 48 ht hi0 hz hz1 hz2 rfl (by decide) u els.length (ccells els) h.own ⟨g, 0, none⟩ new.length new.length (ccells new) (ccells_len new)
    (fun j v hv => World.news_of_block hg j v (by simpa using hv))
    (fun v hv => by
      clear hg hi hro hm h0
      induction new with
      | nil => simp [ccells] at hv
      | cons e l ih =>
        simp only [ccells, CEl.cells, List.cons_append, List.nil_append, List.mem_cons] at hv
        rcases hv with rfl | rfl | rfl | rfl | hv
        · rfl
        · rfl
        · rfl
        · rfl
        · exact ih hv) h0 (by unfold maxLen; omega) (by omega) hN _ rfl
  have hb : Below N w w' := (Below.refl N w).grown hgr hN fun k e => (h.own.lt k e).1
  refine ⟨g', cap, w', hr, ⟨by rw [List.length_append, ccells_app]; exact hown, by rw [List.length_append]; exact hm, fun e he => ?_, fun e he => ?_⟩, hgr, hb, hwh⟩
  · rcases List.mem_append.1 he with he | he
    · exact (h.ints e he).grown (h.rows e he) hgr h.typed
    · exact (hi e he).grown (hro e he) hgr h.typed
  · rcases List.mem_append.1 he with he | he
    · exact (h.rows e he).grown hgr h.typed
    · exact (hro e he).grown hgr h.typed

section
variable {ops : Array Oper} {o : Oper} {a : Act} {w : World} {Q : Exit → Act → World → Prop}
theorem wpList_append_cond3 {rest : List Oper} (hgd : o.guard = none) (s x : Operand) (t : TypeId) (ho : o.op = .call { callee := .builtin .append, args := #[s, x], argTypes := #[t, t] }) (ht : Tryz.prog.underlying t = some (.slice 56))
    {N0 N : Nat} {u : Value} {els : List CEl} (hs : a.eval s = u) (hL : CL2 N0 N w u els) (g : Nat) (e : CEl) (hx : a.eval x = .slice (some ⟨g, 0, none⟩) 1 1) (hg : w.heap[g]? = some (.cells e.cells.toArray 56 (0, 0))) (hi : IntsAt w e.A e.n e.xs) (hro : RowOk N0 w e.A e.n) (hm : els.length + 1 ≤ 100000) (hN : N ≤ w.heap.size)
    (h : ∀ g' cap w', CL2 N0 N w' (.slice (some ⟨g', 0, none⟩) (els.length + 1) cap) (els ++ [e]) → w.grownBy w' u.ownBlock → Below N w w' → (u.ownBlock = some g' ∨ g' = w.heap.size) → wpList Tryz.prog ops Q rest (a.put o.dst (.slice (some ⟨g', 0, none⟩) (els.length + 1) cap)) w') : wpList Tryz.prog ops Q (o :: rest) a w :=
  wpList_plain hgd fun _ hK => by
    obtain ⟨g', cap, w', h1, h2, h3, h4, h5⟩ := append_conds3 hL g [e] (by simpa [ccells] using hg) (fun e' he => by rw [List.mem_singleton.1 he]; exact hi) (fun e' he => by rw [List.mem_singleton.1 he]; exact hro) hm (by simp) hN o.type t ht
    unfold Oper.wp
    rw [exec_append ho hs hx h1, Oper.upon_value]
    exact hK _ _ (h g' cap w' h2 h3 h4 h5)
end
end Go.Proofs.YtkgnlloioaobiaaGreat

/-
  Scale of the reference of package lin.
-/
namespace Go.Proofs.YtkgnlloioaobiaaGreat
open Go.RowKit
set_option linter.unusedVariables false
set_option linter.unusedSimpArgs false

def zB (xs : List Int) (K : Int) : Bool := sameB xs K (zeros xs.length) 0
def scL (n : Nat) (k : Int) (xs : List Int) : List Int := mixL n k xs 0 (zeros n)
def scK (k K : Int) : Int := k * K + 0 * 0
def kE (xs : List Int) (K k : Int) : Int := if validB xs K = true then (if zB xs K = true then 0 else if fitsB k = true then (if validB (scL xs.length k xs) (scK k K) = true then 0 else 3) else 3) else 1
def kX (xs : List Int) (K k : Int) : List Int := if validB xs K = true then (if zB xs K = true then zeros xs.length else if fitsB k = true then (if validB (scL xs.length k xs) (scK k K) = true then scL xs.length k xs else []) else []) else []
def kK (xs : List Int) (K k : Int) : Int := if validB xs K = true then (if zB xs K = true then 0 else if fitsB k = true then (if validB (scL xs.length k xs) (scK k K) = true then scK k K else 0) else 0) else 0
section
variable {xs : List Int} {K k : Int} {n : Nat}
theorem k_inv (h : validB xs K = false) : kE xs K k = 1 ∧ kX xs K k = [] ∧ kK xs K k = 0 := by unfold kE kX kK; rw [h]; exact ⟨rfl, rfl, rfl⟩
theorem k_zero (h : validB xs K = true) (hz : zB xs K = true) (hn : xs.length = n) : kE xs K k = 0 ∧ kX xs K k = zeros n ∧ kK xs K k = 0 := by unfold kE kX kK; rw [h, hz, hn]; exact ⟨rfl, rfl, rfl⟩
theorem k_fit (h : validB xs K = true) (hz : zB xs K = false) (hk : fitsB k = false) : kE xs K k = 3 ∧ kX xs K k = [] ∧ kK xs K k = 0 := by unfold kE kX kK; rw [h, hz, hk]; exact ⟨rfl, rfl, rfl⟩
theorem k_bad (h : validB xs K = true) (hz : zB xs K = false) (hk : fitsB k = true) (hn : xs.length = n) (hr : validB (scL n k xs) (scK k K) = false) : kE xs K k = 3 ∧ kX xs K k = [] ∧ kK xs K k = 0 := by
  unfold kE kX kK; rw [h, hz, hk, hn, hr]; exact ⟨rfl, rfl, rfl⟩
theorem k_ok (h : validB xs K = true) (hz : zB xs K = false) (hk : fitsB k = true) (hn : xs.length = n) (hr : validB (scL n k xs) (scK k K) = true) : kE xs K k = 0 ∧ kX xs K k = scL n k xs ∧ kK xs K k = scK k K := by
  unfold kE kX kK; rw [h, hz, hk, hn, hr]; exact ⟨rfl, rfl, rfl⟩
theorem zeros_tame (n : Nat) : Tame (zeros n) := fun j => by
  by_cases h : j < n <;> simp [zeros, h]
end

end Go.Proofs.YtkgnlloioaobiaaGreat

/-
  slices.Grow of nil, and slices.Concat.
-/
namespace Go.Proofs.YtkgnlloioaobiaaGreat
open Go.ChangeShapes Go.WideShapes Go.ChangeAt Go.RowKit
set_option linter.unusedVariables false
set_option maxRecDepth 100000
set_option linter.unusedSimpArgs false

theorem grow_zero (w : World) : Calls Tryz.prog 87 #[.slice none 0 0, .int .i64 0] w fun e w' => e = .returned (.slice none 0 0) ∧ w = w' := by
  go_enter Tryz.func87, Tryz.ntmps87
  go_wp2
  go_ret
  exact ⟨rfl, rfl⟩

set_option maxHeartbeats 2000000 in
theorem grow_some (n : Nat) (h0 : 0 < n) (hn : n ≤ 1000) (w : World) : Calls Tryz.prog 87 #[.slice none 0 0, .int .i64 n] w fun e w' =>
    ∃ cap, e = .returned (.slice (some ⟨w.heap.size, 0, none⟩) 0 cap) ∧ w'.ownsRow w.heap.size 3 1 (.slice (some ⟨w.heap.size, 0, none⟩) 0 cap) 0 [] ∧ Below w.heap.size w w' := by
  obtain ⟨i0, hi, hz0, hz1, hz2⟩ := info_parts infoInt
  have hg := fun ty => Lib.run_append_grow_zeros (P := Tryz.prog) w 38 3 ty 3 i0 (.int .i64 0) .i64 .i64 Tryz.underlying38 Tryz.underlying3 hi hz0 none 0 0 [] (run_firstCells_none _ _ _ _ _) n h0 (by omega) (by omega) (by omega) (by rw [hz2]; omega) (growslice_fits (by omega) (by rw [hz2]; omega))
  have hge := grownCap_ge w (0 + n) 0 3
  have hle := grownCap_le_maxLen w (0 + n) 0 3 (by unfold maxLen; omega)
  simp only [Nat.zero_add] at hg hge hle
  obtain ⟨G, hG⟩ : ∃ G, G = grownCap w n 0 3 := ⟨_, rfl⟩
  rw [← hG] at hg hge hle
  clear hG
  obtain ⟨cs, hcs⟩ : ∃ cs, cs = (([] : List Value).toArray ++ Builtin.zeroCells (Value.int .i64 0).cells n ++ Builtin.zeroCells (Value.int .i64 0).cells (G - n)) := ⟨_, rfl⟩
  have hsz : cs.size = G := by
    rw [hcs]
    simp [Builtin.zeroCells, Value.cells]
    omega
  rw [← hcs] at hg
  clear hcs
  have hn0 : (0 : Int) < (n : Int) := by omega
  have hG1 : (n : Int) ≤ (G : Int) := by omega
  have hfin : (w.drew.alloc (.cells cs 3)).ownsRow w.heap.size 3 1 (.slice (some ⟨w.heap.size, 0, none⟩) 0 G) 0 [] :=
    ⟨rfl, .inr ⟨w.heap.size, G, cs, rfl, Nat.le_refl _, heap_alloc_new w.drew _, by omega, hle, by omega, by simp⟩⟩
  have hB : Below w.heap.size w (w.drew.alloc (.cells cs 3)) := ((Below.refl _ w).drew).alloc (Nat.le_refl _) _
  go_enter Tryz.func87, Tryz.ntmps87
  go_wp2_with (at_builtin; refine Lib.wpList_append_run _ rfl _ _ _ _ rfl _ _ rfl rfl _ _ (hg _) ?_)
  all_goals
    go_ret
    exact ⟨G, rfl, hfin, hB⟩

/-- A part of a concatenation. -/
structure Part where
  A : Option Addr
  n : Nat
  c : Nat
  xs : List Int
def tot (P : Nat → Part) : Nat → Nat
  | 0 => 0
  | k + 1 => tot P k + (P k).n
def cat (P : Nat → Part) : Nat → List Int
  | 0 => []
  | k + 1 => cat P k ++ (P k).xs
theorem tot_mono (P : Nat → Part) {i m : Nat} (h : i ≤ m) : tot P i ≤ tot P m := by
  induction h with
  | refl => exact Nat.le_refl _
  | step _ ih => exact Nat.le_trans ih (by simp [tot])
/-- The cells of a slice of slices, and what these hold. -/
def PartsAt (w : World) (b off m : Nat) (P : Nat → Part) : Prop :=
  ∀ j, j < m → w.cell? ⟨b, off + j, none⟩ = some (.slice (P j).A (P j).n (P j).c) ∧ IntsAt w (P j).A (P j).n (P j).xs ∧ ((P j).A = none → (P j).n = 0 ∧ (P j).c = 0)
theorem cat_len {w : World} {b off m : Nat} {P : Nat → Part} (h : PartsAt w b off m P) : ∀ k, k ≤ m → (cat P k).length = tot P k
  | 0, _ => rfl
  | k + 1, hk => by
    have := (h k (by omega)).2.1.len
    simp only [cat, tot, List.length_append]
    rw [cat_len h k (by omega), this]

theorem own_base {w : World} {base : Nat} {e : TypeId} {size n k : Nat} {v : Value} {xs : List Value} (h : w.ownsRow base e size v n xs) (hk : v.ownBlock = some k) : base ≤ k := by
  obtain ⟨_, ⟨rfl, _⟩ | ⟨g, cap, cur, rfl, hb, _⟩⟩ := h
  · cases hk
  · cases hk; exact hb

theorem own_cap {w : World} {base : Nat} {e : TypeId} {size g n m cap : Nat} {xs : List Value} (h : w.ownsRow base e size (.slice (some ⟨g, 0, none⟩) m cap) n xs) : n ≤ cap ∧ cap ≤ 9223372036854775807 := by
  obtain ⟨_, ⟨h, _⟩ | ⟨g', cap', cur, h, _, _, h1, h2, _⟩⟩ := h
  · cases h
  · simp only [Value.slice.injEq] at h
    unfold maxLen at h2
    omega

set_option maxHeartbeats 4000000 in
theorem concat_in (b off m cm : Nat) (P : Nat → Part) (w : World) (hP : PartsAt w b off m P) (hb : b < w.heap.size) (hm : m ≤ 1000) (ht : tot P m ≤ 1000) :
    Calls Tryz.prog 62 #[.slice (some ⟨b, off, none⟩) m cm] w fun e w' =>
      ∃ v, e = .returned v ∧ ((v = .slice none 0 0 ∧ tot P m = 0) ∨ ∃ g cap, v = .slice (some ⟨g, 0, none⟩) (tot P m) cap ∧ w.heap.size ≤ g ∧ OwnRow w' g (tot P m) (cat P m) ∧ tot P m ≤ cap ∧ cap ≤ 9223372036854775807) ∧ Below w.heap.size w w' := by
  obtain ⟨i0, hi, hz0, hz1, hz2⟩ := info_parts infoInt
  go_enter Tryz.func62, Tryz.ntmps62
  go_wp2
  go_loop [3, 11] (fun u v => ∃ i : Nat, i ≤ m ∧ v = .int .i64 i ∧ u = .int .i64 (tot P i : Nat)) (fun _ v => m - (intOf v).toNat)
  case atStart => exact ⟨0, Nat.zero_le _, rfl, rfl⟩
  case round =>
    obtain ⟨i, hi', rfl, rfl⟩ := hrel
    by_cases hlt : i < m
    · obtain ⟨hcell, hI, hnil⟩ := hP i hlt
      have h1 := tot_mono P (show i + 1 ≤ m by omega)
      have HT := Lib.hid (show tot P (i + 1) = tot P i + (P i).n from rfl)
      have h2 : tot P i + (P i).n ≤ 1000 := by rw [← HT.out]; omega
      have hlt' : (i : Int) < m := by omega
      clear hI hnil h1
      go_wp2
      go_round
      case rel => exact ⟨i + 1, by omega, by go_num, by rw [HT.out]; go_num⟩
      case measure => simp [intOf]; omega
    · obtain rfl : i = m := by omega
      have hge : ¬ i < i := hlt
      by_cases h0 : tot P i = 0
      · have H0 := Lib.hid h0
        go_wp2_with (go_at_call 87; refine (grow_zero _).mono ?_; rintro e w' ⟨rfl, rfl⟩)
        go_loopw [6, 27] (fun u v wr => ∃ j : Nat, j ≤ i ∧ v = .int .i64 j ∧ wr.ownsRow w.heap.size 3 1 u (tot P j) ((cat P j).map (Value.int .i64)) ∧ Below w.heap.size w wr ∧ (tot P i = 0 → u = .slice none 0 0)) (fun _ v _ => i - (intOf v).toNat)
        case atStart => exact ⟨0, Nat.zero_le _, rfl, World.ownsRow_nil _ _ _ _, Below.refl _ _, fun _ => rfl⟩
        case round =>
          obtain ⟨j, hj, rfl, hown, hBr, hnilv⟩ := hrel
          have HNV := Lib.hid hnilv
          clear hnilv
          by_cases hlt : j < i
          · obtain ⟨hcell0, hI, hnil⟩ := hP j hlt
            have hcell := (hBr.cell (p := ⟨b, off + j, none⟩) hb).trans hcell0
            have h2 : tot P j + (P j).n ≤ 1000 := Nat.le_trans (tot_mono P (show j + 1 ≤ i by omega)) ht
            have hz : tot P i = 0 → (P j).n = 0 := fun h => by
              have h4 : tot P j + (P j).n ≤ tot P i := tot_mono P (show j + 1 ≤ i by omega)
              omega
            have HZ := Lib.hid hz
            have HS := Lib.hid (show tot P (j + 1) = tot P j + (P j).n ∧ cat P (j + 1) = cat P j ++ (P j).xs from ⟨rfl, rfl⟩)
            have hlt' : (j : Int) < i := by omega
            clear hcell0 hz
            generalize tot P j = tj at *
            generalize cat P j = cj at *
            generalize hpn : (P j).n = pn at *
            generalize (P j).c = pc at *
            generalize (P j).xs = px at *
            clear hpn
            have HI := Lib.hid hI
            cases hA : (P j).A with
            | none =>
              rw [hA] at hcell
              obtain ⟨rfl, rfl⟩ := hnil hA
              have HX := Lib.hid (show px = [] from List.eq_nil_of_length_eq_zero HI.out.len)
              clear hA hnil hI
              go_wp2_with (at_builtin; refine wpList_append_own_none rfl _ _ 38 rfl w.heap.size 3 i0 1 Tryz.underlying38 hi _ _ _ rfl hown rfl ?_)
              go_roundw
              case rel => exact ⟨j + 1, by omega, by go_num, (by rw [HS.out.1, HS.out.2, HX.out]; simpa using hown), hBr, HNV.out⟩
              case measure => simp [intOf]; omega
            | some ad =>
              rw [hA] at hcell
              have HC := Lib.hid (show ∀ q a, px[q]? = some a → wr.cell? (ad.add q) = some (.int .i64 a) from fun q a hq => by
                obtain ⟨hql, e⟩ := List.getElem?_eq_some_iff.1 hq
                have hpos : q < pn := by rw [← HI.out.len]; exact hql
                obtain ⟨b', off', e', hlt', hc'⟩ := HI.out.cells (by omega)
                rw [hA] at e'
                obtain rfl : ad = ⟨b', off', none⟩ := by simpa using e'
                rw [add_plain, (hBr.cell (p := ⟨b', off' + q, none⟩) hlt').trans (hc' q hpos)]
                simp [hq])
              clear hA hnil hI
              go_wp2_with (at_builtin; refine wpList_append_own _ rfl _ _ 38 rfl w.heap.size 3 i0 (.int .i64 0) 1 8 Tryz.underlying38 hi hz0 hz1 hz2 rfl (by decide) _ _ _ rfl hown ad pn pc (px.map (Value.int .i64)) rfl (by simpa using HI.out.len) (by intro q u hq; simp only [List.getElem?_map, Option.map_eq_some_iff] at hq; obtain ⟨a, ha, rfl⟩ := hq; exact HC.out q a ha) (by intro u hu; simp only [List.mem_map] at hu; obtain ⟨a, _, rfl⟩ := hu; rfl) (by unfold maxLen; omega) (by omega) hBr.size ?_; intro v' w2 hown' hgrow hv'; have hsz2 := hBr.size; have hB2 := hBr.grown hgrow hsz2 (fun k e => own_base hown e); have hnew := (show tot P i = 0 → v' = .slice none 0 0 from fun h => hv'.2 ⟨HNV.out h, HZ.out h⟩); have HN2 := Lib.hid hnew; clear hnew hv' hgrow)
              go_roundw
              case rel => exact ⟨j + 1, by omega, by go_num, (by rw [HS.out.1, HS.out.2, List.map_append]; exact hown'), hB2, HN2.out⟩
              case measure => simp [intOf]; omega
          · obtain rfl : j = i := by omega
            have hge : ¬ j < j := hlt
            go_wp2
            go_ret
            exact ⟨_, rfl, .inl ⟨HNV.out h0, h0⟩, hBr⟩
      · have h1 : 0 < tot P i := by omega
        go_wp2_with (go_at_call 87; refine (grow_some _ h1 ht _).mono ?_; rintro e w1 ⟨cap, rfl, hown, hB⟩)
        go_loopw [6, 27] (fun u v wr => ∃ j : Nat, j ≤ i ∧ v = .int .i64 j ∧ wr.ownsRow w.heap.size 3 1 u (tot P j) ((cat P j).map (Value.int .i64)) ∧ Below w.heap.size w wr ∧ (tot P i = 0 → u = .slice none 0 0)) (fun _ v _ => i - (intOf v).toNat)
        case atStart => exact ⟨0, Nat.zero_le _, rfl, hown, hB, fun h => absurd h (by omega)⟩
        case round =>
          obtain ⟨j, hj, rfl, hown, hBr, hnilv⟩ := hrel
          have HNV := Lib.hid hnilv
          clear hnilv
          by_cases hlt : j < i
          · obtain ⟨hcell0, hI, hnil⟩ := hP j hlt
            have hcell := (hBr.cell (p := ⟨b, off + j, none⟩) hb).trans hcell0
            have h2 : tot P j + (P j).n ≤ 1000 := Nat.le_trans (tot_mono P (show j + 1 ≤ i by omega)) ht
            have hz : tot P i = 0 → (P j).n = 0 := fun h => by
              have h4 : tot P j + (P j).n ≤ tot P i := tot_mono P (show j + 1 ≤ i by omega)
              omega
            have HZ := Lib.hid hz
            have HS := Lib.hid (show tot P (j + 1) = tot P j + (P j).n ∧ cat P (j + 1) = cat P j ++ (P j).xs from ⟨rfl, rfl⟩)
            have hlt' : (j : Int) < i := by omega
            clear hcell0 hz
            generalize tot P j = tj at *
            generalize cat P j = cj at *
            generalize hpn : (P j).n = pn at *
            generalize (P j).c = pc at *
            generalize (P j).xs = px at *
            clear hpn
            have HI := Lib.hid hI
            cases hA : (P j).A with
            | none =>
              rw [hA] at hcell
              obtain ⟨rfl, rfl⟩ := hnil hA
              have HX := Lib.hid (show px = [] from List.eq_nil_of_length_eq_zero HI.out.len)
              clear hA hnil hI
              go_wp2_with (at_builtin; refine wpList_append_own_none rfl _ _ 38 rfl w.heap.size 3 i0 1 Tryz.underlying38 hi _ _ _ rfl hown rfl ?_)
              go_roundw
              case rel => exact ⟨j + 1, by omega, by go_num, (by rw [HS.out.1, HS.out.2, HX.out]; simpa using hown), hBr, HNV.out⟩
              case measure => simp [intOf]; omega
            | some ad =>
              rw [hA] at hcell
              have HC := Lib.hid (show ∀ q a, px[q]? = some a → wr.cell? (ad.add q) = some (.int .i64 a) from fun q a hq => by
                obtain ⟨hql, e⟩ := List.getElem?_eq_some_iff.1 hq
                have hpos : q < pn := by rw [← HI.out.len]; exact hql
                obtain ⟨b', off', e', hlt', hc'⟩ := HI.out.cells (by omega)
                rw [hA] at e'
                obtain rfl : ad = ⟨b', off', none⟩ := by simpa using e'
                rw [add_plain, (hBr.cell (p := ⟨b', off' + q, none⟩) hlt').trans (hc' q hpos)]
                simp [hq])
              clear hA hnil hI
              go_wp2_with (at_builtin; refine wpList_append_own _ rfl _ _ 38 rfl w.heap.size 3 i0 (.int .i64 0) 1 8 Tryz.underlying38 hi hz0 hz1 hz2 rfl (by decide) _ _ _ rfl hown ad pn pc (px.map (Value.int .i64)) rfl (by simpa using HI.out.len) (by intro q u hq; simp only [List.getElem?_map, Option.map_eq_some_iff] at hq; obtain ⟨a, ha, rfl⟩ := hq; exact HC.out q a ha) (by intro u hu; simp only [List.mem_map] at hu; obtain ⟨a, _, rfl⟩ := hu; rfl) (by unfold maxLen; omega) (by omega) hBr.size ?_; intro v' w2 hown' hgrow hv'; have hsz2 := hBr.size; have hB2 := hBr.grown hgrow hsz2 (fun k e => own_base hown e); have hnew := (show tot P i = 0 → v' = .slice none 0 0 from fun h => hv'.2 ⟨HNV.out h, HZ.out h⟩); have HN2 := Lib.hid hnew; clear hnew hv' hgrow)
              go_roundw
              case rel => exact ⟨j + 1, by omega, by go_num, (by rw [HS.out.1, HS.out.2, List.map_append]; exact hown'), hB2, HN2.out⟩
              case measure => simp [intOf]; omega
          · obtain rfl : j = i := by omega
            have hge : ¬ j < j := hlt
            go_wp2
            go_ret
            obtain ⟨g, cap, rfl, hg, hr⟩ := ownRow_of_owns hown h1
            exact ⟨_, rfl, .inr ⟨g, cap, rfl, hg, hr, own_cap hown⟩, hBr⟩
end Go.Proofs.YtkgnlloioaobiaaGreat

/-
  lin.Cut.
-/
namespace Go.Proofs.YtkgnlloioaobiaaGreat
open Go.RowKit
set_option linter.unusedVariables false
set_option linter.unusedSimpArgs false

theorem below_step0 {w w' : World} {o : Obj} (h : Below w.heap.size (w.alloc o).drew w') : Below w.heap.size w w' := ((below_alloc w o).drew).trans h

/-- A piece of a slice of integers. -/
theorem ints_sub {w : World} {b off n d k : Nat} {xs : List Int} (hl : xs.length = n) (hs : n ≤ 17592186044416) (hw : ∀ x ∈ xs, -9223372036854775808 ≤ x ∧ x ≤ 9223372036854775807) (hb : b < w.heap.size)
    (hc : ∀ j, j < n → w.cell? ⟨b, off + j, none⟩ = some (.int .i64 (xs[j]?.getD 0))) (hdk : d + k ≤ n) : IntsAt w (some ⟨b, off + d, none⟩) k ((xs.drop d).take k) := by
  refine ⟨by simp [hl]; omega, by omega, fun x hx => hw x (List.mem_of_mem_drop (List.mem_of_mem_take hx)), fun _ => ⟨b, off + d, rfl, hb, fun j hj => ?_⟩⟩
  rw [show off + d + j = off + (d + j) by omega, hc (d + j) (by omega)]
  simp [hj, List.getElem?_take]

/-- The two parts that Cut joins. -/
def cutP (b off n c i : Nat) (xs : List Int) (j : Nat) : Part :=
  if j = 0 then ⟨some ⟨b, off, none⟩, i, c, xs.take i⟩ else ⟨(if c = i + 1 then some ⟨b, off, none⟩ else some ⟨b, off + (i + 1), none⟩), n - (i + 1), c - (i + 1), xs.drop (i + 1)⟩

theorem cut_parts {w : World} {b off n c i : Nat} {xs : List Int} (hl : xs.length = n) (hs : n ≤ 17592186044416) (hw : ∀ x ∈ xs, -9223372036854775808 ≤ x ∧ x ≤ 9223372036854775807) (hb : b < w.heap.size)
    (hc : ∀ j, j < n → w.cell? ⟨b, off + j, none⟩ = some (.int .i64 (xs[j]?.getD 0))) (hi : i < n) (hnc : n ≤ c) :
    PartsAt (w.alloc (.cells #[.slice (some ⟨b, off, none⟩) i c, .slice (if c = i + 1 then some ⟨b, off, none⟩ else some ⟨b, off + (i + 1), none⟩) (n - (i + 1)) (c - (i + 1))] 38)).drew w.heap.size 0 2 (cutP b off n c i xs) := by
  obtain ⟨o, ho⟩ : ∃ o, o = (Obj.cells #[.slice (some ⟨b, off, none⟩) i c, .slice (if c = i + 1 then some ⟨b, off, none⟩ else some ⟨b, off + (i + 1), none⟩) (n - (i + 1)) (c - (i + 1))] 38) := ⟨_, rfl⟩
  have hst : Below w.heap.size w (w.alloc o).drew := (below_alloc w o).drew
  intro j hj
  rcases (show j = 0 ∨ j = 1 by omega) with rfl | rfl
  · refine ⟨?_, ?_, fun h => by simp [cutP] at h⟩
    · rw [World.cell?_drew, World.cell?_alloc_at _ _ _ _ rfl]; rfl
    · rw [← ho]
      have h := ints_sub (d := 0) (k := i) hl hs hw hb hc (by omega)
      exact IntsAt.step (by simpa [cutP] using h) hst
  · refine ⟨?_, ?_, fun h => by
      have h' : (if c = i + 1 then some (⟨b, off, none⟩ : Addr) else some ⟨b, off + (i + 1), none⟩) = none := h
      split at h' <;> cases h'⟩
    · rw [World.cell?_drew, World.cell?_alloc_at _ _ _ _ rfl]; rfl
    · rw [← ho]
      refine IntsAt.step ?_ hst
      show IntsAt w (if c = i + 1 then some ⟨b, off, none⟩ else some ⟨b, off + (i + 1), none⟩) (n - (i + 1)) (xs.drop (i + 1))
      have h := ints_sub (d := i + 1) (k := n - (i + 1)) hl hs hw hb hc (by omega)
      have e : (xs.drop (i + 1)).take (n - (i + 1)) = xs.drop (i + 1) := List.take_of_length_le (by simp [hl])
      rw [e] at h
      by_cases h1 : c = i + 1
      · have h0 : n - (i + 1) = 0 := by omega
        rw [h0] at h ⊢
        exact ⟨h.len, h.small, h.wf, fun hn => absurd hn (by omega)⟩
      · rw [if_neg h1]; exact h

theorem cut_tot {b off n c i : Nat} {xs : List Int} (hi : i < n) : tot (cutP b off n c i xs) 2 = n - 1 := by simp [tot, cutP]; omega
theorem cut_cat {b off n c i : Nat} {xs : List Int} : cat (cutP b off n c i xs) 2 = xs.eraseIdx i := by simp [cat, cutP, List.eraseIdx_eq_take_drop_succ]

end Go.Proofs.YtkgnlloioaobiaaGreat

/-
  lin.Room, where the list is not nil.
-/
namespace Go.Proofs.YtkgnlloioaobiaaGreat
open Go.RowKit
set_option linter.unusedVariables false
set_option linter.unusedSimpArgs false

/-- As RetF, and the capacity is no less than the length. -/
def RetC (w : World) (e : Ending) (w' : World) (ys : List Int) (K err : Int) : Prop :=
  ∃ A n c, e = .returned (.tuple #[.agg #[.slice A n c, .int .i64 K], .int .i64 err]) ∧ IntsAt w' A n ys ∧ Below w.heap.size w w' ∧ (n = 0 ∨ ∃ g, A = some ⟨g, 0, none⟩ ∧ w.heap.size ≤ g ∧ OwnRow w' g n ys) ∧ n ≤ c ∧ c ≤ 9223372036854775807
theorem RetC.f {w : World} {e : Ending} {w' : World} {ys : List Int} {K err : Int} (h : RetC w e w' ys K err) : RetF w e w' ys K err := by
  obtain ⟨A, n, c, h1, h2, h3, h4, _⟩ := h
  exact ⟨A, n, c, h1, h2, h3, h4.imp id fun ⟨g, a, b, _⟩ => ⟨g, a, b⟩⟩
theorem RetC.o {w : World} {e : Ending} {w' : World} {ys : List Int} {K err : Int} (h : RetC w e w' ys K err) : RetO w e w' ys K err := by
  obtain ⟨A, n, c, h1, h2, h3, h4, _⟩ := h
  exact ⟨A, n, c, h1, h2, h3, h4⟩
theorem RetC.lin {w : World} {e : Ending} {w' : World} {ys : List Int} {K err : Int} (h : RetC w e w' ys K err) : LinRet w e w' ys K err := h.f.lin
theorem ret_c {A : Option Addr} {n c : Nat} {K err : Int} {w w' : World} {ys : List Int} {K' err' : Int} (hc : n ≤ c ∧ c ≤ 9223372036854775807) (h1 : err' = err) (h2 : K' = K) (hI : IntsAt w' A n ys) (hb : Below w.heap.size w w') (hf : n = 0 ∨ ∃ g, A = some ⟨g, 0, none⟩ ∧ w.heap.size ≤ g ∧ OwnRow w' g n ys) :
    RetC w (.returned (.tuple #[.agg #[.slice A n c, .int .i64 K], .int .i64 err])) w' ys K' err' := by
  subst h1; subst h2; exact ⟨A, n, c, rfl, hI, hb, hf, hc⟩

/-- The three parts that Room joins; g: the block of the new zeros. -/
def roomP (b off n c i k g : Nat) (xs : List Int) (j : Nat) : Part :=
  if j = 0 then ⟨some ⟨b, off, none⟩, i, c, xs.take i⟩ else if j = 1 then ⟨some ⟨g, 0, none⟩, k, k, zeros k⟩ else ⟨(if c = i then some ⟨b, off, none⟩ else some ⟨b, off + i, none⟩), n - i, c - i, xs.drop i⟩

theorem room_parts {w : World} {b off n c i k : Nat} {xs : List Int} (hl : xs.length = n) (hs : n ≤ 17592186044416) (hw : ∀ x ∈ xs, -9223372036854775808 ≤ x ∧ x ≤ 9223372036854775807) (hb : b < w.heap.size)
    (hc : ∀ j, j < n → w.cell? ⟨b, off + j, none⟩ = some (.int .i64 (xs[j]?.getD 0))) (hi : i ≤ n) (hnc : n ≤ c) (hk : k ≤ 12) :
    PartsAt ((w.alloc (.cells ((zeros k).map (Value.int .i64)).toArray 3)).alloc (.cells #[.slice (some ⟨b, off, none⟩) i c, .slice (some ⟨w.heap.size, 0, none⟩) k k, .slice (if c = i then some ⟨b, off, none⟩ else some ⟨b, off + i, none⟩) (n - i) (c - i)] 38)).drew (w.heap.size + 1) 0 3 (roomP b off n c i k w.heap.size xs) := by
  obtain ⟨o, ho⟩ : ∃ o, o = (Obj.cells #[.slice (some ⟨b, off, none⟩) i c, .slice (some ⟨w.heap.size, 0, none⟩) k k, .slice (if c = i then some ⟨b, off, none⟩ else some ⟨b, off + i, none⟩) (n - i) (c - i)] 38) := ⟨_, rfl⟩
  have h2 : Below (w.alloc (.cells ((zeros k).map (Value.int .i64)).toArray 3)).heap.size (w.alloc (.cells ((zeros k).map (Value.int .i64)).toArray 3)) ((w.alloc (.cells ((zeros k).map (Value.int .i64)).toArray 3)).alloc o).drew := (below_alloc _ o).drew
  have hst := below_step (below_alloc w (.cells ((zeros k).map (Value.int .i64)).toArray 3)) h2
  intro j hj
  rcases (show j = 0 ∨ j = 1 ∨ j = 2 by omega) with rfl | rfl | rfl
  · refine ⟨?_, ?_, fun h => by simp [roomP] at h⟩
    · rw [World.cell?_drew, World.cell?_alloc_at _ _ _ _ (by simp)]; rfl
    · rw [← ho]
      have h := ints_sub (d := 0) (k := i) hl hs hw hb hc (by omega)
      exact IntsAt.step (by simpa [roomP] using h) hst
  · refine ⟨?_, ?_, fun h => by simp [roomP] at h⟩
    · rw [World.cell?_drew, World.cell?_alloc_at _ _ _ _ (by simp)]; rfl
    · rw [← ho]
      exact IntsAt.step (new_ints w (zeros k) k (zeros_len k) (by omega) (zeros_wf k) w.heap.size rfl) h2
  · refine ⟨?_, ?_, fun h => by
      have h' : (if c = i then some (⟨b, off, none⟩ : Addr) else some ⟨b, off + i, none⟩) = none := h
      split at h' <;> cases h'⟩
    · rw [World.cell?_drew, World.cell?_alloc_at _ _ _ _ (by simp)]; rfl
    · rw [← ho]
      refine IntsAt.step ?_ hst
      show IntsAt w (if c = i then some ⟨b, off, none⟩ else some ⟨b, off + i, none⟩) (n - i) (xs.drop i)
      have h := ints_sub (d := i) (k := n - i) hl hs hw hb hc (by omega)
      have e : (xs.drop i).take (n - i) = xs.drop i := List.take_of_length_le (by simp [hl])
      rw [e] at h
      by_cases h1 : c = i
      · have h0 : n - i = 0 := by omega
        rw [h0] at h ⊢
        exact ⟨h.len, h.small, h.wf, fun hn => absurd hn (by omega)⟩
      · rw [if_neg h1]; exact h

def roomL (xs : List Int) (i k : Nat) : List Int := xs.take i ++ zeros k ++ xs.drop i
theorem room_tot {b off n c i k g : Nat} {xs : List Int} (hi : i ≤ n) : tot (roomP b off n c i k g xs) 3 = n + k := by simp [tot, roomP]; omega
theorem room_cat {b off n c i k g : Nat} {xs : List Int} : cat (roomP b off n c i k g xs) 3 = roomL xs i k := by simp [cat, roomP, roomL]
theorem room_len {n i k : Nat} {xs : List Int} (hl : xs.length = n) (hi : i ≤ n) : (roomL xs i k).length = n + k := by simp [roomL, hl, zeros_len]; omega
theorem room_wf {i k : Nat} {xs : List Int} (hw : ∀ x ∈ xs, -9223372036854775808 ≤ x ∧ x ≤ 9223372036854775807) : ∀ x ∈ roomL xs i k, -9223372036854775808 ≤ x ∧ x ≤ 9223372036854775807 := by
  intro x hx
  simp only [roomL, List.mem_append] at hx
  rcases hx with (hx | hx) | hx
  · exact hw x (List.mem_of_mem_take hx)
  · exact zeros_wf k x hx
  · exact hw x (List.mem_of_mem_drop hx)

set_option maxHeartbeats 2000000 in
theorem lin_room_ok (b off n c : Nat) (K : Int) (xs : List Int) (i k : Nat) (w : World) (hI : IntsAt w (some ⟨b, off, none⟩) n xs) (hbl : b < w.heap.size) (hcs : ∀ j, j < n → w.cell? ⟨b, off + j, none⟩ = some (.int .i64 (xs[j]?.getD 0))) (hnc : n ≤ c) (hc63 : c ≤ 9223372036854775807)
    (hv : validB xs K = true) (hi : i ≤ n) (hk : n + k ≤ 12) :
    Calls Tryz.prog 69 #[.agg #[.slice (some ⟨b, off, none⟩) n c, .int .i64 K], .int .i64 i, .int .i64 k] w fun e w' => RetC w e w' (roomL xs i k) K 0 := by
  have hsm := hI.small
  have hmk := make_ints k (by omega)
  have B1 := (LBox.new w (some ⟨b, off, none⟩) n c K).alloc (.cells #[.slice none 0 0, .int .i64 0] 54)
  have B2 := LBox.new (w.alloc (.cells #[.slice (some ⟨b, off, none⟩) n c, .int .i64 K] 54)) none 0 0 0
  have hB := below_step (below_alloc w (.cells #[.slice (some ⟨b, off, none⟩) n c, .int .i64 K] 54)) (below_alloc _ (.cells #[.slice none 0 0, .int .i64 0] 54))
  have h1 := hI.step hB
  rw [World.size_alloc] at B2
  have HC := Lib.hid hcs
  have hi1 : (i : Int) ≤ n := by omega
  have hi2 : (i : Int) ≤ c := by omega
  have hk1 : (k : Int) ≤ 12 - (n : Int) := by omega
  clear hcs hI
  go_enter Tryz.func69, Tryz.ntmps69
  go_wp2_with (go_at_call 91; refine (lin_valid _ _ _ _ xs _ h1).mono ?_; rintro e w1 ⟨rfl, hb⟩; replace h1 := h1.step hb; replace B1 := B1.step hb; replace B2 := B2.step hb; have c10 := B1.c0; have c11 := B1.c1; replace hB := below_step hB hb)
  have l2 := B2.lt
  have HA := Lib.hid (fun j (hj : j < n) => (hB.cell (p := ⟨b, off + j, none⟩) hbl).trans (HC.out j hj))
  have l0 : w.heap.size < w1.heap.size := by omega
  have n0 : w.heap.size + 1 ≠ w.heap.size := by omega
  have hbl1 : b < w1.heap.size := by omega
  obtain ⟨Q, hQ⟩ : ∃ Q, (if c = i then some (⟨b, off, none⟩ : Addr) else some ⟨b, off + i, none⟩) = Q := ⟨_, rfl⟩
  have ct := ((concat_in (w1.heap.size + 1) 0 3 3 (roomP b off n c i k w1.heap.size xs) _ (room_parts h1.len hsm h1.wf hbl1 HA.out hi hnc (by omega)) (by simp) (by omega) (by rw [room_tot hi]; omega)).mono
    (R' := fun e w2 => ∃ A5 c5, e = .returned (.slice A5 (n + k) c5) ∧ IntsAt w2 A5 (n + k) (roomL xs i k) ∧ Below w1.heap.size w1 w2 ∧ (n + k = 0 ∨ ∃ g, A5 = some ⟨g, 0, none⟩ ∧ w1.heap.size ≤ g ∧ OwnRow w2 g (n + k) (roomL xs i k)) ∧ n + k ≤ c5 ∧ c5 ≤ 9223372036854775807) (by
      rintro e w2 ⟨v, rfl, hv2, hb2⟩
      rw [room_tot hi, room_cat] at hv2
      have hb3 : Below w1.heap.size w1 w2 := ((below_alloc w1 (.cells ((zeros k).map (Value.int .i64)).toArray 3)).alloc (by simp) _).drew.trans (hb2.mono (show w1.heap.size ≤ ((w1.alloc _).alloc _).heap.size by simp; omega))
      rcases hv2 with ⟨rfl, h0⟩ | ⟨g, cap, rfl, hg, hr, hcap⟩
      · refine ⟨none, 0, by rw [h0], ?_, hb3, .inl h0, by omega, by omega⟩
        have h9 : (roomL xs i k).length = n + k := room_len h1.len hi
        rw [h0] at h9 ⊢
        rw [List.eq_nil_of_length_eq_zero h9]
        exact ints_nil _ _
      · refine ⟨some ⟨g, 0, none⟩, cap, rfl, hr.ints (by omega) (room_wf h1.wf), hb3, .inr ⟨g, rfl, ?_, hr⟩, hcap⟩
        have : ((w1.alloc _).alloc _).heap.size ≤ g := hg
        simp at this
        omega))
  rw [hQ] at ct
  have CT := Lib.hid ct
  clear ct
  have s6 : (n : Int) ≤ c := by omega
  go_region_held3 (fun W => W.cell? ⟨w.heap.size, 0, none⟩ = some (.slice (some ⟨b, off, none⟩) n c) ∧ W.cell? ⟨w.heap.size, 1, none⟩ = some (.int .i64 K)) (go_keep)
    (first | (go_at_call 62; refine CT.out.mono ?_; rintro e w2 ⟨A5, c5, rfl, I5, hb2', hf5, hcap⟩; have k0 := (hb2'.cell (p := ⟨w.heap.size, 0, none⟩) l0).trans c10; have k1 := (hb2'.cell (p := ⟨w.heap.size, 1, none⟩) l0).trans c11; have B4 := B2.step hb2'; have c40 := B4.c0; have c41 := B4.c1; have f40 := B4.f 0; have f41 := B4.f 1))
  have c50 := B4.s0 (.slice A5 (n + k) c5)
  have c51 := (B4.store A5 (n + k) c5 K).c1
  have hf6 : n + k = 0 ∨ ∃ g, A5 = some ⟨g, 0, none⟩ ∧ w.heap.size + 1 < g ∧ OwnRow w2 g (n + k) (roomL xs i k) := hf5.imp id (fun ⟨g, h, h', ho⟩ => ⟨g, h, by omega, ho⟩)
  have hEnd := below_step hB hb2'
  clear k0 k1 c10 c11 n0 hQ
  go_wp2
  refine bodyPost_ret (v := .tuple #[.agg #[.slice A5 (n + k) c5, .int .i64 K], .int .i64 0]) (by simp [results, Tryz.results69, go_sem, c50, c51]) rfl ?_
  exact ret_c hcap rfl rfl (ints_far I5 (hf6.imp id (fun ⟨g, h, h', _⟩ => ⟨g, h, by omega⟩)) _ _) (below_store2 hEnd (by omega) _ _) (hf6.imp id (fun ⟨g, h, h', ho⟩ => ⟨g, h, by omega, ho.store2 (by omega) _ _⟩))
end Go.Proofs.YtkgnlloioaobiaaGreat

/-
  What the values of sums, multiples, substitutions and insertions are.
-/
namespace Go.Proofs.YtkgnlloioaobiaaGreat
set_option linter.unusedVariables false

theorem mix_get {n : Nat} {a b : Int} {xs ys : List Int} {j : Nat} (hj : j < n) : (mixL n a xs b ys)[j]?.getD 0 = a * xs[j]?.getD 0 + b * ys[j]?.getD 0 := by
  unfold mixL; exact tab_get _ hj

theorem dot_mix {n : Nat} {a b : Int} {xs ys ps : List Int} : ∀ i, i ≤ n → dotSum (mixL n a xs b ys) ps i = a * dotSum xs ps i + b * dotSum ys ps i
  | 0, _ => by simp [dotSum]
  | i + 1, h => by
    simp only [dotSum]
    rw [dot_mix i (by omega), mix_get (show i < n by omega)]
    rw [Int.mul_add, Int.mul_add, Int.add_mul, Int.mul_assoc, Int.mul_assoc]
    omega

theorem dot_congr {xs ys ps qs : List Int} : ∀ i, (∀ j, j < i → xs[j]?.getD 0 * ps[j]?.getD 0 = ys[j]?.getD 0 * qs[j]?.getD 0) → dotSum xs ps i = dotSum ys qs i
  | 0, _ => rfl
  | i + 1, h => by
    simp only [dotSum]
    rw [dot_congr i (fun j hj => h j (by omega)), h i (by omega)]

/-- A coefficient struck out. -/
theorem dot_strike {xs ps : List Int} {j : Nat} : ∀ i, j < i → i ≤ xs.length → dotSum (xs.set j 0) ps i = dotSum xs ps i - xs[j]?.getD 0 * ps[j]?.getD 0
  | 0, h, _ => by omega
  | i + 1, h, hl => by
    simp only [dotSum]
    by_cases e : j = i
    · subst e
      have e1 : (xs.set j 0)[j]?.getD 0 = 0 := by simp [show j < xs.length by omega]
      have e2 : dotSum (xs.set j 0) ps j = dotSum xs ps j := dot_congr j fun m hm => by rw [List.getElem?_set_ne (by omega)]
      rw [e1, e2, Int.zero_mul]
      omega
    · rw [dot_strike i (by omega) (by omega), List.getElem?_set_ne e]
      omega

/-- A coordinate replaced. -/
theorem dot_point {xs ps : List Int} {j : Nat} (v : Int) : ∀ i, j < i → i ≤ ps.length → dotSum xs (ps.set j v) i = dotSum xs ps i - xs[j]?.getD 0 * ps[j]?.getD 0 + xs[j]?.getD 0 * v
  | 0, h, _ => by omega
  | i + 1, h, hl => by
    simp only [dotSum]
    by_cases e : j = i
    · subst e
      have e1 : (ps.set j v)[j]?.getD 0 = v := by simp [show j < ps.length by omega]
      have e2 : dotSum xs (ps.set j v) j = dotSum xs ps j := dot_congr j fun m hm => by rw [List.getElem?_set_ne (by omega)]
      rw [e1, e2]
      omega
    · rw [dot_point v i (by omega) (by omega), List.getElem?_set_ne e]
      omega

theorem put_mix {n i : Nat} {xs ys : List Int} (hl : xs.length = n) : mixL n 1 (xs.set i 0) (xs[i]?.getD 0) ys = putL n xs i ys := by
  apply List.map_congr_left
  intro j hj
  have hj := List.mem_range.1 hj
  rw [Int.one_mul]
  by_cases e : i = j
  · subst e
    simp [show i < xs.length by omega]
  · rw [List.getElem?_set_ne e, if_neg (fun e' => e e'.symm)]

/-- The value of what Put makes, at the point; at the point with the coordinate replaced, the value of the old expression. -/
theorem put_value {n i : Nat} {K L : Int} {xs ys ps : List Int} (hl : xs.length = n) (hp : ps.length = n) (hi : i < n) :
    (K + xs[i]?.getD 0 * L) + dotSum (putL n xs i ys) ps n = K + dotSum xs (ps.set i (L + dotSum ys ps n)) n := by
  rw [← put_mix hl, dot_mix n (Nat.le_refl _), dot_strike n hi (by omega), dot_point _ n hi (by omega), Int.mul_add]
  omega

/-- A place made: the value stays. -/
theorem dot_shift {xs ps X Y : List Int} {j : Nat} (hlow : ∀ m, m < j → X[m]?.getD 0 = xs[m]?.getD 0 ∧ Y[m]?.getD 0 = ps[m]?.getD 0) (h0 : X[j]?.getD 0 = 0) (hhigh : ∀ m, j ≤ m → X[m + 1]?.getD 0 = xs[m]?.getD 0 ∧ Y[m + 1]?.getD 0 = ps[m]?.getD 0) :
    ∀ t, dotSum X Y (j + t + 1) = dotSum xs ps (j + t)
  | 0 => by
    show dotSum X Y j + X[j]?.getD 0 * Y[j]?.getD 0 = _
    rw [h0, Int.zero_mul, Int.add_zero]
    exact dot_congr j fun m hm => by rw [(hlow m hm).1, (hlow m hm).2]
  | t + 1 => by
    show dotSum X Y (j + t + 1) + X[j + t + 1]?.getD 0 * Y[j + t + 1]?.getD 0 = dotSum xs ps (j + t) + xs[j + t]?.getD 0 * ps[j + t]?.getD 0
    rw [dot_shift hlow h0 hhigh t, (hhigh (j + t) (by omega)).1, (hhigh (j + t) (by omega)).2]

theorem ins_low {xs : List Int} {j m : Nat} {v : Int} (hj : j ≤ xs.length) (hm : m < j) : (xs.take j ++ [v] ++ xs.drop j)[m]?.getD 0 = xs[m]?.getD 0 := by
  rw [List.append_assoc, List.getElem?_append_left (by rw [List.length_take]; omega), List.getElem?_take, if_pos hm]
theorem ins_at {xs : List Int} {j : Nat} {v : Int} (hj : j ≤ xs.length) : (xs.take j ++ [v] ++ xs.drop j)[j]?.getD 0 = v := by
  have h : (xs.take j).length = j := by rw [List.length_take]; omega
  rw [List.append_assoc, List.getElem?_append_right (by omega), h]; simp
theorem ins_high {xs : List Int} {j m : Nat} {v : Int} (hj : j ≤ xs.length) (hm : j ≤ m) : (xs.take j ++ [v] ++ xs.drop j)[m + 1]?.getD 0 = xs[m]?.getD 0 := by
  have h : (xs.take j ++ [v]).length = j + 1 := by rw [List.length_append, List.length_take]; simp; omega
  rw [List.getElem?_append_right (by omega), h, List.getElem?_drop]
  congr 2
  omega

theorem room_value {n j : Nat} {xs ps : List Int} {v : Int} (hl : xs.length = n) (hp : ps.length = n) (hj : j ≤ n) :
    dotSum (roomL xs j 1) (ps.take j ++ [v] ++ ps.drop j) (n + 1) = dotSum xs ps n := by
  have hz : roomL xs j 1 = xs.take j ++ [0] ++ xs.drop j := rfl
  rw [hz]
  have := dot_shift (xs := xs) (ps := ps) (X := xs.take j ++ [0] ++ xs.drop j) (Y := ps.take j ++ [v] ++ ps.drop j) (j := j)
    (fun m hm => ⟨ins_low (by omega) hm, ins_low (by omega) hm⟩) (ins_at (by omega)) (fun m hm => ⟨ins_high (by omega) hm, ins_high (by omega) hm⟩) (n - j)
  rwa [show j + (n - j) = n by omega] at this

theorem room_back {n j : Nat} {xs : List Int} (hl : xs.length = n) (hj : j ≤ n) : (roomL xs j 1).eraseIdx j = xs := by
  have h : (xs.take j).length = j := by rw [List.length_take]; omega
  have hz : roomL xs j 1 = xs.take j ++ ([0] ++ xs.drop j) := by rw [← List.append_assoc]; rfl
  rw [hz, List.eraseIdx_append_of_length_le (by omega), h]
  simp

/-- The valid expressions are good at every point of valid coordinates. -/
theorem good_of {n : Nat} {X xs ps : List Int} {K : Int} (hv : validB X K = true) (hg : ∀ i, i < n → goodAt xs ps i) : ∀ i, i < n → goodAt X ps i := fun i hi => ⟨valid_at hv i, (hg i hi).2⟩

theorem room_valid {xs : List Int} {K : Int} {j : Nat} (hv : validB xs K = true) (h12 : xs.length + 1 ≤ 12) (hj : j ≤ xs.length) : validB (roomL xs j 1) K = true := by
  obtain ⟨h1, h2, h3⟩ := validB_true.1 hv
  refine validB_true.2 ⟨by rw [room_len rfl hj]; omega, h2, fun x hx => ?_⟩
  simp only [roomL, List.mem_append] at hx
  rcases hx with (hx | hx) | hx
  · exact h3 x (List.mem_of_mem_take hx)
  · have : x = 0 := by simpa [zeros] using hx
    subst this; decide
  · exact h3 x (List.mem_of_mem_drop hx)

theorem room_good {xs ps : List Int} {K : Int} {j n : Nat} (hv : validB (roomL xs j 1) K = true) (hl : xs.length = n) (hp : ps.length = n) (hj : j ≤ n) (hg : ∀ m, m < n → goodAt xs ps m) :
    ∀ m, m < n + 1 → goodAt (roomL xs j 1) (ps.take j ++ [7] ++ ps.drop j) m := fun m hm => by
  refine ⟨valid_at hv m, ?_⟩
  rcases Nat.lt_or_ge m j with h | h
  · rw [ins_low (by omega) h]; exact (hg m (by omega)).2
  · rcases Nat.lt_or_ge j m with h' | h'
    · obtain ⟨q, rfl⟩ : ∃ q, m = q + 1 := ⟨m - 1, by omega⟩
      rw [ins_high (by omega) (by omega)]
      exact (hg q (by omega)).2
    · obtain rfl : m = j := by omega
      rw [ins_at (by omega)]; omega

/-- The value of an expression at a point. -/
def valE (xs : List Int) (K : Int) (ps : List Int) : Int := K + dotSum xs ps xs.length
end Go.Proofs.YtkgnlloioaobiaaGreat

/-
  Negation as mathematics: at each point exactly one holds of a condition and what its negation answers.
-/
namespace Go.Proofs.YtkgnlloioaobiaaGreat
open Go.RowKit
set_option linter.unusedVariables false
set_option linter.unusedSimpArgs false

def holdD (n : Nat) (ps : List Int) (d : CD) : Bool := holdB d.q d.M (d.K + dotSum d.xs ps n)

theorem zeros_get (n j : Nat) : (zeros n)[j]?.getD 0 = 0 := by simp [zeros, List.getElem?_replicate]; split <;> rfl
theorem one_count {n : Nat} {ps : List Int} {d : CD} (h : OppOk n d) : (negOne n d).countP (holdD n ps) = [d].countP (holdD n ps) := by
  have hh := nf_holds (K := d.K) h.2.2.2 h.1 ps
  have hst := nf_state (K := d.K) h.2.2.2 h.1
  have hd : holdD n ps d = holdB d.q d.M (d.K + dotSum d.xs ps n) := rfl
  unfold negOne
  show List.countP _ (if (nf d.q d.M n d.xs d.K).2.2.2.2 = 0 then _ else if (nf d.q d.M n d.xs d.K).2.2.2.2 = 1 then _ else _) = _
  rw [List.countP_singleton, hd, hh]
  rcases hst with ⟨hs, _, _⟩ | hs | hs
  · rw [if_pos hs, if_pos hs, List.countP_singleton]
    rfl
  · have z : ¬ (nf d.q d.M n d.xs d.K).2.2.2.2 = 0 := by rw [hs]; decide
    rw [if_neg z, if_pos hs, if_neg z, hs, List.countP_singleton]
    have : holdD n ps ⟨0, 0, zeros n, 0⟩ = true := by
      show holdB 0 0 (0 + dotSum (zeros n) ps n) = true
      rw [dot_zero n fun j _ => zeros_get n j]
      rfl
    rw [this]; rfl
  · have z : ¬ (nf d.q d.M n d.xs d.K).2.2.2.2 = 0 := by rw [hs]; decide
    have z1 : ¬ (nf d.q d.M n d.xs d.K).2.2.2.2 = 1 := by rw [hs]; decide
    rw [if_neg z, if_neg z1, if_neg z, hs]
    rfl
theorem out_count {n : Nat} {ps : List Int} : ∀ ds : List CD, (∀ d ∈ ds, OppOk n d) → (negOut n ds).countP (holdD n ps) = ds.countP (holdD n ps)
  | [], _ => rfl
  | d :: ds, h => by
    have ih := out_count (ps := ps) ds fun d' hd' => h d' (List.mem_cons_of_mem _ hd')
    unfold negOut at ih ⊢
    rw [List.flatMap_cons, List.countP_append, ih, one_count (h d List.mem_cons_self)]
    simp only [List.countP_cons, List.countP_nil]
    omega

theorem count_shift (t : Int) : ∀ N : Nat, (List.range N).countP (fun (r : Nat) => decide ((r : Int) + 1 = t)) = if 1 ≤ t ∧ t ≤ N then 1 else 0
  | 0 => by rw [if_neg (by omega)]; rfl
  | N + 1 => by
    rw [List.range_succ, List.countP_append, count_shift t N, List.countP_singleton]
    by_cases h : (N : Int) + 1 = t
    · rw [if_neg (by omega), if_pos (by simpa using h), if_pos (by omega)]
    · rw [if_neg (show ¬ (decide ((N : Int) + 1 = t) = true) by simpa using h)]
      by_cases h2 : 1 ≤ t ∧ t ≤ N
      · rw [if_pos h2, if_pos (by omega)]
      · rw [if_neg h2, if_neg (by omega)]
theorem mul_dot {n : Nat} {s : Int} {xs ps : List Int} : dotSum (mulL n s xs) ps n = s * dotSum xs ps n :=
  dot_scale n fun j hj => by unfold mulL; rw [tab_get _ hj]

/-- Of a condition and the conditions of its negation exactly one holds. -/
theorem opp_count {q M : Int} {n : Nat} {xs : List Int} {K : Int} (hq : (q = 0 ∧ M = 0) ∨ (q = 1 ∧ M = 0) ∨ (q = 2 ∧ 1 ≤ M ∧ M ≤ 512)) (ps : List Int) :
    (oppL q M n xs K).countP (holdD n ps) + (if holdB q M (K + dotSum xs ps n) = true then 1 else 0) = 1 := by
  generalize hv : K + dotSum xs ps n = v
  have ev : ∀ k s : Int, s * K + k + dotSum (mulL n s xs) ps n = s * v + k := fun k s => by
    rw [mul_dot, ← hv, Int.mul_add]; omega
  unfold oppL
  rcases hq with ⟨rfl, rfl⟩ | ⟨rfl, rfl⟩ | ⟨rfl, hM⟩
  · rw [if_pos rfl, List.countP_singleton]
    have e : holdD n ps ⟨0, 0, mulL n (-1) xs, -1 * K + -1⟩ = decide (0 ≤ -1 * v + -1) := by
      show holdB 0 0 (-1 * K + -1 + dotSum (mulL n (-1) xs) ps n) = _
      rw [ev]; rfl
    have e2 : holdB 0 0 v = decide (0 ≤ v) := rfl
    rw [e, e2]
    by_cases h : 0 ≤ v
    · rw [if_neg (by simp; omega), if_pos (by simpa using h)]
    · rw [if_pos (by simp; omega), if_neg (by simpa using h)]
  · rw [if_neg (by decide), if_pos rfl, List.countP_cons, List.countP_singleton]
    have e : holdD n ps ⟨0, 0, mulL n (-1) xs, -1 * K + -1⟩ = decide (0 ≤ -1 * v + -1) := by
      show holdB 0 0 (-1 * K + -1 + dotSum (mulL n (-1) xs) ps n) = _
      rw [ev]; rfl
    have e' : holdD n ps ⟨0, 0, mulL n 1 xs, 1 * K + -1⟩ = decide (0 ≤ 1 * v + -1) := by
      show holdB 0 0 (1 * K + -1 + dotSum (mulL n 1 xs) ps n) = _
      rw [ev]; rfl
    have e2 : holdB 1 0 v = decide (v = 0) := rfl
    rw [e, e', e2]
    by_cases h0 : v = 0
    · rw [if_neg (by simp; omega), if_neg (by simp; omega), if_pos (by simpa using h0)]
    · by_cases h1 : 0 < v
      · rw [if_neg (by simp; omega), if_pos (by simp; omega), if_neg (by simpa using h0)]
      · rw [if_pos (by simp; omega), if_neg (by simp; omega), if_neg (by simpa using h0)]
  · rw [if_neg (by decide), if_neg (by decide), List.countP_map]
    have e2 : holdB 2 M v = decide (v % M = 0) := rfl
    have m0 := Int.emod_nonneg v (show M ≠ 0 by omega)
    have m1 := Int.emod_lt_of_pos v (show 0 < M by omega)
    have hcong : (List.range (M.toNat - 1)).countP (holdD n ps ∘ fun (r : Nat) => (⟨2, M, mulL n 1 xs, 1 * K + -((r : Int) + 1)⟩ : CD)) = (List.range (M.toNat - 1)).countP (fun (r : Nat) => decide ((r : Int) + 1 = v % M)) := by
      refine List.countP_congr fun r hr => ?_
      have hr := List.mem_range.1 hr
      show holdB 2 M (1 * K + -((r : Int) + 1) + dotSum (mulL n 1 xs) ps n) = true ↔ _
      rw [ev]
      show decide ((1 * v + -((r : Int) + 1)) % M = 0) = true ↔ decide ((r : Int) + 1 = v % M) = true
      rw [decide_eq_true_iff, decide_eq_true_iff]
      have e3 := Int.mul_ediv_add_emod v M
      constructor
      · intro h
        obtain ⟨y, hy⟩ := Int.dvd_of_emod_eq_zero h
        have h4 : M * (y - v / M) = v % M - ((r : Int) + 1) := by rw [Int.mul_sub]; omega
        rcases Int.lt_trichotomy (y - v / M) 0 with h5 | h5 | h5
        · have : M * (y - v / M) ≤ M * (-1) := Int.mul_le_mul_of_nonneg_left (by omega) (by omega)
          omega
        · rw [h5, Int.mul_zero] at h4; omega
        · have : M * 1 ≤ M * (y - v / M) := Int.mul_le_mul_of_nonneg_left (by omega) (by omega)
          omega
      · intro h
        rw [h, show 1 * v + -(v % M) = M * (v / M) by omega]
        exact Int.mul_emod_right _ _
    rw [hcong, count_shift, e2]
    by_cases h : v % M = 0
    · rw [if_neg (by omega), if_pos (by simpa using h)]
    · rw [if_pos (by omega), if_neg (by simpa using h)]

/-- What Negate answers is valid. -/
theorem out_valid {n : Nat} {ds : List CD} (hn : n ≤ 12) (h : ∀ d ∈ ds, OppOk n d) (hb : ds.any (negBad n) = false) : ∀ d ∈ negOut n ds, validC d.q d.M d.xs d.K = true ∧ d.xs.length = n := by
  intro d hd
  obtain ⟨d0, hd0, hd⟩ := List.mem_flatMap.1 hd
  obtain ⟨h1, h2, h3, h4⟩ := h d0 hd0
  have hbad : negBad n d0 = false := by
    rw [List.any_eq_false] at hb
    simpa using hb d0 hd0
  unfold negOne at hd
  split at hd
  · rename_i hs
    rw [List.mem_singleton.1 hd]
    have hs' : (nf d0.q d0.M n d0.xs d0.K).2.2.2.2 = 0 := hs
    have hi := (nf_idem h4 h1 hs').1
    have hvb : validB (nf d0.q d0.M n d0.xs d0.K).2.2.1 (nf d0.q d0.M n d0.xs d0.K).2.2.2.1 = true := by
      unfold negBad at hbad
      rw [show decide ((nfD n d0).2.2.2.2 = 0) = true by simpa using hs, Bool.true_and] at hbad
      simpa [nfD] using hbad
    refine ⟨?_, hi⟩
    show validC (nf d0.q d0.M n d0.xs d0.K).1 (nf d0.q d0.M n d0.xs d0.K).2.1 (nf d0.q d0.M n d0.xs d0.K).2.2.1 (nf d0.q d0.M n d0.xs d0.K).2.2.2.1 = true
    unfold validC
    rw [hvb, Bool.true_and]
    rcases nf_case (K := d0.K) h4 h1 with ⟨s, hs'', h, hh⟩ | ⟨g, _, hg, h, _, _⟩ | ⟨D, _, hD, h, _, _, _, _⟩ | ⟨h, hq, h0, hM, hne, e, _, _, _⟩
    · rw [h] at hs'; exfalso; rcases hs'' with rfl | rfl <;> cases hs'
    · rw [h]; rfl
    · rw [h]; rfl
    · rw [e]
      rcases h1 with h1 | h1 | ⟨_, h1, h2⟩
      · rw [hq] at h1; cases h1
      · rw [hq] at h1; cases h1
      · have hM' := Int.ediv_mul_cancel hM
        have m3 := Int.ediv_le_self (h : Int) (show 0 ≤ d0.M by omega)
        have hm : 1 ≤ d0.M / (h : Int) := by
          rcases Int.lt_or_le (d0.M / (h : Int)) 1 with hlt | hge
          · have m4 := Int.ediv_nonneg (show 0 ≤ d0.M by omega) (show (0 : Int) ≤ h by omega)
            have : d0.M / (h : Int) = 0 := by omega
            rw [this] at hM'; omega
          · exact hge
        simp; omega
  · split at hd
    · rw [List.mem_singleton.1 hd]
      refine ⟨?_, zeros_len n⟩
      show validC 0 0 (zeros n) 0 = true
      unfold validC
      rw [validB_true.2 ⟨by rw [zeros_len]; exact hn, by decide, fun x hx => by rw [List.eq_of_mem_replicate hx]; decide⟩]
      rfl
    · cases hd
end Go.Proofs.YtkgnlloioaobiaaGreat

/-
  What Piece leaves holds at the same points.
-/
namespace Go.Proofs.YtkgnlloioaobiaaGreat
open Go.RowKit
set_option linter.unusedVariables false
set_option linter.unusedSimpArgs false
set_option linter.unusedSectionVars false

/-- All conditions hold at the point. -/
def HoldsL (n : Nat) (x : List Int) (ds : List CD) : Prop := ∀ d ∈ ds, holdD n x d = true
def valD (n : Nat) (x : List Int) (d : CD) : Int := d.K + dotSum d.xs x n
theorem hold_ge {n : Nat} {x : List Int} {d : CD} (hq : d.q = 0) : holdD n x d = true ↔ 0 ≤ valD n x d := by
  unfold holdD holdB valD
  rw [if_pos hq]
  simp
theorem hold_eq {n : Nat} {x : List Int} {d : CD} (hq : d.q = 1) : holdD n x d = true ↔ valD n x d = 0 := by
  unfold holdD holdB valD
  rw [if_neg (by omega), if_pos hq]
  simp
theorem dot_sgn {n : Nat} {s : Int} {xs x : List Int} : dotSum (sgnL s xs) x n = s * dotSum xs x n :=
  dot_scale n fun j _ => by
    unfold sgnL
    rw [List.getElem?_map]
    cases xs[j]? <;> simp
theorem holds_app {n : Nat} {x : List Int} {l l' : List CD} : HoldsL n x (l ++ l') ↔ HoldsL n x l ∧ HoldsL n x l' := by
  unfold HoldsL
  constructor
  · exact fun h => ⟨fun d hd => h d (List.mem_append_left _ hd), fun d hd => h d (List.mem_append_right _ hd)⟩
  · rintro ⟨h, h'⟩ d hd
    rcases List.mem_append.1 hd with hd | hd
    · exact h d hd
    · exact h' d hd
theorem holds_mem {n : Nat} {x : List Int} {l l' : List CD} (h : ∀ d, d ∈ l ↔ d ∈ l') : HoldsL n x l ↔ HoldsL n x l' :=
  ⟨fun hl d hd => hl d ((h d).2 hd), fun hl d hd => hl d ((h d).1 hd)⟩

section
variable {α : Type} (R : α → α → Bool) (S : α → α → Prop)
theorem compG_cover (hrefl : ∀ a, S a a) (htr : ∀ a b c, S a b → S b c → S a c) : ∀ (l : List α) (p : α), (p :: l).Pairwise (fun a b => R b a = true → S a b) → ∀ d ∈ l, (∃ e ∈ compG R p l, S e d) ∨ S p d
  | [], _, _, d, hd => nomatch hd
  | a :: l, p, hs, d, hd => by
    have hp := List.pairwise_cons.1 hs
    have ih := compG_cover hrefl htr l a hp.2
    unfold compG
    by_cases hR : R a p = true
    · rw [if_pos hR]
      have hpa := hp.1 a (List.mem_cons_self ..) hR
      rcases List.mem_cons.1 hd with rfl | hd
      · exact .inr hpa
      · rcases ih d hd with h | h
        · exact .inl h
        · exact .inr (htr _ _ _ hpa h)
    · rw [if_neg hR]
      rcases List.mem_cons.1 hd with rfl | hd
      · exact .inl ⟨d, List.mem_cons_self .., hrefl d⟩
      · rcases ih d hd with ⟨e, he, h⟩ | h
        · exact .inl ⟨e, List.mem_cons_of_mem _ he, h⟩
        · exact .inl ⟨a, List.mem_cons_self .., h⟩
/-- Each element is covered by one that is kept. -/
theorem comp_cover (hrefl : ∀ a, S a a) (htr : ∀ a b c, S a b → S b c → S a c) {l : List α} (hs : l.Pairwise (fun a b => R b a = true → S a b)) : ∀ d ∈ l, ∃ e ∈ comp R l, S e d := by
  cases l with
  | nil => intro d hd; cases hd
  | cons a l =>
    intro d hd
    show ∃ e ∈ a :: compG R a l, S e d
    rcases List.mem_cons.1 hd with rfl | hd
    · exact ⟨d, List.mem_cons_self .., hrefl d⟩
    · rcases compG_cover R S hrefl htr l a hs d hd with ⟨e, he, h⟩ | h
      · exact ⟨e, List.mem_cons_of_mem _ he, h⟩
      · exact ⟨a, List.mem_cons_self .., h⟩
end
theorem norm_nd {n : Nat} {d e : CD} (hd : NormD n d) (he : NormD n e) (hq : d.q = e.q) (hq2 : d.q ≠ 2) (hx : d.xs = e.xs) (hk : d.K = e.K) : d = e := by
  obtain ⟨q, M, xs, K⟩ := d
  obtain ⟨q', M', xs', K'⟩ := e
  have h1 : M = 0 := hd.M hq2
  have hq : q = q' := hq
  have h2 : M' = 0 := he.M (by rw [← hq]; exact hq2)
  have hx : xs = xs' := hx
  have hk : K = K' := hk
  subst hq hx hk h1 h2
  rfl
/-- Of the Ges of one slope the one of the least constant is kept. -/
theorem ges_cover {n : Nat} {p : List CD} (hs : Sorted p) (hn : ∀ d ∈ p, NormD n d) : ∀ d ∈ kindGe p, ∃ e ∈ gesD p, e.xs = d.xs ∧ e.K ≤ d.K := by
  refine comp_cover slopeD (fun e d : CD => e.xs = d.xs ∧ e.K ≤ d.K) (fun a => ⟨rfl, Int.le_refl _⟩) (fun a b c h h' => ⟨h.1.trans h'.1, Int.le_trans h.2 h'.2⟩) ?_
  refine List.Pairwise.imp_of_mem (fun {a b} ha hb h hR => ?_) (hs.sublist (kind_ge_sub p))
  have na := hn a ((kind_ge_sub p).subset ha)
  have nb := hn b ((kind_ge_sub p).subset hb)
  have qa := kind_ge_q a ha
  have qb := kind_ge_q b hb
  have hx : b.xs = a.xs := by simpa [slopeD] using hR
  rw [ord_xs (by rw [qa, qb]) (by rw [na.M (by omega), nb.M (by omega)]) (by rw [na.len, nb.len]), hx, if_pos ((lex_zero _ _ rfl).2 rfl)] at h
  refine ⟨hx.symm, ?_⟩
  unfold cmpI at h
  split at h
  · omega
  · split at h <;> omega
/-- Cutting repetitions keeps every condition. -/
theorem equal_cover {n : Nat} {l : List CD} (hs : Sorted l) (hn : ∀ d ∈ l, NormD n d) : ∀ d ∈ l, d ∈ comp equalD l := by
  intro d hd
  obtain ⟨e, he, h⟩ := comp_cover equalD (fun e d : CD => e = d) (fun a => rfl) (fun a b c h h' => h.trans h') (l := l) (by
    refine List.Pairwise.imp_of_mem (fun {a b} ha hb _ hR => ?_) hs
    have na := hn a ha
    have nb := hn b hb
    exact (key_inj nb.q na.q ((equal_iff nb.len na.len).1 hR)).symm) d hd
  rw [← h]; exact he
theorem equal_mem {n : Nat} {l : List CD} (hs : Sorted l) (hn : ∀ d ∈ l, NormD n d) (d : CD) : d ∈ comp equalD l ↔ d ∈ l := ⟨comp_mem, equal_cover hs hn d⟩
theorem kinds_split (p : List CD) : kindEq p ++ (kindGe p ++ kindDv p) = p := by
  unfold kindEq kindGe kindDv
  rw [List.takeWhile_append_dropWhile, List.takeWhile_append_dropWhile]
theorem eqs_mem {p : List CD} (d : CD) : d ∈ eqsIn p ↔ d ∈ kindEq p ∨ d ∈ tightD (gesD p) := by
  unfold eqsIn
  split
  · rw [show sortD (kindEq p ++ tightD (gesD p)) = sortL leD (kindEq p ++ tightD (gesD p)) from rfl, (sortL_perm leD _).mem_iff, List.mem_append]
  · rename_i h
    have : tightD (gesD p) = [] := List.eq_nil_of_length_eq_zero (by omega)
    rw [this]
    simp
theorem slack_elim {l : List CD} {d : CD} {k : Int} (h : slackD l d = some k) : ∃ e ∈ l, e.xs = sgnL (-1) d.xs ∧ k = d.K + e.K := by
  unfold slackD at h
  split at h
  · cases h
  · cases hf : findD l (sgnL (-1) d.xs) with
    | none => rw [hf] at h; cases h
    | some e =>
      rw [hf] at h
      obtain ⟨ht, j, hj⟩ := find_elim hf
      exact ⟨e, List.mem_of_getElem? hj, ht, by simpa using h.symm⟩
theorem opp_val {n : Nat} {x : List Int} {d e : CD} (h : e.xs = sgnL (-1) d.xs) : valD n x d + valD n x e = d.K + e.K := by
  unfold valD
  rw [h, dot_sgn]
  omega
theorem tight_elim {l : List CD} {d : CD} (h : d ∈ tightD l) : d.q = 1 ∧ ∃ c ∈ l, slackD l c = some 0 ∧ d.xs = c.xs ∧ d.K = c.K := by
  unfold tightD at h
  obtain ⟨c, hc, h⟩ := List.mem_flatMap.1 h
  unfold tightOne at h
  cases hs : slackD l c with
  | none => rw [hs] at h; cases h
  | some k =>
    rw [hs] at h
    by_cases h0 : k = 0
    · subst h0
      simp only [if_true] at h
      rw [List.mem_singleton] at h
      subst h
      exact ⟨rfl, c, hc, hs, rfl, rfl⟩
    · simp only [if_neg h0] at h
      cases h
theorem tight_intro {l : List CD} {c : CD} (hc : c ∈ l) (h : slackD l c = some 0) : (⟨1, 0, c.xs, c.K⟩ : CD) ∈ tightD l := by
  unfold tightD
  refine List.mem_flatMap.2 ⟨c, hc, ?_⟩
  rw [tight_zero h]
  exact List.mem_singleton_self _

section
variable {n : Nat} {x : List Int} {p : List CD} (hs : Sorted p) (hn : ∀ d ∈ p, NormD n d)
include hs hn
theorem ges_hold (h : HoldsL n x p) : ∀ d ∈ gesD p, 0 ≤ valD n x d := fun d hd => by
  have hg := comp_mem hd
  exact (hold_ge (kind_ge_q d hg)).1 (h d ((kind_ge_sub p).subset hg))
theorem tight_hold (h : HoldsL n x p) : ∀ d ∈ tightD (gesD p), holdD n x d = true := fun d hd => by
  obtain ⟨hq, c, hc, hk, hx, hK⟩ := tight_elim hd
  obtain ⟨e, he, ht, h0⟩ := slack_elim hk
  have h1 := ges_hold hs hn h c hc
  have h2 := ges_hold hs hn h e he
  have h3 := opp_val (n := n) (x := x) ht
  rw [hold_eq hq]
  have : valD n x d = valD n x c := by unfold valD; rw [hx, hK]
  omega
theorem eqs_hold (h : HoldsL n x p) : ∀ d ∈ eqsD p, holdD n x d = true := fun d hd => by
  rcases (eqs_mem d).1 (comp_mem (l := eqsIn p) hd) with h1 | h1
  · exact h d ((kind_eq_sub p).subset h1)
  · exact tight_hold hs hn h d h1
theorem pair_void (h : pairVoid (gesD p) = true) : ¬ HoldsL n x p := fun hh => by
  unfold pairVoid at h
  obtain ⟨d, hd, h⟩ := List.any_eq_true.1 h
  cases hk : slackD (gesD p) d with
  | none => rw [hk] at h; cases h
  | some k =>
    rw [hk] at h
    have h0 : k < 0 := by simpa using h
    obtain ⟨e, he, ht, hke⟩ := slack_elim hk
    have h1 := ges_hold hs hn hh d hd
    have h2 := ges_hold hs hn hh e he
    have h3 := opp_val (n := n) (x := x) ht
    omega
theorem eqs_strict : (eqsD p).Pairwise (fun a b => ordL (keyD a) (keyD b) < 0) := by
  have hnorm := eqs_norm hn
  have h1 := eqs_sorted hs hn
  have : ∀ l : List CD, (∀ d ∈ l, NormD n d ∧ d.q = 1) → Sorted l → (comp equalD l).Pairwise (fun a b => ordL (keyD a) (keyD b) < 0) := fun l hl hsl => by
    have key := comp_strict (fun d : { d : CD // d.xs.length = n } => keyD d.1) (fun a b => equalD a.1 b.1) (n := n + 3) (fun a b => equal_iff a.2 b.2) (l.attachWith _ fun d hd => (hl d hd).1.len) (fun a _ => by rw [key_len, a.2]) (by
      have hsl' : l.Pairwise (fun a b => ordL (keyD a) (keyD b) ≤ 0) := hsl
      rw [List.pairwise_iff_getElem] at hsl' ⊢
      intro i j hi hj hij
      simpa using hsl' i j (by simpa using hi) (by simpa using hj) hij)
    have hm := comp_map (fun a b : { d : CD // d.xs.length = n } => equalD a.1 b.1) (fun a => a.1) equalD (fun _ _ => rfl) (l.attachWith _ fun d hd => (hl d hd).1.len)
    have hv : (l.attachWith _ fun d hd => (hl d hd).1.len).map (fun a : { d : CD // d.xs.length = n } => a.1) = l := by simp
    rw [hv] at hm
    rw [← hm, List.pairwise_map]
    exact key
  exact this _ hnorm h1
theorem clash_void (h : clashD (eqsD p) = true) : ¬ HoldsL n x p := fun hh => by
  unfold clashD at h
  obtain ⟨i, hi, h⟩ := List.any_eq_true.1 h
  rw [List.mem_range] at hi
  have h1 : i < (eqsD p).length := by omega
  have h2 : i + 1 < (eqsD p).length := by omega
  rw [List.getElem?_eq_getElem h1, List.getElem?_eq_getElem h2] at h
  have hx : (eqsD p)[i].xs = (eqsD p)[i + 1].xs := by simpa [slopeD] using h
  have na := eqs_norm hn _ (comp_mem (l := eqsIn p) (List.getElem_mem h1))
  have nb := eqs_norm hn _ (comp_mem (l := eqsIn p) (List.getElem_mem h2))
  have va := (hold_eq na.2).1 (eqs_hold hs hn hh _ (List.getElem_mem h1))
  have vb := (hold_eq nb.2).1 (eqs_hold hs hn hh _ (List.getElem_mem h2))
  have hK : (eqsD p)[i].K = (eqsD p)[i + 1].K := by
    unfold valD at va vb
    rw [hx] at va
    omega
  have e := norm_nd na.1 nb.1 (by rw [na.2, nb.2]) (by rw [na.2]; decide) hx hK
  have := List.pairwise_iff_getElem.1 (eqs_strict hs hn) i (i + 1) h1 h2 (by omega)
  rw [e, (lex_zero _ _ rfl).2 rfl] at this
  omega
theorem sign_one (xs : List Int) : signI xs * signI xs = 1 := by unfold signI; split <;> rfl
omit hs hn in
theorem imp_val {eqs : List CD} {c e : CD} (h : impD eqs c = some e) (he : valD n x e = 0) : e ∈ eqs ∧ c.K - signI c.xs * e.K = valD n x c := by
  unfold impD at h
  obtain ⟨ht, j, hj⟩ := find_elim h
  refine ⟨List.mem_of_getElem? hj, ?_⟩
  unfold valD at he ⊢
  rw [ht, dot_sgn] at he
  have h1 : signI c.xs = 1 ∨ signI c.xs = -1 := by unfold signI; split <;> simp
  rcases h1 with h1 | h1 <;> rw [h1] at he ⊢ <;> omega
theorem imp_void (h : impVoid (eqsD p) (restD (gesD p)) = true) : ¬ HoldsL n x p := fun hh => by
  unfold impVoid at h
  obtain ⟨c, hc, h⟩ := List.any_eq_true.1 h
  cases hk : impD (eqsD p) c with
  | none => rw [hk] at h; cases h
  | some e =>
    rw [hk] at h
    have h0 : c.K - signI c.xs * e.K < 0 := by simpa using h
    have hmem : e ∈ eqsD p := by
      unfold impD at hk
      obtain ⟨_, j, hj⟩ := find_elim hk
      exact List.mem_of_getElem? hj
    have ne := eqs_norm hn e (comp_mem (l := eqsIn p) hmem)
    have ve := (hold_eq ne.2).1 (eqs_hold hs hn hh e hmem)
    have := (imp_val (n := n) (x := x) hk ve).2
    have h1 := ges_hold hs hn hh c (List.mem_filter.1 hc).1
    omega
theorem settle_void (h : settleD p = none) : ¬ HoldsL n x p := by
  unfold settleD at h
  split at h
  · rename_i h1; exact pair_void hs hn h1
  · split at h
    · rename_i h1; exact clash_void hs hn h1
    · split at h
      · rename_i h1; exact imp_void hs hn h1
      · cases h
theorem dv_sorted : Sorted (kindDv p) := hs.sublist (((List.dropWhile_sublist _).trans (List.dropWhile_sublist _)))
theorem dv_norm : ∀ d ∈ kindDv p, NormD n d := fun d hd => hn d (((List.dropWhile_sublist _).trans (List.dropWhile_sublist _)).subset hd)
theorem settle_points {r : List CD} (h : settleD p = some r) : HoldsL n x p ↔ HoldsL n x r := by
  have hsl := ges_slopes hs hn
  unfold settleD at h
  split at h
  · cases h
  · split at h
    · cases h
    · split at h
      · cases h
      · rename_i hpv hcl hiv
        have hr : r = eqsD p ++ impRest (eqsD p) (restD (gesD p)) ++ comp equalD (kindDv p) := by
          simpa using h.symm
        subst hr
        have hrest : ∀ d ∈ impRest (eqsD p) (restD (gesD p)), d ∈ restD (gesD p) := fun d hd => by
          unfold impRest at hd
          split at hd
          · exact hd
          · exact (List.mem_filter.1 hd).1
        rw [holds_app, holds_app]
        constructor
        · intro hh
          refine ⟨⟨eqs_hold hs hn hh, fun d hd => ?_⟩, fun d hd => ?_⟩
          · have h1 := comp_mem (List.mem_filter.1 (hrest d hd)).1
            exact hh d ((kind_ge_sub p).subset h1)
          · exact hh d (((List.dropWhile_sublist _).trans (List.dropWhile_sublist _)).subset (comp_mem hd))
        · rintro ⟨⟨he, hg⟩, hd⟩
          have heq : ∀ d ∈ eqsIn p, holdD n x d = true := fun d hd' => he d (equal_cover (eqs_sorted hs hn) (fun d hd => (eqs_norm hn d hd).1) d hd')
          have htight : ∀ c ∈ gesD p, slackD (gesD p) c = some 0 → valD n x c = 0 := fun c hc hk => by
            have h1 := heq _ ((eqs_mem _).2 (.inr (tight_intro hc hk)))
            exact (hold_eq (d := ⟨1, 0, c.xs, c.K⟩) rfl).1 h1
          have hges : ∀ d ∈ gesD p, 0 ≤ valD n x d := fun d hdm => by
            by_cases hgo : goneD (gesD p) d = true
            · obtain ⟨j, hj, hdj⟩ := List.getElem_of_mem hdm
              obtain ⟨i, _, c, e, hc, he', hk, hie⟩ := (gone_mark hsl (by rw [List.getElem?_eq_getElem hj, hdj])).1 hgo
              have hcm := List.mem_of_getElem? hc
              have v0 := htight c hcm hk
              rw [List.getElem?_eq_getElem hj, hdj] at he'
              cases he'
              rcases hie with rfl | hx
              · rw [List.getElem?_eq_getElem hj, hdj] at hc
                cases hc
                omega
              · obtain ⟨e2, he2, ht2, h02⟩ := slack_elim hk
                obtain ⟨j2, hj2, hdj2⟩ := List.getElem_of_mem he2
                have : j = j2 := slope_one hsl (by rw [List.getElem?_eq_getElem hj, hdj]) (by rw [List.getElem?_eq_getElem hj2, hdj2]) (by rw [hx, ht2])
                subst this
                rw [hdj] at hdj2
                subst hdj2
                have := opp_val (n := n) (x := x) ht2
                omega
            · have hr : d ∈ restD (gesD p) := List.mem_filter.2 ⟨hdm, by simpa using hgo⟩
              have hq := kind_ge_q d (comp_mem hdm)
              by_cases hem : (eqsD p).isEmpty = true
              · have : d ∈ impRest (eqsD p) (restD (gesD p)) := by
                  unfold impRest
                  rw [if_pos hem]
                  exact hr
                exact (hold_ge hq).1 (hg d this)
              · cases hk : impD (eqsD p) d with
                | none =>
                  have : d ∈ impRest (eqsD p) (restD (gesD p)) := by
                    unfold impRest
                    rw [if_neg hem]
                    exact List.mem_filter.2 ⟨hr, by rw [hk]; rfl⟩
                  exact (hold_ge hq).1 (hg d this)
                | some e =>
                  have hmem : e ∈ eqsD p := by
                    unfold impD at hk
                    obtain ⟨_, j, hj⟩ := find_elim hk
                    exact List.mem_of_getElem? hj
                  have ne := eqs_norm hn e (comp_mem (l := eqsIn p) hmem)
                  have ve := (hold_eq ne.2).1 (he e hmem)
                  have h1 := (imp_val (n := n) (x := x) hk ve).2
                  have h2 : ¬ d.K - signI d.xs * e.K < 0 := fun hlt => by
                    apply hiv
                    unfold impVoid
                    refine List.any_eq_true.2 ⟨d, hr, ?_⟩
                    rw [hk]
                    simpa using hlt
                  omega
          intro d hdp
          rw [← kinds_split p] at hdp
          rcases List.mem_append.1 hdp with h1 | h1
          · exact heq d ((eqs_mem d).2 (.inl h1))
          · rcases List.mem_append.1 h1 with h1 | h1
            · obtain ⟨e, hem, hx, hK⟩ := ges_cover hs hn d h1
              rw [hold_ge (kind_ge_q d h1)]
              have := hges e hem
              have : valD n x d = valD n x e + (d.K - e.K) := by unfold valD; rw [hx]; omega
              omega
            · exact hd d (equal_cover (dv_sorted hs hn) (dv_norm hs hn) d h1)
end

/-- The conditions' normal forms. -/
theorem norm_void {n : Nat} {x : List Int} {ds : List CD} (hk : ∀ d ∈ ds, KindOk d.q d.M ∧ d.xs.length = n) (h : normVoid n ds = true) : ¬ HoldsL n x ds := fun hh => by
  unfold normVoid at h
  obtain ⟨d, hd, h⟩ := List.any_eq_true.1 h
  have hnv : (nf d.q d.M n d.xs d.K).2.2.2.2 = -1 := of_decide_eq_true (show decide ((nfD n d).2.2.2.2 = -1) = true from h)
  have := nf_holds (K := d.K) (hk d hd).2 (hk d hd).1 x
  rw [hnv] at this
  have h1 := hh d hd
  unfold holdD at h1
  rw [this] at h1
  simp at h1
theorem norm_points {n : Nat} {x : List Int} {ds : List CD} (hk : ∀ d ∈ ds, KindOk d.q d.M ∧ d.xs.length = n) (h : normVoid n ds = false) : HoldsL n x ds ↔ HoldsL n x (normOut n ds) := by
  have key : ∀ d ∈ ds, (holdD n x d = true ↔ HoldsL n x (openD n d)) := fun d hd => by
    have hh := nf_holds (K := d.K) (hk d hd).2 (hk d hd).1 x
    have hst := nf_state (K := d.K) (hk d hd).2 (hk d hd).1
    have hnn : (nf d.q d.M n d.xs d.K).2.2.2.2 ≠ -1 := fun e => by
      unfold normVoid at h
      rw [List.any_eq_false] at h
      exact h d hd (show decide ((nfD n d).2.2.2.2 = -1) = true from decide_eq_true e)
    unfold holdD at ⊢
    rw [hh]
    unfold openD nfD HoldsL
    rcases hst with ⟨h0, _⟩ | h1 | h1
    · rw [if_pos h0, if_pos h0]
      simp [holdD]
    · rw [if_neg (by omega), if_neg (by omega), h1]
      simp
    · exact absurd h1 hnn
  unfold normOut
  constructor
  · intro hh e he
    obtain ⟨d, hd, he⟩ := List.mem_flatMap.1 he
    exact (key d hd).1 (hh d hd) e he
  · intro hh d hd
    exact (key d hd).2 fun e he => hh e (List.mem_flatMap.2 ⟨d, hd, he⟩)
theorem valid_norm {n : Nat} {ds : List CD} (h : ∀ d ∈ ds, ValidD n d) : ∀ z ∈ normOut n ds, NormD n z := fun z hz => by
  obtain ⟨d, hd, hz⟩ := List.mem_flatMap.1 hz
  have hv := (h d hd).1
  obtain ⟨_, hK, hx⟩ := validB_true.1 (validC_kind hv).1
  have hK := fitsB_true.1 hK
  exact norm_one (h d hd).2 (validC_ok hv) (by omega) (fun y hy => by have := fitsB_true.1 (hx y hy); omega) z hz
theorem valid_kind {n : Nat} {ds : List CD} (h : ∀ d ∈ ds, ValidD n d) : ∀ d ∈ ds, KindOk d.q d.M ∧ d.xs.length = n := fun d hd => ⟨validC_ok (h d hd).1, (h d hd).2⟩
/-- A piece and what Piece leaves of it hold at the same points; a void one nowhere. -/
theorem piece_void {n : Nat} {x : List Int} {ds : List CD} (h : ∀ d ∈ ds, ValidD n d) (hv : (pieceD n ds).2.1 = true) : ¬ HoldsL n x ds := by
  have hk := valid_kind h
  have hN := valid_norm h
  unfold pieceD at hv
  split at hv
  · rename_i h1; exact norm_void hk h1
  · rename_i h1
    have h1 : normVoid n ds = false := by simpa using h1
    rw [norm_points hk h1]
    split at hv
    · rename_i h2
      have hm := fun d => (sortL_perm leD (normOut n ds)).mem_iff (a := d)
      rw [← holds_mem (l := sortD (normOut n ds)) (fun d => hm d)]
      exact settle_void (sorted_sort fun d hd => (hN d hd).len) (fun d hd => hN d ((hm d).1 hd)) h2
    · split at hv <;> cases hv
theorem piece_points {n : Nat} {x : List Int} {ds : List CD} (h : ∀ d ∈ ds, ValidD n d) (he : (pieceD n ds).2.2 = 0) (hv : (pieceD n ds).2.1 = false) : HoldsL n x ds ↔ HoldsL n x (pieceD n ds).1 := by
  have hk := valid_kind h
  have hN := valid_norm h
  unfold pieceD at he hv ⊢
  split at hv
  · cases hv
  · rename_i h1
    rw [if_neg h1] at he ⊢
    have h1 : normVoid n ds = false := by simpa using h1
    rw [norm_points hk h1]
    have hm := fun d => (sortL_perm leD (normOut n ds)).mem_iff (a := d)
    cases hst : settleD (sortD (normOut n ds)) with
    | none => rw [hst] at hv; cases hv
    | some r =>
      rw [hst] at he
      simp only at he ⊢
      split at he
      · cases he
      · rename_i h3
        rw [if_neg h3, ← holds_mem (l := sortD (normOut n ds)) (fun d => hm d)]
        exact settle_points (sorted_sort fun d hd => (hN d hd).len) (fun d hd => hN d ((hm d).1 hd)) hst
end Go.Proofs.YtkgnlloioaobiaaGreat

/-
  What Piece leaves, as a set of conditions: for whoever comes to it another way.
-/
namespace Go.Proofs.YtkgnlloioaobiaaGreat
open Go.RowKit
set_option linter.unusedVariables false
set_option linter.unusedSimpArgs false
set_option linter.unusedSectionVars false

/-- A normalized condition: its first coefficient. -/
structure NormE (n : Nat) (d : CD) : Prop where
  nd : NormD n d
  ge : d.q = 0 → gcdA 0 d.xs = 1
  eq : d.q = 1 → 0 < leadI d.xs
theorem lead_gcd : ∀ xs : List Int, leadI xs = 0 → gcdA 0 xs = 0
  | [], _ => rfl
  | x :: xs, h => by
    unfold leadI at h
    split at h
    · rename_i hx
      subst hx
      have ih := lead_gcd xs h
      unfold gcdA at ih ⊢
      simpa using ih
    · omega
theorem NormE.lead {n : Nat} {d : CD} (h : NormE n d) (hq : d.q = 0) : leadI d.xs ≠ 0 := fun h0 => by
  have := lead_gcd d.xs h0
  rw [h.ge hq] at this
  cases this
theorem open_norm {n : Nat} {d z : CD} (hk : KindOk d.q d.M) (hl : d.xs.length = n) (hz : z ∈ openD n d) (hn : NormD n z) : NormE n z := by
  suffices h : (z.q = 0 → gcdA 0 z.xs = 1) ∧ (z.q = 1 → 0 < leadI z.xs) from ⟨hn, h.1, h.2⟩
  unfold openD nfD at hz
  split at hz
  · rename_i hs
    rw [List.mem_singleton] at hz
    subst hz
    rcases nf_case (K := d.K) hl hk with ⟨s, hs'', h, hh⟩ | ⟨g, _, hg, h, h1, _⟩ | ⟨D, _, hD, h, h1, h2, _, _⟩ | ⟨h, hq, h0, hM, hne, e, _, _, _⟩
    · rw [h] at hs; exfalso; rcases hs'' with rfl | rfl <;> cases hs
    · rw [h]
      exact ⟨fun _ => h1, fun hq => (by cases hq)⟩
    · rw [h]
      refine ⟨fun hq => (by cases hq), fun _ => ?_⟩
      have h3 : ¬ leadI (quoL n d.xs D) < 0 := fun hlt => by
        unfold leadBy at h2
        rw [if_pos hlt] at h2
        omega
      have h4 : leadI (quoL n d.xs D) ≠ 0 := fun h0 => by
        have := lead_gcd _ h0
        rw [h1] at this
        cases this
      show 0 < leadI (quoL n d.xs D)
      omega
    · rw [e]
      exact ⟨fun hq' => (by cases hq'), fun hq' => (by cases hq')⟩
  · cases hz

/-- Some list of the conditions of the least constants. -/
def LeastOf (outs L : List CD) : Prop := (∀ a ∈ L, a ∈ outs ∧ a.q = 0) ∧ (∀ c ∈ outs, c.q = 0 → ∃ a ∈ L, a.xs = c.xs ∧ a.K ≤ c.K) ∧ ∀ (i j : Nat) (a b : CD), L[i]? = some a → L[j]? = some b → a.xs = b.xs → i = j
def VA (L : List CD) : Prop := ∃ d ∈ L, ∃ e ∈ L, e.xs = sgnL (-1) d.xs ∧ d.K + e.K < 0
def GoneP (L : List CD) (d : CD) : Prop := ∃ e ∈ L, e.xs = sgnL (-1) d.xs ∧ d.K + e.K = 0
def TightP (L : List CD) (t : CD) : Prop := ∃ d ∈ L, GoneP L d ∧ 0 < leadI d.xs ∧ t = ⟨1, 0, d.xs, d.K⟩
def EqP (outs L : List CD) (t : CD) : Prop := (t ∈ outs ∧ t.q = 1) ∨ TightP L t
def VB (E : CD → Prop) : Prop := ∃ a b, E a ∧ E b ∧ a.xs = b.xs ∧ a.K ≠ b.K
def MeetP (E : CD → Prop) (c e : CD) : Prop := E e ∧ e.xs = sgnL (signI c.xs) c.xs
def VC (E : CD → Prop) (L : List CD) : Prop := ∃ c ∈ L, ¬ GoneP L c ∧ ∃ e, MeetP E c e ∧ c.K - signI c.xs * e.K < 0
def RestP (E : CD → Prop) (L : List CD) (c : CD) : Prop := c ∈ L ∧ ¬ GoneP L c ∧ ¬ ∃ e, MeetP E c e
def OutP (outs L : List CD) (d : CD) : Prop := EqP outs L d ∨ RestP (EqP outs L) L d ∨ (d ∈ outs ∧ d.q = 2)
def VoidP (outs L : List CD) : Prop := VA L ∨ VB (EqP outs L) ∨ VC (EqP outs L) L

theorem least_sub {n : Nat} {outs L L' : List CD} (hn : ∀ d ∈ outs, NormD n d) (h : LeastOf outs L) (h' : LeastOf outs L') : ∀ d ∈ L, d ∈ L' := fun d hd => by
  obtain ⟨ho, hq⟩ := h.1 d hd
  obtain ⟨a, ha, hx, hK⟩ := h'.2.1 d ho hq
  obtain ⟨hao, haq⟩ := h'.1 a ha
  obtain ⟨b, hb, hbx, hbK⟩ := h.2.1 a hao haq
  obtain ⟨i, hi, e1⟩ := List.getElem_of_mem hd
  obtain ⟨j, hj, e2⟩ := List.getElem_of_mem hb
  have hij := h.2.2 i j d b (by rw [List.getElem?_eq_getElem hi, e1]) (by rw [List.getElem?_eq_getElem hj, e2]) (by rw [hbx, hx])
  subst hij
  rw [e1] at e2
  subst e2
  have : a = d := norm_nd (hn a hao) (hn d ho) (by rw [haq, hq]) (by omega) hx (by omega)
  rw [← this]; exact ha
theorem least_mem {n : Nat} {outs L L' : List CD} (hn : ∀ d ∈ outs, NormD n d) (h : LeastOf outs L) (h' : LeastOf outs L') (d : CD) : d ∈ L ↔ d ∈ L' := ⟨least_sub hn h h' d, least_sub hn h' h d⟩
theorem void_mem {outs L L' : List CD} (h : ∀ d, d ∈ L ↔ d ∈ L') : (VoidP outs L ↔ VoidP outs L') ∧ ∀ d, OutP outs L d ↔ OutP outs L' d := by
  have hg : ∀ d, GoneP L d ↔ GoneP L' d := fun d => by unfold GoneP; simp [h]
  have ht : ∀ d, TightP L d ↔ TightP L' d := fun d => by unfold TightP; simp [h, hg]
  have he : EqP outs L = EqP outs L' := by funext d; unfold EqP; rw [ht]
  refine ⟨?_, fun d => ?_⟩
  · unfold VoidP VA VC
    rw [he]
    simp [h, hg]
  · unfold OutP RestP
    rw [he]
    simp [h, hg]
/-- Two strictly sorted lists of the same conditions are one. -/
theorem strict_eq {n : Nat} : ∀ (l l' : List CD), (∀ d ∈ l, NormD n d) → (∀ d ∈ l', NormD n d) → l.Pairwise (fun a b => ordL (keyD a) (keyD b) < 0) → l'.Pairwise (fun a b => ordL (keyD a) (keyD b) < 0) → (∀ d, d ∈ l ↔ d ∈ l') → l = l'
  | [], [], _, _, _, _, _ => rfl
  | [], b :: l', _, _, _, _, h => absurd ((h b).2 (List.mem_cons_self ..)) (by simp)
  | a :: l, [], _, _, _, _, h => absurd ((h a).1 (List.mem_cons_self ..)) (by simp)
  | a :: l, b :: l', hn, hn', hs, hs', h => by
    have ha := List.pairwise_cons.1 hs
    have hb := List.pairwise_cons.1 hs'
    have e : a = b := by
      rcases List.mem_cons.1 ((h a).1 (List.mem_cons_self ..)) with e | ha'
      · exact e
      · rcases List.mem_cons.1 ((h b).2 (List.mem_cons_self ..)) with e | hb'
        · exact e.symm
        · have h1 := ha.1 b hb'
          have h2 := hb.1 a ha'
          rw [lex_swap] at h2
          omega
    subst e
    rw [strict_eq l l' (fun d hd => hn d (List.mem_cons_of_mem _ hd)) (fun d hd => hn' d (List.mem_cons_of_mem _ hd)) ha.2 hb.2 fun d => ?_]
    constructor
    · intro hd
      rcases List.mem_cons.1 ((h d).1 (List.mem_cons_of_mem _ hd)) with rfl | h1
      · have := ha.1 d hd
        rw [(lex_zero _ _ rfl).2 rfl] at this
        omega
      · exact h1
    · intro hd
      rcases List.mem_cons.1 ((h d).2 (List.mem_cons_of_mem _ hd)) with rfl | h1
      · have := hb.1 d hd
        rw [(lex_zero _ _ rfl).2 rfl] at this
        omega
      · exact h1

section
variable {n : Nat} {outs p : List CD} (hm : ∀ d, d ∈ p ↔ d ∈ outs) (hs : Sorted p) (hn : ∀ d ∈ p, NormE n d)
include hm hs hn
theorem p_norm : ∀ d ∈ p, NormD n d := fun d hd => (hn d hd).nd
/-- The kinds of a sorted list are its parts. -/
theorem kind_q : (∀ d, d ∈ kindEq p ↔ d ∈ p ∧ d.q = 1) ∧ (∀ d, d ∈ kindGe p ↔ d ∈ p ∧ d.q = 0) ∧ ∀ d, d ∈ kindDv p ↔ d ∈ p ∧ d.q = 2 := by
  have hall := kinds_split p
  -- whatever stands behind the front of a rank is of a greater one
  have hrank : ∀ (l : List CD) (f : CD → Bool) (r : Int), l.Pairwise (fun a b => ordL (keyD a) (keyD b) ≤ 0) → (∀ d, f d = true ↔ rankI d.q = r) → (∀ d ∈ l, r ≤ rankI d.q) → ∀ d ∈ l.dropWhile f, r < rankI d.q := by
    intro l f r
    induction l with
    | nil => intro _ _ _ d hd; simp at hd
    | cons a l ih =>
      intro hs hf hr d hd
      rw [List.dropWhile_cons] at hd
      have hc := List.pairwise_cons.1 hs
      by_cases ha : f a = true
      · rw [if_pos ha] at hd
        exact ih hc.2 hf (fun d hd => hr d (List.mem_cons_of_mem _ hd)) d hd
      · rw [if_neg ha] at hd
        have h1 : r < rankI a.q := by
          have := hr a (List.mem_cons_self ..)
          rcases Int.lt_or_eq_of_le this with h | h
          · exact h
          · exact absurd ((hf a).2 h.symm) ha
        rcases List.mem_cons.1 hd with rfl | hd
        · exact h1
        · have h2 := hc.1 d hd
          unfold keyD at h2
          simp only [ordL] at h2
          split at h2
          · omega
          · split at h2
            · omega
            · omega
  have hq := fun d hd => (hn d hd).nd.q
  have r1 : ∀ d : CD, (d.q == 1) = true ↔ rankI d.q = 0 := fun d => by
    unfold rankI
    by_cases h : d.q = 1
    · simp [h]
    · rw [if_neg h]; split <;> simp [h]
  have r0 : ∀ d : CD, (d.q == 0) = true ↔ rankI d.q = 1 := fun d => by
    unfold rankI
    by_cases h : d.q = 1
    · simp [h]
    · rw [if_neg h]
      by_cases h2 : d.q = 0 <;> simp [h2]
  have d1 := hrank p (fun d => d.q == 1) 0 hs r1 (fun d hd => by unfold rankI; split <;> (try split) <;> omega)
  have d2 := hrank (p.dropWhile fun d => d.q == 1) (fun d => d.q == 0) 1 (hs.sublist (List.dropWhile_sublist _)) r0 (fun d hd => by have := d1 d hd; omega)
  have q3 : ∀ d ∈ kindDv p, d.q = 2 := fun d hd => by
    have h1 := d2 d hd
    have h2 := hq d (((List.dropWhile_sublist _).trans (List.dropWhile_sublist _)).subset hd)
    unfold rankI at h1
    rcases h2 with h | h | h
    · rw [h] at h1; simp at h1
    · rw [h] at h1; simp at h1
    · exact h
  have hcase : ∀ d ∈ p, d ∈ kindEq p ∨ d ∈ kindGe p ∨ d ∈ kindDv p := fun d hd => by
    rw [← hall] at hd
    rcases List.mem_append.1 hd with h | h
    · exact .inl h
    · exact .inr (List.mem_append.1 h)
  refine ⟨fun d => ⟨fun h => ⟨(kind_eq_sub p).subset h, kind_eq_q d h⟩, fun h => ?_⟩, fun d => ⟨fun h => ⟨(kind_ge_sub p).subset h, kind_ge_q d h⟩, fun h => ?_⟩, fun d => ⟨fun h => ⟨((List.dropWhile_sublist _).trans (List.dropWhile_sublist _)).subset h, q3 d h⟩, fun h => ?_⟩⟩
  · rcases hcase d h.1 with h1 | h1 | h1
    · exact h1
    · have := kind_ge_q d h1; omega
    · have := q3 d h1; omega
  · rcases hcase d h.1 with h1 | h1 | h1
    · have := kind_eq_q d h1; omega
    · exact h1
    · have := q3 d h1; omega
  · rcases hcase d h.1 with h1 | h1 | h1
    · have := kind_eq_q d h1; omega
    · have := kind_ge_q d h1; omega
    · exact h1
theorem ges_least : LeastOf outs (gesD p) := by
  have hk := kind_q hm hs hn
  refine ⟨fun a ha => ?_, fun c hc hq => ?_, fun i j a b ha hb hx => slope_one (ges_slopes hs (p_norm hm hs hn)) ha hb hx⟩
  · have := (hk.2.1 a).1 (comp_mem ha)
    exact ⟨(hm a).1 this.1, this.2⟩
  · obtain ⟨e, he, h1, h2⟩ := ges_cover hs (p_norm hm hs hn) c ((hk.2.1 c).2 ⟨(hm c).2 hc, hq⟩)
    exact ⟨e, he, h1, h2⟩
theorem ges_e : ∀ d ∈ gesD p, NormE n d ∧ d.q = 0 := fun d hd => ⟨hn d ((kind_ge_sub p).subset (comp_mem hd)), kind_ge_q d (comp_mem hd)⟩
theorem find_ges {t : List Int} {e : CD} (he : e ∈ gesD p) (ht : e.xs = t) : findD (gesD p) t = some e := by
  obtain ⟨j, hj, e1⟩ := List.getElem_of_mem he
  exact find_some (ges_slopes hs (p_norm hm hs hn)) (k := j) (by rw [List.getElem?_eq_getElem hj, e1]) ht
theorem slack_iff {d e : CD} (hd : d ∈ gesD p) (he : e ∈ gesD p) (hx : e.xs = sgnL (-1) d.xs) (hl : 0 < leadI d.xs) : slackD (gesD p) d = some (d.K + e.K) := by
  unfold slackD
  rw [if_neg (by omega), find_ges hm hs hn he hx]
  rfl
theorem gone_iff {d : CD} : goneD (gesD p) d = true ↔ GoneP (gesD p) d := by
  unfold goneD GoneP
  constructor
  · intro h
    cases hf : findD (gesD p) (sgnL (-1) d.xs) with
    | none => rw [hf] at h; cases h
    | some e =>
      rw [hf] at h
      obtain ⟨ht, j, hj⟩ := find_elim hf
      exact ⟨e, List.mem_of_getElem? hj, ht, by simpa using h⟩
  · rintro ⟨e, he, hx, h0⟩
    rw [find_ges hm hs hn he hx]
    simpa using h0
theorem pair_iff : pairVoid (gesD p) = true ↔ VA (gesD p) := by
  unfold pairVoid VA
  rw [List.any_eq_true]
  constructor
  · rintro ⟨d, hd, h⟩
    cases hk : slackD (gesD p) d with
    | none => rw [hk] at h; cases h
    | some k =>
      rw [hk] at h
      obtain ⟨e, he, hx, hke⟩ := slack_elim hk
      have : k < 0 := by simpa using h
      exact ⟨d, hd, e, he, hx, by omega⟩
  · rintro ⟨d, hd, e, he, hx, h0⟩
    have hne := (ges_e hm hs hn d hd).1.lead (ges_e hm hs hn d hd).2
    by_cases hl : 0 < leadI d.xs
    · refine ⟨d, hd, ?_⟩
      rw [slack_iff hm hs hn hd he hx hl]
      simpa using h0
    · refine ⟨e, he, ?_⟩
      rw [slack_iff hm hs hn he hd (by rw [hx, sgn_sgn]) (by rw [hx, lead_neg]; omega)]
      have : e.K + d.K < 0 := by omega
      simpa using this
theorem tight_iff (t : CD) : t ∈ tightD (gesD p) ↔ TightP (gesD p) t := by
  constructor
  · intro h
    obtain ⟨hq, c, hc, hk, hx, hK⟩ := tight_elim h
    obtain ⟨e, he, hex, h0⟩ := slack_elim hk
    have hne := (ges_e hm hs hn c hc).1.lead (ges_e hm hs hn c hc).2
    have hl : ¬ leadI c.xs < 0 := fun hl => by rw [slack_neg hl] at hk; cases hk
    have hnt := (tight_norm (ges_norm (p_norm hm hs hn)) t h).1
    refine ⟨c, hc, ⟨e, he, hex, by omega⟩, by omega, ?_⟩
    have hM := hnt.M (by omega)
    obtain ⟨q, M, xs, K⟩ := t
    simp only at hq hx hK hM
    rw [hq, hx, hK, hM]
  · rintro ⟨d, hd, ⟨e, he, hx, h0⟩, hl, rfl⟩
    refine tight_intro hd ?_
    rw [slack_iff hm hs hn hd he hx hl, h0]
theorem eqp_iff (t : CD) : t ∈ eqsD p ↔ EqP outs (gesD p) t := by
  have h1 : t ∈ eqsD p ↔ t ∈ eqsIn p := equal_mem (eqs_sorted hs (p_norm hm hs hn)) (fun d hd => (eqs_norm (p_norm hm hs hn) d hd).1) t
  rw [h1, eqs_mem, tight_iff hm hs hn, (kind_q hm hs hn).1, hm]
  rfl
theorem clash_iff : clashD (eqsD p) = true ↔ VB (EqP outs (gesD p)) := by
  have hN := p_norm hm hs hn
  constructor
  · intro h
    unfold clashD at h
    obtain ⟨i, hi, h⟩ := List.any_eq_true.1 h
    rw [List.mem_range] at hi
    have h1 : i < (eqsD p).length := by omega
    have h2 : i + 1 < (eqsD p).length := by omega
    rw [List.getElem?_eq_getElem h1, List.getElem?_eq_getElem h2] at h
    have hx : (eqsD p)[i].xs = (eqsD p)[i + 1].xs := by simpa [slopeD] using h
    refine ⟨_, _, (eqp_iff hm hs hn _).1 (List.getElem_mem h1), (eqp_iff hm hs hn _).1 (List.getElem_mem h2), hx, fun hK => ?_⟩
    have na := eqs_norm hN _ (comp_mem (l := eqsIn p) (List.getElem_mem h1))
    have nb := eqs_norm hN _ (comp_mem (l := eqsIn p) (List.getElem_mem h2))
    have e := norm_nd na.1 nb.1 (by rw [na.2, nb.2]) (by rw [na.2]; decide) hx hK
    have := List.pairwise_iff_getElem.1 (eqs_strict hs hN) i (i + 1) h1 h2 (by omega)
    rw [e, (lex_zero _ _ rfl).2 rfl] at this
    omega
  · rintro ⟨a, b, ha, hb, hx, hK⟩
    cases hc : clashD (eqsD p)
    · have hsl := eqs_slopes hs hN hc
      obtain ⟨i, hi, e1⟩ := List.getElem_of_mem ((eqp_iff hm hs hn a).2 ha)
      obtain ⟨j, hj, e2⟩ := List.getElem_of_mem ((eqp_iff hm hs hn b).2 hb)
      have := slope_one hsl (by rw [List.getElem?_eq_getElem hi, e1]) (by rw [List.getElem?_eq_getElem hj, e2]) hx
      subst this
      rw [e1] at e2
      exact absurd (by rw [e2]) hK
    · rfl
theorem imp_meet (hc : clashD (eqsD p) = false) {c e : CD} : impD (eqsD p) c = some e ↔ MeetP (EqP outs (gesD p)) c e := by
  unfold impD MeetP
  constructor
  · intro h
    obtain ⟨ht, j, hj⟩ := find_elim h
    exact ⟨(eqp_iff hm hs hn e).1 (List.mem_of_getElem? hj), ht⟩
  · rintro ⟨he, hx⟩
    obtain ⟨j, hj, e1⟩ := List.getElem_of_mem ((eqp_iff hm hs hn e).2 he)
    exact find_some (eqs_slopes hs (p_norm hm hs hn) hc) (k := j) (by rw [List.getElem?_eq_getElem hj, e1]) hx
theorem rest_iff (d : CD) : d ∈ restD (gesD p) ↔ d ∈ gesD p ∧ ¬ GoneP (gesD p) d := by
  unfold restD
  rw [List.mem_filter, ← gone_iff hm hs hn]
  simp
theorem imp_iff (hc : clashD (eqsD p) = false) : impVoid (eqsD p) (restD (gesD p)) = true ↔ VC (EqP outs (gesD p)) (gesD p) := by
  unfold impVoid VC
  rw [List.any_eq_true]
  constructor
  · rintro ⟨c, hcm, h⟩
    cases hk : impD (eqsD p) c with
    | none => rw [hk] at h; cases h
    | some e =>
      rw [hk] at h
      have hr := (rest_iff hm hs hn c).1 hcm
      exact ⟨c, hr.1, hr.2, e, (imp_meet hm hs hn hc).1 hk, by simpa using h⟩
  · rintro ⟨c, hcm, hg, e, he, h⟩
    refine ⟨c, (rest_iff hm hs hn c).2 ⟨hcm, hg⟩, ?_⟩
    rw [(imp_meet hm hs hn hc).2 he]
    simpa using h
/-- The piece is void. -/
theorem settle_none : settleD p = none ↔ VoidP outs (gesD p) := by
  unfold settleD VoidP
  constructor
  · intro h
    split at h
    · rename_i h1; exact .inl ((pair_iff hm hs hn).1 h1)
    · split at h
      · rename_i h1; exact .inr (.inl ((clash_iff hm hs hn).1 h1))
      · split at h
        · rename_i h0 h1; exact .inr (.inr ((imp_iff hm hs hn (by simpa using h0)).1 h1))
        · cases h
  · intro h
    split
    · rfl
    · rename_i h1
      split
      · rfl
      · rename_i h2
        have h2' : clashD (eqsD p) = false := by simpa using h2
        split
        · rfl
        · rename_i h3
          rcases h with h | h | h
          · exact absurd ((pair_iff hm hs hn).2 h) h1
          · exact absurd ((clash_iff hm hs hn).2 h) h2
          · exact absurd ((imp_iff hm hs hn h2').2 h) h3
theorem key_rank {a b : CD} (h : rankI a.q < rankI b.q) : ordL (keyD a) (keyD b) < 0 := by
  unfold keyD
  simp only [ordL]
  rw [if_pos h]
  decide
theorem dv_strict : (comp equalD (kindDv p)).Pairwise (fun a b => ordL (keyD a) (keyD b) < 0) := by
  have hN := dv_norm hs (p_norm hm hs hn)
  have hS := dv_sorted hs (p_norm hm hs hn)
  have key := comp_strict (fun d : { d : CD // d.xs.length = n } => keyD d.1) (fun a b => equalD a.1 b.1) (n := n + 3) (fun a b => equal_iff a.2 b.2) ((kindDv p).attachWith _ fun d hd => (hN d hd).len) (fun a _ => by rw [key_len, a.2]) (by
    have hsl' : (kindDv p).Pairwise (fun a b => ordL (keyD a) (keyD b) ≤ 0) := hS
    rw [List.pairwise_iff_getElem] at hsl' ⊢
    intro i j hi hj hij
    simpa using hsl' i j (by simpa using hi) (by simpa using hj) hij)
  have hm' := comp_map (fun a b : { d : CD // d.xs.length = n } => equalD a.1 b.1) (fun a => a.1) equalD (fun _ _ => rfl) ((kindDv p).attachWith _ fun d hd => (hN d hd).len)
  have hv : ((kindDv p).attachWith _ fun d hd => (hN d hd).len).map (fun a : { d : CD // d.xs.length = n } => a.1) = kindDv p := by simp
  rw [hv] at hm'
  rw [← hm', List.pairwise_map]
  exact key
theorem ges_strict : (gesD p).Pairwise (fun a b => ordL (keyD a) (keyD b) < 0) := by
  have hN := p_norm hm hs hn
  have h1 := comp_strict (fun d : CD => d.xs) slopeD (n := n) (fun a b => by simp [slopeD]) (kindGe p) (fun d hd => (hN d ((kind_ge_sub p).subset hd)).len) (by
    refine List.Pairwise.imp_of_mem (fun {a b} ha hb h => ?_) (hs.sublist (kind_ge_sub p))
    have na := hN a ((kind_ge_sub p).subset ha)
    have nb := hN b ((kind_ge_sub p).subset hb)
    have qa := kind_ge_q a ha
    have qb := kind_ge_q b hb
    exact ord_le_xs (by rw [qa, qb]) (by rw [na.M (by omega), nb.M (by omega)]) (by rw [na.len, nb.len]) h)
  refine List.Pairwise.imp_of_mem (fun {a b} ha hb h => ?_) h1
  have ea := ges_e hm hs hn a ha
  have eb := ges_e hm hs hn b hb
  rw [ord_xs (by rw [ea.2, eb.2]) (by rw [ea.1.nd.M (by omega), eb.1.nd.M (by omega)]) (by rw [ea.1.nd.len, eb.1.nd.len])]
  split
  · omega
  · exact h
/-- What is left is sorted, and what it holds. -/
theorem settle_some {r : List CD} (h : settleD p = some r) : (∀ d, d ∈ r ↔ OutP outs (gesD p) d) ∧ r.Pairwise (fun a b => ordL (keyD a) (keyD b) < 0) ∧ ∀ d ∈ r, NormD n d := by
  have hN := p_norm hm hs hn
  have hnorm := settle_norm hN h
  unfold settleD at h
  split at h
  · cases h
  · split at h
    · cases h
    · rename_i hcl
      have hcl : clashD (eqsD p) = false := by simpa using hcl
      split at h
      · cases h
      · have hr : r = eqsD p ++ impRest (eqsD p) (restD (gesD p)) ++ comp equalD (kindDv p) := by
          simpa using h.symm
        subst hr
        have himp : ∀ d, d ∈ impRest (eqsD p) (restD (gesD p)) ↔ RestP (EqP outs (gesD p)) (gesD p) d := fun d => by
          unfold impRest RestP
          split
          · rename_i he
            have he : eqsD p = [] := by simpa using he
            rw [rest_iff hm hs hn]
            refine ⟨fun h => ⟨h.1, h.2, fun ⟨e, hE⟩ => ?_⟩, fun h => ⟨h.1, h.2.1⟩⟩
            have := (eqp_iff hm hs hn e).2 hE.1
            rw [he] at this
            cases this
          · rw [List.mem_filter, rest_iff hm hs hn, and_assoc]
            refine and_congr_right fun _ => and_congr_right fun _ => ?_
            cases hk : impD (eqsD p) d with
            | none =>
              constructor
              · rintro _ ⟨e, hE⟩
                rw [(imp_meet hm hs hn hcl).2 hE] at hk
                cases hk
              · exact fun _ => rfl
            | some e =>
              constructor
              · intro h; cases h
              · exact fun h => absurd ⟨e, (imp_meet hm hs hn hcl).1 hk⟩ h
        have himpsub : (impRest (eqsD p) (restD (gesD p))).Sublist (gesD p) := by
          unfold impRest
          split
          · exact List.filter_sublist
          · exact List.filter_sublist.trans List.filter_sublist
        refine ⟨fun d => ?_, ?_, hnorm⟩
        · unfold OutP
          rw [List.mem_append, List.mem_append, eqp_iff hm hs hn, himp, equal_mem (dv_sorted hs hN) (dv_norm hs hN), (kind_q hm hs hn).2.2, hm, or_assoc]
        · have q1 : ∀ d ∈ eqsD p, d.q = 1 := fun d hd => (eqs_norm hN d (comp_mem (l := eqsIn p) hd)).2
          have q0 : ∀ d ∈ impRest (eqsD p) (restD (gesD p)), d.q = 0 := fun d hd => (ges_e hm hs hn d (himpsub.subset hd)).2
          have q2 : ∀ d ∈ comp equalD (kindDv p), d.q = 2 := fun d hd => (((kind_q hm hs hn).2.2 d).1 (comp_mem hd)).2
          refine List.pairwise_append.2 ⟨List.pairwise_append.2 ⟨eqs_strict hs hN, (ges_strict hm hs hn).sublist himpsub, fun a ha b hb => ?_⟩, dv_strict hm hs hn, fun a ha b hb => ?_⟩
          · refine key_rank hm hs hn ?_
            rw [q1 a ha, q0 b hb]; decide
          · refine key_rank hm hs hn ?_
            rcases List.mem_append.1 ha with ha | ha
            · rw [q1 a ha, q2 b hb]; decide
            · rw [q0 a ha, q2 b hb]; decide
end

/-- Piece, by some list of the least constants: void. -/
theorem piece_ref_void {n : Nat} {ds L : List CD} (hk : ∀ d ∈ ds, KindOk d.q d.M ∧ d.xs.length = n) (hN : ∀ z ∈ normOut n ds, NormD n z) (hv : normVoid n ds = false) (hL : LeastOf (normOut n ds) L) (hV : VoidP (normOut n ds) L) : pieceD n ds = ([], true, 0) := by
  have hm : ∀ d, d ∈ sortD (normOut n ds) ↔ d ∈ normOut n ds := fun d => (sortL_perm leD (normOut n ds)).mem_iff (a := d)
  have hE : ∀ d ∈ sortD (normOut n ds), NormE n d := fun d hd => by
    have h1 := (hm d).1 hd
    obtain ⟨z, hz, h2⟩ := List.mem_flatMap.1 h1
    exact open_norm (hk z hz).1 (hk z hz).2 h2 (hN d h1)
  have hs : Sorted (sortD (normOut n ds)) := sorted_sort fun d hd => (hN d hd).len
  have hmm := least_mem hN hL (ges_least hm hs hE)
  have := (settle_none hm hs hE).2 ((void_mem hmm).1.1 hV)
  unfold pieceD
  rw [if_neg (by simp [hv]), this]
/-- Piece, by some list of the least constants: what is left. -/
theorem piece_ref_some {n : Nat} {ds L R : List CD} (hk : ∀ d ∈ ds, KindOk d.q d.M ∧ d.xs.length = n) (hN : ∀ z ∈ normOut n ds, NormD n z) (hv : normVoid n ds = false) (hL : LeastOf (normOut n ds) L) (hV : ¬ VoidP (normOut n ds) L) (hR : ∀ d, d ∈ R ↔ OutP (normOut n ds) L d) (hS : R.Pairwise (fun a b => ordL (keyD a) (keyD b) < 0)) :
    pieceD n ds = if normFits n ds = false ∨ 96 < R.length then ([], false, 3) else (R, false, 0) := by
  have hm : ∀ d, d ∈ sortD (normOut n ds) ↔ d ∈ normOut n ds := fun d => (sortL_perm leD (normOut n ds)).mem_iff (a := d)
  have hE : ∀ d ∈ sortD (normOut n ds), NormE n d := fun d hd => by
    have h1 := (hm d).1 hd
    obtain ⟨z, hz, h2⟩ := List.mem_flatMap.1 h1
    exact open_norm (hk z hz).1 (hk z hz).2 h2 (hN d h1)
  have hs : Sorted (sortD (normOut n ds)) := sorted_sort fun d hd => (hN d hd).len
  have hmm := least_mem hN hL (ges_least hm hs hE)
  unfold pieceD
  rw [if_neg (by simp [hv])]
  cases hst : settleD (sortD (normOut n ds)) with
  | none => exact absurd ((void_mem hmm).1.2 ((settle_none hm hs hE).1 hst)) hV
  | some r =>
    obtain ⟨h1, h2, h3⟩ := settle_some hm hs hE hst
    have hmem : ∀ d, d ∈ R ↔ d ∈ r := fun d => by rw [hR, h1]; exact (void_mem hmm).2 d
    have : R = r := strict_eq R r (fun d hd => h3 d ((hmem d).1 hd)) h3 hS h2 hmem
    subst this
    rfl
end Go.Proofs.YtkgnlloioaobiaaGreat

/-
  The reference's sides: whether two conditions have the same or the opposite coefficients.
-/
namespace Go.Proofs.YtkgnlloioaobiaaGreat
open Go.RowKit Go.Lib Go.Sort
set_option linter.unusedVariables false
set_option linter.unusedSimpArgs false
set_option maxRecDepth 100000

def sidesI (xs ys : List Int) : Int := if xs = ys then 1 else if xs = sgnL (-1) ys then -1 else 0
theorem sgn_neg (ys : List Int) (j : Nat) : (sgnL (-1) ys)[j]?.getD 0 = -(ys[j]?.getD 0) := by
  unfold sgnL
  rw [List.getElem?_map]
  cases ys[j]? <;> simp

set_option maxHeartbeats 4000000 in
theorem ref_sides (q M : Int) (A : Option Addr) (n c : Nat) (K : Int) (xs : List Int) (q' M' : Int) (A' : Option Addr) (c' : Nat) (L : Int) (ys : List Int) (w : World) (hI : IntsAt w A n xs) (hI' : IntsAt w A' n ys) (hy : ∀ y ∈ ys, -4611686018427387904 ≤ y ∧ y ≤ 4611686018427387904) :
    Calls Tryz.prog 82 #[condV q M A n c K, condV q' M' A' n c' L] w fun e w' => e = .returned (.int .i64 (sidesI xs ys)) ∧ ∃ q os', w' = grow (w.drewN q) os' := by
  have b1 := below_alloc w (.cells #[.int .i64 q, .int .i64 M, .slice A n c, .int .i64 K] 56)
  have hB := below_step b1 (below_alloc _ (.cells #[.int .i64 q', .int .i64 M', .slice A' n c', .int .i64 L] 56))
  have h1 := hI.step hB
  have h2 := hI'.step hB
  have B1 := (CBox.new w q M A n c K).alloc (.cells #[.int .i64 q', .int .i64 M', .slice A' n c', .int .i64 L] 56)
  have B2 := CBox.new (w.alloc (.cells #[.int .i64 q, .int .i64 M, .slice A n c, .int .i64 K] 56)) q' M' A' n c' L
  rw [World.size_alloc] at B2
  have c2 := B1.c2
  have d2 := B2.c2
  have HL := Lib.hid hI.len
  have HL' := Lib.hid hI'.len
  have HY := Lib.hid hy
  have hsm := hI.small
  have HEND := Lib.hid (fun m => slope_end w (.cells #[.int .i64 q, .int .i64 M, .slice A n c, .int .i64 K] 56) (.cells #[.int .i64 q', .int .i64 M', .slice A' n c', .int .i64 L] 56) m)
  obtain ⟨r, hr⟩ : ∃ r, sidesI xs ys = r := ⟨_, rfl⟩
  rw [hr]
  have HR := Lib.hid hr
  clear hI hI' b1 hB hy hr
  go_enter Tryz.func82, Tryz.ntmps82
  go_wp2
  generalize (w.alloc (.cells #[.int .i64 q, .int .i64 M, .slice A n c, .int .i64 K] 56)).alloc (.cells #[.int .i64 q', .int .i64 M', .slice A' n c', .int .i64 L] 56) = w2 at *
  go_loopw [5, 6, 12] (fun a b v wr => ∃ (i : Nat) (s o : Bool), i ≤ n ∧ v = .int .i64 i ∧ a = .bool s ∧ b = .bool o ∧ Hid (s = true ↔ ∀ j, j < i → xs[j]?.getD 0 = ys[j]?.getD 0) ∧ Hid (o = true ↔ ∀ j, j < i → xs[j]?.getD 0 = -(ys[j]?.getD 0)) ∧ ∃ q, wr = w2.drewN q) (fun _ _ v _ => n - (intOf v).toNat)
  case atStart => exact ⟨0, true, true, Nat.zero_le _, rfl, rfl, rfl, Lib.hid ⟨fun _ j h => absurd h (by omega), fun _ => rfl⟩, Lib.hid ⟨fun _ j h => absurd h (by omega), fun _ => rfl⟩, 0, rfl⟩
  case round =>
    obtain ⟨i, s, o, hi, rfl, rfl, rfl, HS, HO, q, rfl⟩ := hrel
    by_cases hlt : i < n
    · obtain ⟨b, off, rfl, hb, hc⟩ := h1.cells (by omega)
      obtain ⟨b', off', rfl, hb', hc'⟩ := h2.cells (by omega)
      have hcell := hc i hlt
      have hcell' := hc' i hlt
      have hq1 : (i : Int) < n := by omega
      have HXY := Lib.hid (And.intro (rfl : xs[i]?.getD 0 = xs[i]?.getD 0) (show -4611686018427387904 ≤ ys[i]?.getD 0 ∧ ys[i]?.getD 0 ≤ 4611686018427387904 by
        have hl : i < ys.length := by rw [HL'.out]; exact hlt
        rw [List.getElem?_eq_getElem hl]
        exact HY.out _ (List.getElem_mem hl)))
      obtain ⟨x, hx⟩ : ∃ x, xs[i]?.getD 0 = x := ⟨_, rfl⟩
      obtain ⟨y, hyy⟩ : ∃ y, ys[i]?.getD 0 = y := ⟨_, rfl⟩
      rw [hx] at hcell
      rw [hyy] at hcell'
      have hyb := HXY.out.2
      rw [hyy] at hyb
      have HX := Lib.hid hx
      have HYY := Lib.hid hyy
      have hneg : IntKind.i64.wrap (-y) = -y := IntWalk.i64_in _ (by omega)
      clear hc hc' hx hyy
      cases s
      · cases o
        · go_wp2
          go_quiet (fail)
          go_wp2
          go_quiet (fail)
          go_wp2
          go_roundw
          case rel => exact ⟨i + 1, false, false, by omega, by go_num, rfl, rfl, Lib.hid ⟨fun h => (by cases h), fun h => (by rw [HS.out]; exact fun j hj => h j (by omega))⟩, Lib.hid ⟨fun h => (by cases h), fun h => (by rw [HO.out]; exact fun j hj => h j (by omega))⟩, _, by first | rfl | exact drew2 _ _ _⟩
          case measure => simp [intOf]; omega
        · by_cases hen : x = -y
          · have HEN := Lib.hid hen
            have p1 : (x == -y) = true := by simpa using hen
            clear hen
            go_wp2
            go_quiet (fail)
            go_wp2
            go_quiet (fail)
            go_wp2
            go_roundw
            case rel => exact ⟨i + 1, false, true, by omega, by go_num, rfl, rfl, Lib.hid ⟨fun h => (by cases h), fun h => (by rw [HS.out]; exact fun j hj => h j (by omega))⟩, Lib.hid ⟨fun _ j hj => (by
                 rcases Nat.lt_or_eq_of_le (Nat.le_of_lt_succ hj) with h | rfl
                 · exact HO.out.1 (by simp) j h
                 · rw [HX.out, HYY.out]; exact HEN.out), fun _ => rfl⟩, _, by first | rfl | exact drew2 _ _ _⟩
            case measure => simp [intOf]; omega
          · have HEN := Lib.hid hen
            have p1 : (x == -y) = false := by simpa using hen
            clear hen
            go_wp2
            go_quiet (fail)
            go_wp2
            go_quiet (fail)
            go_wp2
            go_roundw
            case rel => exact ⟨i + 1, false, false, by omega, by go_num, rfl, rfl, Lib.hid ⟨fun h => (by cases h), fun h => (by rw [HS.out]; exact fun j hj => h j (by omega))⟩, Lib.hid ⟨fun h => (by cases h), fun h => absurd (by have := h i (by omega); rw [HX.out, HYY.out] at this; exact this) HEN.out⟩, _, by first | rfl | exact drew2 _ _ _⟩
            case measure => simp [intOf]; omega
      · by_cases heq : x = y
        · have HEQ := Lib.hid heq
          have q1 : (x == y) = true := by simpa using heq
          clear heq
          cases o
          · go_wp2
            go_quiet (fail)
            go_wp2
            go_quiet (fail)
            go_wp2
            go_roundw
            case rel => exact ⟨i + 1, true, false, by omega, by go_num, rfl, rfl, Lib.hid ⟨fun _ j hj => (by
                 rcases Nat.lt_or_eq_of_le (Nat.le_of_lt_succ hj) with h | rfl
                 · exact HS.out.1 (by simp) j h
                 · rw [HX.out, HYY.out]; exact HEQ.out), fun _ => rfl⟩, Lib.hid ⟨fun h => (by cases h), fun h => (by rw [HO.out]; exact fun j hj => h j (by omega))⟩, _, by first | rfl | exact drew2 _ _ _⟩
            case measure => simp [intOf]; omega
          · by_cases hen : x = -y
            · have HEN := Lib.hid hen
              have p1 : (x == -y) = true := by simpa using hen
              clear hen
              go_wp2
              go_quiet (fail)
              go_wp2
              go_quiet (fail)
              go_wp2
              go_roundw
              case rel => exact ⟨i + 1, true, true, by omega, by go_num, rfl, rfl, Lib.hid ⟨fun _ j hj => (by
                   rcases Nat.lt_or_eq_of_le (Nat.le_of_lt_succ hj) with h | rfl
                   · exact HS.out.1 (by simp) j h
                   · rw [HX.out, HYY.out]; exact HEQ.out), fun _ => rfl⟩, Lib.hid ⟨fun _ j hj => (by
                   rcases Nat.lt_or_eq_of_le (Nat.le_of_lt_succ hj) with h | rfl
                   · exact HO.out.1 (by simp) j h
                   · rw [HX.out, HYY.out]; exact HEN.out), fun _ => rfl⟩, _, by first | rfl | exact drew2 _ _ _⟩
              case measure => simp [intOf]; omega
            · have HEN := Lib.hid hen
              have p1 : (x == -y) = false := by simpa using hen
              clear hen
              go_wp2
              go_quiet (fail)
              go_wp2
              go_quiet (fail)
              go_wp2
              go_roundw
              case rel => exact ⟨i + 1, true, false, by omega, by go_num, rfl, rfl, Lib.hid ⟨fun _ j hj => (by
                   rcases Nat.lt_or_eq_of_le (Nat.le_of_lt_succ hj) with h | rfl
                   · exact HS.out.1 (by simp) j h
                   · rw [HX.out, HYY.out]; exact HEQ.out), fun _ => rfl⟩, Lib.hid ⟨fun h => (by cases h), fun h => absurd (by have := h i (by omega); rw [HX.out, HYY.out] at this; exact this) HEN.out⟩, _, by first | rfl | exact drew2 _ _ _⟩
              case measure => simp [intOf]; omega
        · have HEQ := Lib.hid heq
          have q1 : (x == y) = false := by simpa using heq
          clear heq
          cases o
          · go_wp2
            go_quiet (fail)
            go_wp2
            go_quiet (fail)
            go_wp2
            go_roundw
            case rel => exact ⟨i + 1, false, false, by omega, by go_num, rfl, rfl, Lib.hid ⟨fun h => (by cases h), fun h => absurd (by have := h i (by omega); rw [HX.out, HYY.out] at this; exact this) HEQ.out⟩, Lib.hid ⟨fun h => (by cases h), fun h => (by rw [HO.out]; exact fun j hj => h j (by omega))⟩, _, by first | rfl | exact drew2 _ _ _⟩
            case measure => simp [intOf]; omega
          · by_cases hen : x = -y
            · have HEN := Lib.hid hen
              have p1 : (x == -y) = true := by simpa using hen
              clear hen
              go_wp2
              go_quiet (fail)
              go_wp2
              go_quiet (fail)
              go_wp2
              go_roundw
              case rel => exact ⟨i + 1, false, true, by omega, by go_num, rfl, rfl, Lib.hid ⟨fun h => (by cases h), fun h => absurd (by have := h i (by omega); rw [HX.out, HYY.out] at this; exact this) HEQ.out⟩, Lib.hid ⟨fun _ j hj => (by
                   rcases Nat.lt_or_eq_of_le (Nat.le_of_lt_succ hj) with h | rfl
                   · exact HO.out.1 (by simp) j h
                   · rw [HX.out, HYY.out]; exact HEN.out), fun _ => rfl⟩, _, by first | rfl | exact drew2 _ _ _⟩
              case measure => simp [intOf]; omega
            · have HEN := Lib.hid hen
              have p1 : (x == -y) = false := by simpa using hen
              clear hen
              go_wp2
              go_quiet (fail)
              go_wp2
              go_quiet (fail)
              go_wp2
              go_roundw
              case rel => exact ⟨i + 1, false, false, by omega, by go_num, rfl, rfl, Lib.hid ⟨fun h => (by cases h), fun h => absurd (by have := h i (by omega); rw [HX.out, HYY.out] at this; exact this) HEQ.out⟩, Lib.hid ⟨fun h => (by cases h), fun h => absurd (by have := h i (by omega); rw [HX.out, HYY.out] at this; exact this) HEN.out⟩, _, by first | rfl | exact drew2 _ _ _⟩
              case measure => simp [intOf]; omega
    · have hge : ¬ ((i : Int) < n) := by omega
      have hin : i = n := by omega
      have HIN := Lib.hid hin
      clear hin
      have HQ := Lib.hid (show (s = true ↔ xs = ys) ∧ (o = true ↔ xs = sgnL (-1) ys) by
        refine ⟨HS.out.trans ⟨fun h => list_at HL.out HL'.out fun j hj => h j (by have := HIN.out; omega), fun h j _ => by rw [h]⟩, HO.out.trans ⟨fun h => list_at HL.out (by simp [sgnL, HL'.out]) fun j hj => ?_, fun h j _ => ?_⟩⟩
        · rw [sgn_neg]; exact h j (by have := HIN.out; omega)
        · rw [h, sgn_neg])
      cases s
      · cases o
        · have HF := Lib.hid (show r = 0 by
            rw [← HR.out]; unfold sidesI
            rw [if_neg (fun h => by have := HQ.out.1.2 h; cases this), if_neg (fun h => by have := HQ.out.2.2 h; cases this)])
          go_wp2
          go_ret
          exact ⟨ret1 (vint HF.out.symm), HEND.out _⟩
        · have HF := Lib.hid (show r = -1 by
            rw [← HR.out]; unfold sidesI
            rw [if_neg (fun h => by have := HQ.out.1.2 h; cases this), if_pos (HQ.out.2.1 (by simp))])
          go_wp2
          go_ret
          exact ⟨ret1 (vint HF.out.symm), HEND.out _⟩
      · have HF := Lib.hid (show r = 1 by
          rw [← HR.out]; unfold sidesI
          rw [if_pos (HQ.out.1.1 (by simp))])
        go_wp2
        go_ret
        exact ⟨ret1 (vint HF.out.symm), HEND.out _⟩
end Go.Proofs.YtkgnlloioaobiaaGreat

/-
  The sorted list without repetition, as the reference inserts it.
-/
namespace Go.Proofs.YtkgnlloioaobiaaGreat
open Go.RowKit
set_option linter.unusedVariables false
set_option linter.unusedSimpArgs false

def insS (c : CD) : List CD → List CD
  | [] => [c]
  | a :: l => if ordD a c < 0 then a :: insS c l else if a = c then a :: l else c :: a :: l
def sortS (l : List CD) : List CD := l.foldl (fun acc c => insS c acc) []
abbrev Strict (l : List CD) : Prop := l.Pairwise fun a b => ordL (keyD a) (keyD b) < 0
theorem insS_mem (c d : CD) : ∀ l : List CD, d ∈ insS c l ↔ d = c ∨ d ∈ l
  | [] => by simp [insS]
  | a :: l => by
    have ih := insS_mem c d l
    unfold insS
    split
    · rw [List.mem_cons, ih, List.mem_cons]
      constructor
      · rintro (h | h | h)
        · exact .inr (.inl h)
        · exact .inl h
        · exact .inr (.inr h)
      · rintro (h | h | h)
        · exact .inr (.inl h)
        · exact .inl h
        · exact .inr (.inr h)
    · split
      · rename_i h
        subst h
        rw [List.mem_cons]
        constructor
        · exact .inr
        · rintro (h | h)
          · exact .inl h
          · exact h
      · rw [List.mem_cons]
theorem lt_le {x y z : List Int} (h1 : x.length = y.length) (h2 : y.length = z.length) (h : ordL x y < 0) (h' : ordL y z ≤ 0) : ordL x z < 0 := by
  have h3 := lex_le x y z h1 h2 (by omega) h'
  rcases Int.lt_or_eq_of_le h3 with h4 | h4
  · exact h4
  · have e := (lex_zero x z (h1.trans h2)).1 h4
    rw [← e, lex_swap] at h'
    omega
theorem le_lt {x y z : List Int} (h1 : x.length = y.length) (h2 : y.length = z.length) (h : ordL x y ≤ 0) (h' : ordL y z < 0) : ordL x z < 0 := by
  have h3 := lex_le x y z h1 h2 h (by omega)
  rcases Int.lt_or_eq_of_le h3 with h4 | h4
  · exact h4
  · have e := (lex_zero x z (h1.trans h2)).1 h4
    rw [← e, lex_swap] at h'
    omega
theorem insS_strict {n : Nat} {c : CD} (hc : NormD n c) : ∀ l : List CD, (∀ d ∈ l, NormD n d) → Strict l → Strict (insS c l)
  | [], _, _ => by simp [insS, Strict]
  | a :: l, hn, hs => by
    have hp := List.pairwise_cons.1 hs
    have na := hn a (List.mem_cons_self ..)
    have hl := fun d hd => hn d (List.mem_cons_of_mem _ hd)
    have ih := insS_strict hc l hl hp.2
    have hk : ∀ d, NormD n d → (keyD d).length = n + 3 := fun d hd => by rw [key_len, hd.len]
    unfold insS
    rw [ordD_key (by rw [na.len, hc.len])]
    split
    · rename_i hlt
      refine List.pairwise_cons.2 ⟨fun d hd => ?_, ih⟩
      rcases (insS_mem c d l).1 hd with rfl | hd
      · exact hlt
      · exact hp.1 d hd
    · split
      · exact hs
      · rename_i hge hne
        have hca : ordL (keyD c) (keyD a) < 0 := by
          rw [lex_swap]
          have h0 : ordL (keyD a) (keyD c) ≠ 0 := fun h0 => hne (key_inj na.q hc.q ((lex_zero _ _ (by rw [hk a na, hk c hc])).1 h0))
          omega
        refine List.pairwise_cons.2 ⟨fun d hd => ?_, hs⟩
        rcases List.mem_cons.1 hd with rfl | hd
        · exact hca
        · have h1 := hp.1 d hd
          exact lt_le (by rw [hk c hc, hk a na]) (by rw [hk a na, hk d (hl d hd)]) hca (by omega)
theorem sortS_good {n : Nat} (l : List CD) (hn : ∀ d ∈ l, NormD n d) : Strict (sortS l) ∧ (∀ d, d ∈ sortS l ↔ d ∈ l) := by
  have key : ∀ (l acc : List CD), (∀ d ∈ l, NormD n d) → (∀ d ∈ acc, NormD n d) → Strict acc → Strict (l.foldl (fun acc c => insS c acc) acc) ∧ ∀ d, d ∈ l.foldl (fun acc c => insS c acc) acc ↔ d ∈ l ∨ d ∈ acc := by
    intro l
    induction l with
    | nil => intro acc _ _ hs; exact ⟨hs, fun d => by simp⟩
    | cons c l ih =>
      intro acc hl ha hs
      have hc := hl c (List.mem_cons_self ..)
      obtain ⟨h1, h2⟩ := ih (insS c acc) (fun d hd => hl d (List.mem_cons_of_mem _ hd)) (fun d hd => by
        rcases (insS_mem c d acc).1 hd with rfl | hd
        · exact hc
        · exact ha d hd) (insS_strict hc acc ha hs)
      refine ⟨h1, fun d => ?_⟩
      rw [List.foldl_cons, h2, insS_mem, List.mem_cons]
      constructor
      · rintro (h | h | h)
        · exact .inl (.inr h)
        · exact .inl (.inl h)
        · exact .inr h
      · rintro ((h | h) | h)
        · exact .inr (.inl h)
        · exact .inl h
        · exact .inr (.inr h)
  obtain ⟨h1, h2⟩ := key l [] hn (fun d hd => nomatch hd) List.Pairwise.nil
  exact ⟨h1, fun d => by unfold sortS; rw [h2]; simp⟩
theorem insS_at {c : CD} : ∀ (l : List CD) (i : Nat), (∀ (j : Nat) (a : CD), j < i → l[j]? = some a → ordD a c < 0) → i ≤ l.length → insS c l = l.take i ++ insS c (l.drop i)
  | l, 0, _, _ => by simp
  | [], i + 1, _, hi => by simp at hi
  | a :: l, i + 1, h, hi => by
    have h0 := h 0 a (by omega) rfl
    have ih := insS_at l i (fun j b hj hb => h (j + 1) b (by omega) (by simpa using hb)) (by simpa using hi)
    rw [List.take_succ_cons, List.drop_succ_cons, List.cons_append, ← ih]
    show (if ordD a c < 0 then a :: insS c l else _) = _
    rw [if_pos h0]
theorem insS_end {c : CD} {l : List CD} (h : ∀ (j : Nat) (a : CD), j < l.length → l[j]? = some a → ordD a c < 0) : insS c l = l ++ [c] := by
  rw [insS_at l l.length h (Nat.le_refl _)]
  simp [insS]
theorem insS_mid {c a : CD} {l : List CD} {i : Nat} (h : ∀ (j : Nat) (b : CD), j < i → l[j]? = some b → ordD b c < 0) (ha : l[i]? = some a) (h0 : ¬ ordD a c < 0) : insS c l = if a = c then l else l.take i ++ c :: l.drop i := by
  obtain ⟨hi, e⟩ := List.getElem?_eq_some_iff.1 ha
  rw [insS_at l i h (by omega)]
  have hd : l.drop i = a :: l.drop (i + 1) := by rw [← e]; exact List.drop_eq_getElem_cons hi
  rw [hd]
  show l.take i ++ (if ordD a c < 0 then _ else if a = c then a :: l.drop (i + 1) else c :: a :: l.drop (i + 1)) = _
  rw [if_neg h0]
  split
  · rw [← hd, List.take_append_drop]
  · rfl
theorem sortS_snoc {l : List CD} {i : Nat} {c : CD} (h : l[i]? = some c) : sortS (l.take (i + 1)) = insS c (sortS (l.take i)) := by
  unfold sortS
  rw [List.take_add_one, h, List.foldl_append]
  rfl
end Go.Proofs.YtkgnlloioaobiaaGreat
