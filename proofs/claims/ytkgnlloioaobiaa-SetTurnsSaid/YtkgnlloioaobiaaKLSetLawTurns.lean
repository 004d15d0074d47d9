/-
  For all sets s, numbers i and k and orders of the law's bounds, SetTurns returns true and leaves memory as it was. No condition.
-/
import Derived.Test.YtkgnlloioaobiaaRows
import Derived.Test.YtkgnlloioaobiaaKe
set_option linter.unusedVariables false
set_option linter.unusedSimpArgs false
namespace Go.Proofs.Ytkgnlloioaobiaa.setTurns
open Go.ChangeShapes Go.WideShapes Go.ChangeAt Go.RowKit


set_option maxRecDepth 100000 in
set_option maxHeartbeats 8000000 in
theorem walk (w : World) (D : Int) (A : Option Addr) (n c : Nat) (ps : List PEl) (h : PiecesAt w A n ps) (hc : (A = none → c = 0) ∧ ∀ p ∈ ps, PieceC p) (_ : -9223372036854775808 ≤ D ∧ D ≤ 9223372036854775807) (i : Int) (_ : -9223372036854775808 ≤ i) (_ : i ≤ 9223372036854775807) (k : Int) (hk1 : -9223372036854775808 ≤ k) (hk2 : k ≤ 9223372036854775807) (A' : Option Addr) (n' c' : Nat) (ord : List Int) (h' : IntsAt w A' n' ord) (hc' : CapAt w.heap.size A' n' c') :
    Calls Try.prog 5 #[setV D A n c, .int .i64 i, .int .i64 k, .slice A' n' c'] w fun e w' => e = .returned (.bool true) ∧ Below w.heap.size w w' := by
  have hB := below_alloc w (.cells #[.int .i64 D, .slice A n c] 24)
  have P1 := h.step hB
  have P2 := h'.step hB
  have X1 := SetBox.new w D A n c
  have hsm := h'.small
  obtain ⟨fw, hfw⟩ : ∃ v, fewB 402 98 [⟨D, A, n, c, ps⟩] = v := ⟨_, rfl⟩
  have HF := Lib.hid hfw
  have x0 := X1.c0
  have x1 := X1.c1
  have HN1 := Lib.hid (fun W (I : PiecesAt W A n ps) => set_room D A n c ps i k W I hc.2 ⟨hk1, hk2⟩)
  have HN2 := Lib.hid (fun W (I : PiecesAt W A n ps) => ref_sroom D A n c ps i k W I hc.2 ⟨hk1, hk2⟩)
  have HN3 := Lib.hid (fun W (I : PiecesAt W A n ps) (I' : IntsAt W A' n' ord) => set_turn D A n c ps A' n' c' ord W I I')
  have HN4 := Lib.hid (fun W (I : PiecesAt W A n ps) (I' : IntsAt W A' n' ord) => ref_sturn D A n c ps A' n' c' ord W I I' hc'.1.2.1)
  clear h h' hfw hc hc'
  go_enter Try.func5, Try.ntmps5
  cases fw
  · go_wp2_with (first
      | (go_at_call 10; refine (few_one _ 1 (by simp) P1).mono ?_; rintro e w1 ⟨rfl, hb⟩; rw [HF.out]; replace hB := below_step hB hb; replace P1 := P1.step hb; replace P2 := P2.step hb; replace X1 := X1.step hb; clear x0 x1 hb; have x0 := X1.c0; have x1 := X1.c1)
      | (go_at_call 11; refine (awake4 _).mono ?_; rintro e w9 ⟨rfl, hb⟩; replace hB := below_step hB hb))
    go_ret
    exact ⟨rfl, hB⟩
  · by_cases h60 : 1000 < n'
    · have h61 : (1000 : Int) < n' := by omega
      go_wp2_with (first
        | (go_at_call 10; refine (few_one _ 1 (by simp) P1).mono ?_; rintro e w1 ⟨rfl, hb⟩; rw [HF.out]; replace hB := below_step hB hb; replace P1 := P1.step hb; replace P2 := P2.step hb; replace X1 := X1.step hb; clear x0 x1 hb; have x0 := X1.c0; have x1 := X1.c1)
        | (go_at_call 11; refine (awake4 _).mono ?_; rintro e w9 ⟨rfl, hb⟩; replace hB := below_step hB hb))
      go_ret
      exact ⟨rfl, hB⟩
    · have h61 : ¬ (1000 : Int) < n' := by omega
      obtain ⟨ud, hud⟩ : ∃ ud, roomE D ps i k = ud := ⟨_, rfl⟩
      obtain ⟨md, hmd⟩ : ∃ md, turnE D ps ord = md := ⟨_, rfl⟩
      rw [hud] at HN1 HN2
      rw [hmd] at HN3 HN4
      obtain ⟨D2, hD2⟩ : ∃ D2, (if ud.1 ≠ 0 then (0 : Int) else D + k) = D2 := ⟨_, rfl⟩
      obtain ⟨D4, hD4⟩ : ∃ D4, (if md.1 ≠ 0 then (0 : Int) else D) = D4 := ⟨_, rfl⟩
      have HDD := Lib.hid hD2
      have HDM := Lib.hid hD4
      clear hud hmd hD2 hD4
      have g1 : (ud.1 == ud.1) = true := by simp
      have g2 : (md.1 == md.1) = true := by simp
      have T1 : True := trivial
      go_wp2_with (first
        | (go_at_call 10; refine (few_one _ 1 (by simp) P1).mono ?_; rintro e w1 ⟨rfl, hb⟩; rw [HF.out]; replace hB := below_step hB hb; replace P1 := P1.step hb; replace P2 := P2.step hb; replace X1 := X1.step hb; clear x0 x1 hb; have x0 := X1.c0; have x1 := X1.c1)
        | (go_at_call 21; refine (HN1.out _ P1).mono ?_; rintro e w2 ⟨A2, k2, c2, qs2, rfl, hP2, hok2, hd2, hb2⟩; rw [HDD.out]; have b9 := below_alloc w2 (.cells #[.int .i64 D2, .slice A2 k2 c2] 24); have hx := below_step hb2 b9; replace hB := below_step hB hx; replace P1 := P1.step hx; replace P2 := P2.step hx; replace X1 := X1.step hx; have Q2 := hP2.step b9; have Y2 := SetBox.new w2 D2 A2 k2 c2; clear x0 x1 hb2 hok2 b9 hx; have x0 := X1.c0; have x1 := X1.c1; have z0 := Y2.c0; have z1 := Y2.c1)
        | (go_at_call 22; refine (HN2.out _ P1).mono ?_; rintro e w3 ⟨A3, k3, c3, qs3, rfl, hP3, hok3, hd3, hb3⟩; rw [HDD.out]; have b9 := below_alloc w3 (.cells #[.int .i64 D2, .slice A3 k3 c3] 24); have hx := below_step hb3 b9; replace hB := below_step hB hx; replace P1 := P1.step hx; replace P2 := P2.step hx; replace X1 := X1.step hx; replace Q2 := Q2.step hx; replace Y2 := Y2.step hx; have Q3 := hP3.step b9; have Y3 := SetBox.new w3 D2 A3 k3 c3; clear x0 x1 z0 z1 hb3 hok3 b9 hx; have x0 := X1.c0; have x1 := X1.c1; have z0 := Y2.c0; have z1 := Y2.c1; have u0 := Y3.c0; have u1 := Y3.c1)
        | (go_at_call 23; refine (HN3.out _ P1 P2).mono ?_; rintro e w4 ⟨A4, k4, c4, qs4, rfl, hP4, hok4, hd4, hb4⟩; rw [HDM.out]; have b9 := below_alloc w4 (.cells #[.int .i64 D4, .slice A4 k4 c4] 24); have hx := below_step hb4 b9; replace hB := below_step hB hx; replace P1 := P1.step hx; replace P2 := P2.step hx; replace X1 := X1.step hx; replace Q2 := Q2.step hx; replace Y2 := Y2.step hx; replace Q3 := Q3.step hx; replace Y3 := Y3.step hx; have Q4 := hP4.step b9; have Y4 := SetBox.new w4 D4 A4 k4 c4; clear x0 x1 z0 z1 u0 u1 hb4 hok4 b9 hx; have x0 := X1.c0; have x1 := X1.c1; have z0 := Y2.c0; have z1 := Y2.c1; have u0 := Y3.c0; have u1 := Y3.c1; have v0 := Y4.c0; have v1 := Y4.c1)
        | (go_at_call 24; refine (HN4.out _ P1 P2).mono ?_; rintro e w5 ⟨A5, k5, c5, qs5, rfl, hP5, hok5, hd5, hb5⟩; rw [HDM.out]; have b9 := below_alloc w5 (.cells #[.int .i64 D4, .slice A5 k5 c5] 24); have hx := below_step hb5 b9; replace hB := below_step hB hx; replace Q2 := Q2.step hx; replace Y2 := Y2.step hx; replace Q3 := Q3.step hx; replace Y3 := Y3.step hx; replace Q4 := Q4.step hx; replace Y4 := Y4.step hx; have Q5 := hP5.step b9; have Y5 := SetBox.new w5 D4 A5 k5 c5; clear x0 x1 z0 z1 u0 u1 v0 v1 hb5 hok5 b9 hx X1 P1 P2; have z0 := Y2.c0; have z1 := Y2.c1; have u0 := Y3.c0; have u1 := Y3.c1; have v0 := Y4.c0; have v1 := Y4.c1; have s0 := Y5.c0; have s1 := Y5.c1)
        | (go_at_call 18; have t1 := T1; clear T1 t1; refine (sis_same D2 A2 k2 c2 qs2 A3 k3 c3 qs3 ud.1 _ Q2 Q3 (data_dat (hd2.trans hd3.symm))).mono ?_; rintro e w6 ⟨rfl, hb6⟩; replace hB := below_step hB hb6; replace Q4 := Q4.step hb6; replace Q5 := Q5.step hb6; replace Y4 := Y4.step hb6; replace Y5 := Y5.step hb6; clear v0 v1 s0 s1; have v0 := Y4.c0; have v1 := Y4.c1; have s0 := Y5.c0; have s1 := Y5.c1)
        | (go_at_call 18; refine (sis_same D4 A4 k4 c4 qs4 A5 k5 c5 qs5 md.1 _ Q4 Q5 (data_dat (hd4.trans hd5.symm))).mono ?_; rintro e w7 ⟨rfl, hb7⟩; replace hB := below_step hB hb7)
        | (go_at_call 11; refine (awake4 _).mono ?_; rintro e w9 ⟨rfl, hb⟩; replace hB := below_step hB hb))
      go_ret
      exact ⟨rfl, hB⟩

set_option maxRecDepth 100000 in
theorem lifted (os : Os) (started : os.Started) (H : Type) (enc : TypeId × Value → H) :
    ReturnsInHanded {} Try.checked os 5 .any (Rows.setTurnsSpec.pre6 enc Try.prog Try.f5 Rows.setTurnsRow.domain false) (Rows.setTurnsSpec.post enc Try.prog Try.f5 false true false false) := by
  refine returnsInHanded_of_change_sized (C := Try.checked) own started (by kernel_rfl) Try.func5
    (ChangeSpec.witness6 (enc := enc) (C := Try.checked) false ⟨#[], #[.agg #[.int .i64 0, .slice none 0 0], .int .i64 0, .int .i64 0, .slice none 0 0], []⟩ 8 (by kernel_rfl) (by kernel_rfl) (by kernel_rfl) (by kernel_rfl)) ?_
  intro W base args ds gs before hval0 hW _ hsz0 _
  have hval : ∀ (j : Nat) t v, Try.f5.params[j]? = some t → args[j]? = some v → Value.okWide Try.prog W .any base t v := hval0
  have hW' := hW
  have hlt := hW.lt
  obtain ⟨p, q, hA0, hV, rfl, hfz, hnd⟩ := hW
  have hA : DataW.TrodAll enc Try.prog W 0 (fun _ => true) true Try.f5.params.toList args.toList ds p := hA0
  have hsz : (DataW.weightsEach Try.prog (Try.f5.params.toList ++ []) (ds ++ gs)).all (· ≤ reachBytes) = true := hsz0
  rw [Try.params5] at hA hval hsz
  obtain ⟨rfl, rfl⟩ := trodVars_none hV
  obtain ⟨v0, vs0, d0, ds0, p0, q0, hargs, rfl, rfl, h0, r0⟩ := trodAll_cons hA
  obtain ⟨v1, vs1, d1, ds1, p1, q1, rfl, rfl, rfl, h1, r1⟩ := trodAll_cons r0
  obtain ⟨v2, vs2, d2, ds2, p2, q2, rfl, rfl, rfl, h2, r2⟩ := trodAll_cons r1
  obtain ⟨v3, vs3, d3, ds3, p3, q3, rfl, rfl, rfl, h3, r3⟩ := trodAll_cons r2
  obtain ⟨rfl, rfl, rfl⟩ := trodAll_nil r3
  obtain rfl : args = #[v0, v1, v2, v3] := by cases args; simp_all
  obtain ⟨z0, hsz⟩ := weights_cons hsz
  obtain ⟨z1, hsz⟩ := weights_cons hsz
  obtain ⟨z2, hsz⟩ := weights_cons hsz
  obtain ⟨z3, hsz⟩ := weights_cons hsz
  have hpost : ∀ W' : World, Below W.heap.size W W' → ∃ v, Ending.returned (.bool true) = .returned v ∧ Rows.setTurnsSpec.post enc Try.prog Try.f5 false true false false W #[v0, v1, v2, v3] v W' :=
    fun W' hb => ⟨_, rfl, law_post laidOut (of_decide_eq_true (by kernel_rfl)) rfl rfl Try.underlying4 rfl hW' hb⟩
  obtain ⟨D0, A0, n0, c0, ps0, rfl, I0, C0, k0⟩ := set_ofC (hval 0 24 v0 rfl rfl) (fun x hx => hlt x (by simp only [List.mem_append]; simp [hx])) z0 h0
  obtain ⟨a1, rfl, rfl, rfl, w1⟩ := open_int Try.underlying3 (hval 1 3 v1 rfl rfl) h1
  have b1 := bounds_i64 w1
  obtain ⟨a2, rfl, rfl, rfl, w2⟩ := open_int Try.underlying3 (hval 2 3 v2 rfl rfl) h2
  have b2 := bounds_i64 w2
  obtain ⟨A3, n3, c3, xs3, rfl, I3, C3⟩ := ints_ofD (hval 3 33 v3 rfl rfl) (fun x hx => hlt x (by simp only [List.mem_append]; simp [hx])) z3 h3
  refine (walk D0 A0 n0 c0 ps0 I0 C0 k0 a1 b1.1 b1.2 a2 b2.1 b2.2 A3 n3 c3 xs3 I3 C3 (w := W)).mono fun e W' ⟨he, hb⟩ => ?_
  subst he
  exact hpost W' hb

theorem proved : Rows.SetTurnsSaid :=
  OpenClaim.holds_of_wide 5 Try.f5 rfl rfl rfl rfl rfl rfl rfl ⟨rfl, rfl, rfl, rfl, rfl⟩ rfl rfl rfl rfl rfl (by kernel_rfl) Try.func5 (by kernel_rfl)
    (of_decide_eq_true (by kernel_rfl)) (by unfold Func.isWrapper; first | (rw [if_pos (by decide +kernel)]; kernel_rfl) | (rw [if_neg (by decide +kernel)]; exact ⟨rfl, rfl⟩))
    (fun os started H enc _ => lifted os started H enc)
#print axioms proved
end Go.Proofs.Ytkgnlloioaobiaa.setTurns
