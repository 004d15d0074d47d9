/-
  For all sets a and b of the law's bounds, SetMinus returns true and leaves memory as it was. No condition.
-/
import Derived.Test.YtkgnlloioaobiaaGreatRows
import Derived.Test.YtkgnlloioaobiaaGreatMi

set_option linter.unusedVariables false
set_option linter.unusedSimpArgs false
namespace Go.Proofs.YtkgnlloioaobiaaGreat.setMinus
open Go.ChangeShapes Go.WideShapes Go.ChangeAt Go.RowKit


set_option maxRecDepth 100000 in
set_option maxHeartbeats 8000000 in
theorem walk (w : World) (D : Int) (A : Option Addr) (n c : Nat) (ps : List PEl) (h : PiecesAt w A n ps) (_ : -9223372036854775808 ≤ D ∧ D ≤ 9223372036854775807) (D' : Int) (A' : Option Addr) (n' c' : Nat) (ps' : List PEl) (h' : PiecesAt w A' n' ps') (_ : -9223372036854775808 ≤ D' ∧ D' ≤ 9223372036854775807) :
    Calls Tryz.prog 5 #[setV D A n c, setV D' A' n' c'] w fun e w' => e = .returned (.bool true) ∧ Below w.heap.size w w' := by
  have hB := below_step (below_alloc w (.cells #[.int .i64 D, .slice A n c] 24)) (below_alloc _ (.cells #[.int .i64 D', .slice A' n' c'] 24))
  have P1 := h.step hB
  have P2 := h'.step hB
  have X1 := (SetBox.new w D A n c).alloc (.cells #[.int .i64 D', .slice A' n' c'] 24)
  have X2 := SetBox.new (w.alloc (.cells #[.int .i64 D, .slice A n c] 24)) D' A' n' c'
  rw [World.size_alloc] at X2
  obtain ⟨fw, hfw⟩ : ∃ v, fewB 8 8 [⟨D, A, n, c, ps⟩, ⟨D', A', n', c', ps'⟩] = v := ⟨_, rfl⟩
  have HF := Lib.hid hfw
  have x0 := X1.c0
  have x1 := X1.c1
  have y0 := X2.c0
  have y1 := X2.c1
  have HN1 := Lib.hid (fun W (I : PiecesAt W A n ps) (I' : PiecesAt W A' n' ps') => minus_any D A n c ps D' A' n' c' ps' W I I')
  have HN2 := Lib.hid (fun W (I : PiecesAt W A n ps) (I' : PiecesAt W A' n' ps') => ref_minus_any D A n c ps D' A' n' c' ps' W I I')
  obtain ⟨md, hmd⟩ : ∃ md, minusE D ps D' ps' = md := ⟨_, rfl⟩
  rw [hmd] at HN1 HN2
  clear h h' hfw hmd
  go_enter Tryz.func5, Tryz.ntmps5
  cases fw
  · go_wp2_with (first
      | (go_at_call 9; refine (few_two _ 2 (by simp) P1 P2).mono ?_; rintro e w1 ⟨rfl, hb⟩; rw [HF.out]; replace hB := below_step hB hb; replace P1 := P1.step hb; replace P2 := P2.step hb; replace X1 := X1.step hb; replace X2 := X2.step hb; clear x0 x1 y0 y1 hb; have x0 := X1.c0; have x1 := X1.c1; have y0 := X2.c0; have y1 := X2.c1)
      | (go_at_call 10; refine (awake4 _).mono ?_; rintro e w9 ⟨rfl, hb⟩; replace hB := below_step hB hb))
    go_ret
    exact ⟨rfl, hB⟩
  · obtain ⟨D2, hD2⟩ : ∃ D2, (if md.1 ≠ 0 then (0 : Int) else D) = D2 := ⟨_, rfl⟩
    have HDD := Lib.hid hD2
    clear hD2
    have g1 : (md.1 == md.1) = true := by simp
    go_wp2_with (first
      | (go_at_call 9; refine (few_two _ 2 (by simp) P1 P2).mono ?_; rintro e w1 ⟨rfl, hb⟩; rw [HF.out]; replace hB := below_step hB hb; replace P1 := P1.step hb; replace P2 := P2.step hb; replace X1 := X1.step hb; replace X2 := X2.step hb; clear x0 x1 y0 y1 hb; have x0 := X1.c0; have x1 := X1.c1; have y0 := X2.c0; have y1 := X2.c1)
      | (go_at_call 18; refine (HN1.out _ P1 P2).mono ?_; rintro e w2 ⟨A2, k2, c2, qs, rfl, hP2, hok2, hd2, hA2, hb2⟩; rw [HDD.out]; have b9 := below_alloc w2 (.cells #[.int .i64 D2, .slice A2 k2 c2] 24); have hx := below_step hb2 b9; replace hB := below_step hB hx; replace P1 := P1.step hx; replace P2 := P2.step hx; replace X1 := X1.step hx; replace X2 := X2.step hx; have Q2 := hP2.step b9; have Y2 := SetBox.new w2 D2 A2 k2 c2; clear x0 x1 y0 y1 hb2 hok2 hA2 b9 hx; have x0 := X1.c0; have x1 := X1.c1; have y0 := X2.c0; have y1 := X2.c1; have z0 := Y2.c0; have z1 := Y2.c1)
      | (go_at_call 19; refine (HN2.out _ P1 P2).mono ?_; rintro e w3 ⟨A3, k3, c3, rs, rfl, hP3, hok3, hd3, hA3, hb3⟩; rw [HDD.out]; have b9 := below_alloc w3 (.cells #[.int .i64 D2, .slice A3 k3 c3] 24); have hx := below_step hb3 b9; replace hB := below_step hB hx; replace Q2 := Q2.step hx; replace Y2 := Y2.step hx; have Q3 := hP3.step b9; have Y3 := SetBox.new w3 D2 A3 k3 c3; clear x0 x1 y0 y1 z0 z1 hb3 hok3 hA3 b9 hx; have z0 := Y2.c0; have z1 := Y2.c1; have u0 := Y3.c0; have u1 := Y3.c1)
      | (go_at_call 13; refine (sis_same D2 A2 k2 c2 qs A3 k3 c3 rs md.1 _ Q2 Q3 (data_dat (hd2.trans hd3.symm))).mono ?_; rintro e w4 ⟨rfl, hb4⟩; replace hB := below_step hB hb4)
      | (go_at_call 10; refine (awake4 _).mono ?_; rintro e w9 ⟨rfl, hb⟩; replace hB := below_step hB hb))
    go_ret
    exact ⟨rfl, hB⟩

set_option maxRecDepth 100000 in
theorem lifted (os : Os) (started : os.Started) (H : Type) (enc : TypeId × Value → H) :
    ReturnsInHanded {} Tryz.checked os 5 .any (Rows.setMinusSpec.pre6 enc Tryz.prog Tryz.f5 Rows.setMinusRow.domain false) (Rows.setMinusSpec.post enc Tryz.prog Tryz.f5 false true false false) := by
  refine returnsInHanded_of_change_sized (C := Tryz.checked) own started (by kernel_rfl) Tryz.func5
    (ChangeSpec.witness6 (enc := enc) (C := Tryz.checked) false ⟨#[], #[.agg #[.int .i64 0, .slice none 0 0], .agg #[.int .i64 0, .slice none 0 0]], []⟩ 8 (by kernel_rfl) (by kernel_rfl) (by kernel_rfl) (by kernel_rfl)) ?_
  intro W base args ds gs before hval0 hW _ hsz0 _
  have hval : ∀ (j : Nat) t v, Tryz.f5.params[j]? = some t → args[j]? = some v → Value.okWide Tryz.prog W .any base t v := hval0
  have hW' := hW
  have hlt := hW.lt
  obtain ⟨p, q, hA0, hV, rfl, hfz, hnd⟩ := hW
  have hA : DataW.TrodAll enc Tryz.prog W 0 (fun _ => true) true Tryz.f5.params.toList args.toList ds p := hA0
  have hsz : (DataW.weightsEach Tryz.prog (Tryz.f5.params.toList ++ []) (ds ++ gs)).all (· ≤ reachBytes) = true := hsz0
  rw [Tryz.params5] at hA hval hsz
  obtain ⟨rfl, rfl⟩ := trodVars_none hV
  obtain ⟨v0, vs0, d0, ds0, p0, q0, hargs, rfl, rfl, h0, r0⟩ := trodAll_cons hA
  obtain ⟨v1, vs1, d1, ds1, p1, q1, rfl, rfl, rfl, h1, r1⟩ := trodAll_cons r0
  obtain ⟨rfl, rfl, rfl⟩ := trodAll_nil r1
  obtain rfl : args = #[v0, v1] := by cases args; simp_all
  obtain ⟨z0, hsz⟩ := weights_cons hsz
  obtain ⟨z1, hsz⟩ := weights_cons hsz
  have hpost : ∀ W' : World, Below W.heap.size W W' → ∃ v, Ending.returned (.bool true) = .returned v ∧ Rows.setMinusSpec.post enc Tryz.prog Tryz.f5 false true false false W #[v0, v1] v W' :=
    fun W' hb => ⟨_, rfl, law_post laidOut (of_decide_eq_true (by kernel_rfl)) rfl rfl Tryz.underlying4 rfl hW' hb⟩
  obtain ⟨D0, A0, n0, c0, ps0, rfl, I0, k0⟩ := set_of (hval 0 24 v0 rfl rfl) (fun x hx => hlt x (by simp only [List.mem_append]; simp [hx])) z0 h0
  obtain ⟨D1, A1, n1, c1, ps1, rfl, I1, k1⟩ := set_of (hval 1 24 v1 rfl rfl) (fun x hx => hlt x (by simp only [List.mem_append]; simp [hx])) z1 h1
  refine (walk D0 A0 n0 c0 ps0 I0 k0 D1 A1 n1 c1 ps1 I1 k1 (w := W)).mono fun e W' ⟨he, hb⟩ => ?_
  subst he
  exact hpost W' hb

theorem proved : Rows.SetMinusSaid :=
  OpenClaim.holds_of_wide 5 Tryz.f5 rfl rfl rfl rfl rfl rfl rfl ⟨rfl, rfl, rfl, rfl, rfl⟩ rfl rfl rfl rfl rfl (by kernel_rfl) Tryz.func5 (by kernel_rfl)
    (of_decide_eq_true (by kernel_rfl)) (by unfold Func.isWrapper; first | (rw [if_pos (by decide +kernel)]; kernel_rfl) | (rw [if_neg (by decide +kernel)]; exact ⟨rfl, rfl⟩))
    (fun os started H enc _ => lifted os started H enc)
#print axioms proved
end Go.Proofs.YtkgnlloioaobiaaGreat.setMinus
