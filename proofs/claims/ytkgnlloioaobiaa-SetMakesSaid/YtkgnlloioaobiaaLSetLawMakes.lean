/-
  For all sets s of the law's bounds and all n, SetMakes returns true and leaves memory as it was. No condition.
-/
import Derived.Test.YtkgnlloioaobiaaRows
import Derived.Deep.RegionHeld3
import Derived.Test.YtkgnlloioaobiaaMe

set_option linter.unusedVariables false
set_option linter.unusedSimpArgs false
namespace Go.Proofs.Ytkgnlloioaobiaa.setMakes
open Go.ChangeShapes Go.WideShapes Go.ChangeAt Go.RowKit

set_option maxRecDepth 100000 in
set_option maxHeartbeats 8000000 in
theorem walk (w : World) (D : Int) (A : Option Addr) (n c : Nat) (ps : List PEl) (h : PiecesAt w A n ps) (_ : -9223372036854775808 ≤ D ∧ D ≤ 9223372036854775807) (k : Int) (_ : -9223372036854775808 ≤ k) (_ : k ≤ 9223372036854775807) :
    Calls Try.prog 3 #[setV D A n c, .int .i64 k] w fun e w' => e = .returned (.bool true) ∧ Below w.heap.size w w' := by
  have hB := below_alloc w (.cells #[.int .i64 D, .slice A n c] 24)
  have P1 := h.step hB
  have X1 := SetBox.new w D A n c
  have HW1 := Lib.hid (fun W => set_whole k W)
  have HW2 := Lib.hid (fun W => ref_whole k W)
  have HN1 := Lib.hid (fun W => set_none k W)
  have HN2 := Lib.hid (fun W => ref_none k W)
  generalize mD k = md at HW1 HW2 HN1 HN2
  generalize mPs k = mp at HW1 HW2
  generalize mErr k = me at HW1 HW2 HN1 HN2
  obtain ⟨v, hv⟩ : ∃ v, validS D ps = v := ⟨_, rfl⟩
  have HV := Lib.hid hv
  obtain ⟨fw, hfw⟩ : ∃ v, fewB 402 98 [⟨D, A, n, c, ps⟩] = v := ⟨_, rfl⟩
  have HF := Lib.hid hfw
  have g1 : (v == v) = true := by simp
  have x0 := X1.c0
  have x1 := X1.c1
  have T1 : True := trivial
  clear h hv hfw
  go_enter Try.func3, Try.ntmps3
  cases fw
  · go_wp2_with (first
      | (go_at_call 10; refine (few_one _ 1 (by simp) P1).mono ?_; rintro e w1 ⟨rfl, hb⟩; rw [HF.out]; replace hB := below_step hB hb; replace P1 := P1.step hb; replace X1 := X1.step hb; clear x0 x1 hb; have x0 := X1.c0; have x1 := X1.c1)
      | (go_at_call 11; refine (awake4 _).mono ?_; rintro e w9 ⟨rfl, hb⟩; replace hB := below_step hB hb))
    go_ret
    exact ⟨rfl, hB⟩
  · go_wp2_with (first
      | (go_at_call 10; refine (few_one _ 1 (by simp) P1).mono ?_; rintro e w1 ⟨rfl, hb⟩; rw [HF.out]; replace hB := below_step hB hb; replace P1 := P1.step hb; replace X1 := X1.step hb; clear x0 x1 hb; have x0 := X1.c0; have x1 := X1.c1)
      | (go_at_call 12; refine (HW1.out _).mono ?_; rintro e w2 ⟨A5, n5, c5, rfl, I5, hb⟩; have b9 := below_alloc w2 (.cells #[.int .i64 md, .slice A5 n5 c5] 24); have hx := below_step hb b9; replace hB := below_step hB hx; replace P1 := P1.step hx; replace X1 := X1.step hx; have R5 := SetBox.new w2 md A5 n5 c5; replace I5 := I5.step b9; clear hb b9 hx x0 x1; have x0 := X1.c0; have x1 := X1.c1; have r50 := R5.c0; have r51 := R5.c1)
      | (go_at_call 13; refine (HW2.out _).mono ?_; rintro e w3 ⟨A7, n7, c7, rfl, I7, hb⟩; have b9 := below_alloc w3 (.cells #[.int .i64 md, .slice A7 n7 c7] 24); have hx := below_step hb b9; replace hB := below_step hB hx; replace P1 := P1.step hx; replace X1 := X1.step hx; replace I5 := I5.step hx; replace R5 := R5.step hx; have R7 := SetBox.new w3 md A7 n7 c7; replace I7 := I7.step b9; clear hb b9 hx x0 x1 r50 r51; have x0 := X1.c0; have x1 := X1.c1; have r50 := R5.c0; have r51 := R5.c1; have r70 := R7.c0; have r71 := R7.c1)
      | (go_at_call 14; refine (HN1.out _).mono ?_; rintro e w4 ⟨A9, n9, c9, rfl, I9, hb⟩; have b9 := below_alloc w4 (.cells #[.int .i64 md, .slice A9 n9 c9] 24); have hx := below_step hb b9; replace hB := below_step hB hx; replace P1 := P1.step hx; replace X1 := X1.step hx; replace I5 := I5.step hx; replace R5 := R5.step hx; replace I7 := I7.step hx; replace R7 := R7.step hx; have R9 := SetBox.new w4 md A9 n9 c9; replace I9 := I9.step b9; clear hb b9 hx x0 x1 r50 r51 r70 r71; have x0 := X1.c0; have x1 := X1.c1; have r50 := R5.c0; have r51 := R5.c1; have r70 := R7.c0; have r71 := R7.c1; have r90 := R9.c0; have r91 := R9.c1)
      | (go_at_call 15; refine (HN2.out _).mono ?_; rintro e w5 ⟨A11, n11, c11, rfl, I11, hb⟩; have b9 := below_alloc w5 (.cells #[.int .i64 md, .slice A11 n11 c11] 24); have hx := below_step hb b9; replace hB := below_step hB hx; replace P1 := P1.step hx; replace X1 := X1.step hx; replace I5 := I5.step hx; replace R5 := R5.step hx; replace I7 := I7.step hx; replace R7 := R7.step hx; replace I9 := I9.step hx; replace R9 := R9.step hx; have R11 := SetBox.new w5 md A11 n11 c11; replace I11 := I11.step b9; clear hb b9 hx x0 x1 r50 r51 r70 r71 r90 r91; have x0 := X1.c0; have x1 := X1.c1; have r50 := R5.c0; have r51 := R5.c1; have r70 := R7.c0; have r71 := R7.c1; have r90 := R9.c0; have r91 := R9.c1; have r110 := R11.c0; have r111 := R11.c1))
    generalize w5.alloc (.cells #[.int .i64 md, .slice A11 n11 c11] 24) = w0b at *
    go_region_held3 (fun W => W.cell? ⟨w.heap.size, 0, none⟩ = some (.int .i64 D) ∧ W.cell? ⟨w.heap.size, 1, none⟩ = some (.slice A n c) ∧ W.cell? ⟨w2.heap.size, 0, none⟩ = some (.int .i64 md) ∧ W.cell? ⟨w2.heap.size, 1, none⟩ = some (.slice A5 n5 c5) ∧ W.cell? ⟨w3.heap.size, 0, none⟩ = some (.int .i64 md) ∧ W.cell? ⟨w3.heap.size, 1, none⟩ = some (.slice A7 n7 c7) ∧ W.cell? ⟨w4.heap.size, 0, none⟩ = some (.int .i64 md) ∧ W.cell? ⟨w4.heap.size, 1, none⟩ = some (.slice A9 n9 c9) ∧ W.cell? ⟨w5.heap.size, 0, none⟩ = some (.int .i64 md) ∧ W.cell? ⟨w5.heap.size, 1, none⟩ = some (.slice A11 n11 c11)) (first | with_reducible exact ⟨x0, x1, r50, r51, r70, r71, r90, r91, r110, r111⟩ | go_keep)
      (first
        | (go_at_call 16; refine (set_valid D A n c ps _ (P1.step (Below.refl _ w0b).drew)).mono ?_; rintro e w6 ⟨rfl, hb0⟩; have hb := (show Below w0b.heap.size w0b w6 by first | exact hb0 | exact below_step (Below.refl _ w0b).drew hb0); clear hb0; rw [HV.out]; replace hB := below_step hB hb; replace P1 := P1.step hb; replace X1 := X1.step hb; replace I5 := I5.step hb; replace R5 := R5.step hb; replace I7 := I7.step hb; replace R7 := R7.step hb; replace I9 := I9.step hb; replace R9 := R9.step hb; replace I11 := I11.step hb; replace R11 := R11.step hb; clear hb x0 x1 r50 r51 r70 r71 r90 r91 r110 r111; have x0 := X1.c0; have x1 := X1.c1; have r50 := R5.c0; have r51 := R5.c1; have r70 := R7.c0; have r71 := R7.c1; have r90 := R9.c0; have r91 := R9.c1; have r110 := R11.c0; have r111 := R11.c1)
        | (go_at_call 17; refine (ref_svalid D A n c ps _ P1).mono ?_; rintro e w7 ⟨rfl, hb0⟩; have hb := (show Below w6.heap.size w6 w7 by first | exact hb0 | exact below_step (Below.refl _ w6).drew hb0); clear hb0; rw [HV.out]; replace hB := below_step hB hb; replace P1 := P1.step hb; replace X1 := X1.step hb; replace I5 := I5.step hb; replace R5 := R5.step hb; replace I7 := I7.step hb; replace R7 := R7.step hb; replace I9 := I9.step hb; replace R9 := R9.step hb; replace I11 := I11.step hb; replace R11 := R11.step hb; clear hb x0 x1 r50 r51 r70 r71 r90 r91 r110 r111; have x0 := X1.c0; have x1 := X1.c1; have r50 := R5.c0; have r51 := R5.c1; have r70 := R7.c0; have r71 := R7.c1; have r90 := R9.c0; have r91 := R9.c1; have r110 := R11.c0; have r111 := R11.c1)
        | (go_at_call 18; have t1 := T1; clear T1 t1; refine (sis_same md A5 n5 c5 mp A7 n7 c7 mp me _ I5 I7 rfl).mono ?_; rintro e w8 ⟨rfl, hb0⟩; have hb := (show Below w7.heap.size w7 w8 by first | exact hb0 | exact below_step (Below.refl _ w7).drew hb0); clear hb0; replace hB := below_step hB hb; replace P1 := P1.step hb; replace X1 := X1.step hb; replace I5 := I5.step hb; replace R5 := R5.step hb; replace I7 := I7.step hb; replace R7 := R7.step hb; replace I9 := I9.step hb; replace R9 := R9.step hb; replace I11 := I11.step hb; replace R11 := R11.step hb; clear hb x0 x1 r50 r51 r70 r71 r90 r91 r110 r111; have x0 := X1.c0; have x1 := X1.c1; have r50 := R5.c0; have r51 := R5.c1; have r70 := R7.c0; have r71 := R7.c1; have r90 := R9.c0; have r91 := R9.c1; have r110 := R11.c0; have r111 := R11.c1)
        | (go_at_call 18; refine (sis_same md A9 n9 c9 [] A11 n11 c11 [] me _ I9 I11 rfl).mono ?_; rintro e w10 ⟨rfl, hb0⟩; have hb := (show Below w8.heap.size w8 w10 by first | exact hb0 | exact below_step (Below.refl _ w8).drew hb0); clear hb0; replace hB := below_step hB hb; replace P1 := P1.step hb; replace X1 := X1.step hb; replace I5 := I5.step hb; replace R5 := R5.step hb; replace I7 := I7.step hb; replace R7 := R7.step hb; replace I9 := I9.step hb; replace R9 := R9.step hb; replace I11 := I11.step hb; replace R11 := R11.step hb; clear hb x0 x1 r50 r51 r70 r71 r90 r91 r110 r111; have x0 := X1.c0; have x1 := X1.c1; have r50 := R5.c0; have r51 := R5.c1; have r70 := R7.c0; have r71 := R7.c1; have r90 := R9.c0; have r91 := R9.c1; have r110 := R11.c0; have r111 := R11.c1)
        | (go_at_call 11; refine (awake4 _).mono ?_; rintro e w11 ⟨rfl, hb0⟩; have hb := (show Below w10.heap.size w10 w11 by first | exact hb0 | exact below_step (Below.refl _ w10).drew hb0); clear hb0; replace hB := below_step hB hb; replace P1 := P1.step hb; replace X1 := X1.step hb; replace I5 := I5.step hb; replace R5 := R5.step hb; replace I7 := I7.step hb; replace R7 := R7.step hb; replace I9 := I9.step hb; replace R9 := R9.step hb; replace I11 := I11.step hb; replace R11 := R11.step hb; clear hb x0 x1 r50 r51 r70 r71 r90 r91 r110 r111; have x0 := X1.c0; have x1 := X1.c1; have r50 := R5.c0; have r51 := R5.c1; have r70 := R7.c0; have r71 := R7.c1; have r90 := R9.c0; have r91 := R9.c1; have r110 := R11.c0; have r111 := R11.c1))
    all_goals
      go_wp2
      go_ret
      exact ⟨rfl, hB⟩

set_option maxRecDepth 100000 in
theorem lifted (os : Os) (started : os.Started) (H : Type) (enc : TypeId × Value → H) :
    ReturnsInHanded {} Try.checked os 3 .any (Rows.setMakesSpec.pre6 enc Try.prog Try.f3 Rows.setMakesRow.domain false) (Rows.setMakesSpec.post enc Try.prog Try.f3 false true false false) := by
  refine returnsInHanded_of_change_sized (C := Try.checked) own started (by kernel_rfl) Try.func3
    (ChangeSpec.witness6 (enc := enc) (C := Try.checked) false ⟨#[], #[.agg #[.int .i64 0, .slice none 0 0], .int .i64 0], []⟩ 8 (by kernel_rfl) (by kernel_rfl) (by kernel_rfl) (by kernel_rfl)) ?_
  intro W base args ds gs before hval0 hW _ hsz0 _
  have hval : ∀ (j : Nat) t v, Try.f3.params[j]? = some t → args[j]? = some v → Value.okWide Try.prog W .any base t v := hval0
  have hW' := hW
  have hlt := hW.lt
  obtain ⟨p, q, hA0, hV, rfl, hfz, hnd⟩ := hW
  have hA : DataW.TrodAll enc Try.prog W 0 (fun _ => true) true Try.f3.params.toList args.toList ds p := hA0
  have hsz : (DataW.weightsEach Try.prog (Try.f3.params.toList ++ []) (ds ++ gs)).all (· ≤ reachBytes) = true := hsz0
  rw [Try.params3] at hA hval hsz
  obtain ⟨rfl, rfl⟩ := trodVars_none hV
  obtain ⟨v0, vs0, d0, ds0, p0, q0, hargs, rfl, rfl, h0, r0⟩ := trodAll_cons hA
  obtain ⟨v1, vs1, d1, ds1, p1, q1, rfl, rfl, rfl, h1, r1⟩ := trodAll_cons r0
  obtain ⟨rfl, rfl, rfl⟩ := trodAll_nil r1
  obtain rfl : args = #[v0, v1] := by cases args; simp_all
  obtain ⟨z0, hsz⟩ := weights_cons hsz
  obtain ⟨z1, hsz⟩ := weights_cons hsz
  have hpost : ∀ W' : World, Below W.heap.size W W' → ∃ v, Ending.returned (.bool true) = .returned v ∧ Rows.setMakesSpec.post enc Try.prog Try.f3 false true false false W #[v0, v1] v W' :=
    fun W' hb => ⟨_, rfl, law_post laidOut (of_decide_eq_true (by kernel_rfl)) rfl rfl Try.underlying4 rfl hW' hb⟩
  obtain ⟨D0, A0, n0, c0, ps0, rfl, I0, k0⟩ := set_of (hval 0 24 v0 rfl rfl) (fun x hx => hlt x (by simp only [List.mem_append]; simp [hx])) z0 h0
  obtain ⟨a1, rfl, rfl, rfl, w1⟩ := open_int Try.underlying3 (hval 1 3 v1 rfl rfl) h1
  have b1 := bounds_i64 w1
  refine (walk D0 A0 n0 c0 ps0 I0 k0 a1 b1.1 b1.2 (w := W)).mono fun e W' ⟨he, hb⟩ => ?_
  subst he
  exact hpost W' hb

theorem proved : Rows.SetMakesSaid :=
  OpenClaim.holds_of_wide 3 Try.f3 rfl rfl rfl rfl rfl rfl rfl ⟨rfl, rfl, rfl, rfl, rfl⟩ rfl rfl rfl rfl rfl (by kernel_rfl) Try.func3 (by kernel_rfl)
    (of_decide_eq_true (by kernel_rfl)) (by unfold Func.isWrapper; first | (rw [if_pos (by decide +kernel)]; kernel_rfl) | (rw [if_neg (by decide +kernel)]; exact ⟨rfl, rfl⟩))
    (fun os started H enc _ => lifted os started H enc)
#print axioms proved
end Go.Proofs.Ytkgnlloioaobiaa.setMakes
