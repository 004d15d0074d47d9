/-
  For all sets s of the law's bounds and all lists x, SetHas returns true and leaves memory as it was. No condition.
-/
import Derived.Test.YtkgnlloioaobiaaRows
import Derived.Test.YtkgnlloioaobiaaMe

set_option linter.unusedVariables false
set_option linter.unusedSimpArgs false
namespace Go.Proofs.Ytkgnlloioaobiaa.setHas
open Go.ChangeShapes Go.WideShapes Go.ChangeAt Go.RowKit


set_option maxRecDepth 100000 in
set_option maxHeartbeats 8000000 in
theorem walk (w : World) (D : Int) (A : Option Addr) (n c : Nat) (ps : List PEl) (h : PiecesAt w A n ps) (_ : -9223372036854775808 ≤ D ∧ D ≤ 9223372036854775807) (A' : Option Addr) (k c' : Nat) (xs : List Int) (hI : IntsAt w A' k xs) :
    Calls Try.prog 4 #[setV D A n c, .slice A' k c'] w fun e w' => e = .returned (.bool true) ∧ Below w.heap.size w w' := by
  have hB := below_alloc w (.cells #[.int .i64 D, .slice A n c] 24)
  have P1 := h.step hB
  have I1 := hI.step hB
  have X1 := SetBox.new w D A n c
  obtain ⟨v, hv⟩ : ∃ v, sVal D ps xs = v := ⟨_, rfl⟩
  obtain ⟨er, her⟩ : ∃ v, sErr D ps xs = v := ⟨_, rfl⟩
  have HV := Lib.hid hv
  have HE := Lib.hid her
  obtain ⟨fw, hfw⟩ : ∃ v, fewB 402 98 [⟨D, A, n, c, ps⟩] = v := ⟨_, rfl⟩
  have HF := Lib.hid hfw
  have g1 : (v == v) = true := by simp
  have g2 : (er == er) = true := by simp
  have x0 := X1.c0
  have x1 := X1.c1
  clear h hI hv her hfw
  go_enter Try.func4, Try.ntmps4
  cases fw
  · go_wp2_with (first
      | (go_at_call 10; refine (few_one _ 1 (by simp) P1).mono ?_; rintro e w1 ⟨rfl, hb⟩; rw [HF.out]; replace hB := below_step hB hb; replace P1 := P1.step hb; replace I1 := I1.step hb; replace X1 := X1.step hb; clear x0 x1 hb; have x0 := X1.c0; have x1 := X1.c1)
      | (go_at_call 11; refine (awake4 _).mono ?_; rintro e w9 ⟨rfl, hb⟩; replace hB := below_step hB hb))
    go_ret
    exact ⟨rfl, hB⟩
  · go_wp2_with (first
      | (go_at_call 10; refine (few_one _ 1 (by simp) P1).mono ?_; rintro e w1 ⟨rfl, hb⟩; rw [HF.out]; replace hB := below_step hB hb; replace P1 := P1.step hb; replace I1 := I1.step hb; replace X1 := X1.step hb; clear x0 x1 hb; have x0 := X1.c0; have x1 := X1.c1)
      | (go_at_call 19; refine (set_has D A n c ps A' k c' xs _ P1 I1).mono ?_; rintro e w2 ⟨rfl, hb⟩; rw [HV.out, HE.out]; replace hB := below_step hB hb; replace P1 := P1.step hb; replace I1 := I1.step hb; replace X1 := X1.step hb; clear x0 x1 hb; have x0 := X1.c0; have x1 := X1.c1)
      | (go_at_call 20; refine (ref_shas D A n c ps A' k c' xs _ P1 I1).mono ?_; rintro e w3 ⟨rfl, hb⟩; rw [HV.out, HE.out]; replace hB := below_step hB hb)
      | (go_at_call 11; refine (awake4 _).mono ?_; rintro e w9 ⟨rfl, hb⟩; replace hB := below_step hB hb))
    go_ret
    exact ⟨rfl, hB⟩

set_option maxRecDepth 100000 in
theorem lifted (os : Os) (started : os.Started) (H : Type) (enc : TypeId × Value → H) :
    ReturnsInHanded {} Try.checked os 4 .any (Rows.setHasSpec.pre6 enc Try.prog Try.f4 Rows.setHasRow.domain false) (Rows.setHasSpec.post enc Try.prog Try.f4 false true false false) := by
  refine returnsInHanded_of_change_sized (C := Try.checked) own started (by kernel_rfl) Try.func4
    (ChangeSpec.witness6 (enc := enc) (C := Try.checked) false ⟨#[], #[.agg #[.int .i64 0, .slice none 0 0], .slice none 0 0], []⟩ 8 (by kernel_rfl) (by kernel_rfl) (by kernel_rfl) (by kernel_rfl)) ?_
  intro W base args ds gs before hval0 hW _ hsz0 _
  have hval : ∀ (j : Nat) t v, Try.f4.params[j]? = some t → args[j]? = some v → Value.okWide Try.prog W .any base t v := hval0
  have hW' := hW
  have hlt := hW.lt
  obtain ⟨p, q, hA0, hV, rfl, hfz, hnd⟩ := hW
  have hA : DataW.TrodAll enc Try.prog W 0 (fun _ => true) true Try.f4.params.toList args.toList ds p := hA0
  have hsz : (DataW.weightsEach Try.prog (Try.f4.params.toList ++ []) (ds ++ gs)).all (· ≤ reachBytes) = true := hsz0
  rw [Try.params4] at hA hval hsz
  obtain ⟨rfl, rfl⟩ := trodVars_none hV
  obtain ⟨v0, vs0, d0, ds0, p0, q0, hargs, rfl, rfl, h0, r0⟩ := trodAll_cons hA
  obtain ⟨v1, vs1, d1, ds1, p1, q1, rfl, rfl, rfl, h1, r1⟩ := trodAll_cons r0
  obtain ⟨rfl, rfl, rfl⟩ := trodAll_nil r1
  obtain rfl : args = #[v0, v1] := by cases args; simp_all
  obtain ⟨z0, hsz⟩ := weights_cons hsz
  obtain ⟨z1, hsz⟩ := weights_cons hsz
  have hpost : ∀ W' : World, Below W.heap.size W W' → ∃ v, Ending.returned (.bool true) = .returned v ∧ Rows.setHasSpec.post enc Try.prog Try.f4 false true false false W #[v0, v1] v W' :=
    fun W' hb => ⟨_, rfl, law_post laidOut (of_decide_eq_true (by kernel_rfl)) rfl rfl Try.underlying4 rfl hW' hb⟩
  obtain ⟨D0, A0, n0, c0, ps0, rfl, I0, k0⟩ := set_of (hval 0 24 v0 rfl rfl) (fun x hx => hlt x (by simp only [List.mem_append]; simp [hx])) z0 h0
  obtain ⟨A1, n1, c1, xs1, rfl, I1⟩ := ints_of Try.underlying33 Try.underlying3 (by kernel_rfl) (by kernel_rfl) (hval 1 33 v1 rfl rfl) (fun x hx => hlt x (by simp only [List.mem_append]; simp [hx])) z1 h1
  refine (walk D0 A0 n0 c0 ps0 I0 k0 A1 n1 c1 xs1 I1 (w := W)).mono fun e W' ⟨he, hb⟩ => ?_
  subst he
  exact hpost W' hb

theorem proved : Rows.SetHasSaid :=
  OpenClaim.holds_of_wide 4 Try.f4 rfl rfl rfl rfl rfl rfl rfl ⟨rfl, rfl, rfl, rfl, rfl⟩ rfl rfl rfl rfl rfl (by kernel_rfl) Try.func4 (by kernel_rfl)
    (of_decide_eq_true (by kernel_rfl)) (by unfold Func.isWrapper; first | (rw [if_pos (by decide +kernel)]; kernel_rfl) | (rw [if_neg (by decide +kernel)]; exact ⟨rfl, rfl⟩))
    (fun os started H enc _ => lifted os started H enc)
#print axioms proved
end Go.Proofs.Ytkgnlloioaobiaa.setHas
