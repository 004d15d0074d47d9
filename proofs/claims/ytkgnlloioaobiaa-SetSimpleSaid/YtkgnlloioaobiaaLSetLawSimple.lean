/-
  For all lists of conditions p of the law's bounds and all n, SetSimple returns true and leaves memory as it was. No condition.
-/
import Derived.Test.YtkgnlloioaobiaaRows
import Derived.Test.YtkgnlloioaobiaaMh

set_option linter.unusedVariables false
set_option linter.unusedSimpArgs false
namespace Go.Proofs.Ytkgnlloioaobiaa.setSimple
open Go.ChangeShapes Go.WideShapes Go.ChangeAt Go.RowKit


set_option maxRecDepth 100000 in
set_option maxHeartbeats 8000000 in
theorem walk (w : World) (A : Option Addr) (m c : Nat) (els : List CEl) (h : CondsAt w A m els) (D : Int) (_ : -9223372036854775808 ≤ D) (_ : D ≤ 9223372036854775807) :
    Calls Try.prog 6 #[.slice A m c, .int .i64 D] w fun e w' => e = .returned (.bool true) ∧ Below w.heap.size w w' := by
  have hsm := h.small
  have hB := Below.refl w.heap.size w
  by_cases hm : 500 < m
  · have hm2 : (500 : Int) < m := by omega
    go_enter Try.func6, Try.ntmps6
    go_wp2_with (first
      | (go_at_call 11; refine (awake4 _).mono ?_; rintro e w9 ⟨rfl, hb⟩; replace hB := below_step hB hb))
    go_ret
    exact ⟨rfl, hB⟩
  · have hm2 : ¬ (500 : Int) < m := by omega
    have HS := Lib.hid (fun W (I : CondsAt W A m els) => set_simple A m c els D W I)
    have HR := Lib.hid (fun W (I : CondsAt W A m els) => ref_simple A m c els D W I)
    generalize simpleD D els = r at HS HR
    obtain ⟨rl, rv, re⟩ := r
    have g1 : (rv == rv) = true := by simp
    have g2 : (re == re) = true := by simp
    go_enter Try.func6, Try.ntmps6
    go_wp2_with (first
      | (go_at_call 25; refine (HS.out _ h).mono ?_; rintro e w1 ⟨A1, k1, c1, l1, rfl, L1, hd1, hn1, hb1⟩; obtain rfl : k1 = l1.length := L1.conds.1; have h1 := h.step hb1; replace hB := hB.trans hb1; clear hb1)
      | (go_at_call 26; refine (HR.out _ h1).mono ?_; rintro e w2 ⟨A2, k2, c2, l2, rfl, L2, hd2, hn2, hb2⟩; obtain rfl : k2 = l2.length := L2.conds.1; have C1 := L1.conds.2.step hb2; have HP := Lib.hid (piece_same (hd1.trans hd2.symm)); replace hB := below_step hB hb2; clear hb2 hn1 hn2 hd1 hd2)
      | (go_at_call 27; refine (same_piece A1 l1.length c1 l1 A2 l2.length c2 l2 _ C1 L2.conds.2).mono ?_; rintro e w3 ⟨rfl, hb3⟩; rw [HP.out]; replace hB := below_step hB hb3)
      | (go_at_call 11; refine (awake4 _).mono ?_; rintro e w9 ⟨rfl, hb⟩; replace hB := below_step hB hb))
    go_ret
    exact ⟨rfl, hB⟩

set_option maxRecDepth 100000 in
theorem lifted (os : Os) (started : os.Started) (H : Type) (enc : TypeId × Value → H) :
    ReturnsInHanded {} Try.checked os 6 .any (Rows.setSimpleSpec.pre6 enc Try.prog Try.f6 Rows.setSimpleRow.domain false) (Rows.setSimpleSpec.post enc Try.prog Try.f6 false true false false) := by
  refine returnsInHanded_of_change_sized (C := Try.checked) own started (by kernel_rfl) Try.func6
    (ChangeSpec.witness6 (enc := enc) (C := Try.checked) false ⟨#[], #[.slice none 0 0, .int .i64 0], []⟩ 8 (by kernel_rfl) (by kernel_rfl) (by kernel_rfl) (by kernel_rfl)) ?_
  intro W base args ds gs before hval0 hW _ hsz0 _
  have hval : ∀ (j : Nat) t v, Try.f6.params[j]? = some t → args[j]? = some v → Value.okWide Try.prog W .any base t v := hval0
  have hW' := hW
  have hlt := hW.lt
  obtain ⟨p, q, hA0, hV, rfl, hfz, hnd⟩ := hW
  have hA : DataW.TrodAll enc Try.prog W 0 (fun _ => true) true Try.f6.params.toList args.toList ds p := hA0
  have hsz : (DataW.weightsEach Try.prog (Try.f6.params.toList ++ []) (ds ++ gs)).all (· ≤ reachBytes) = true := hsz0
  rw [Try.params6] at hA hval hsz
  obtain ⟨rfl, rfl⟩ := trodVars_none hV
  obtain ⟨v0, vs0, d0, ds0, p0, q0, hargs, rfl, rfl, h0, r0⟩ := trodAll_cons hA
  obtain ⟨v1, vs1, d1, ds1, p1, q1, rfl, rfl, rfl, h1, r1⟩ := trodAll_cons r0
  obtain ⟨rfl, rfl, rfl⟩ := trodAll_nil r1
  obtain rfl : args = #[v0, v1] := by cases args; simp_all
  obtain ⟨z0, hsz⟩ := weights_cons hsz
  obtain ⟨z1, hsz⟩ := weights_cons hsz
  have hpost : ∀ W' : World, Below W.heap.size W W' → ∃ v, Ending.returned (.bool true) = .returned v ∧ Rows.setSimpleSpec.post enc Try.prog Try.f6 false true false false W #[v0, v1] v W' :=
    fun W' hb => ⟨_, rfl, law_post laidOut (of_decide_eq_true (by kernel_rfl)) rfl rfl Try.underlying4 rfl hW' hb⟩
  obtain ⟨A0, n0, c0, els0, rfl, I0⟩ := conds_of (hval 0 40 v0 rfl rfl) (fun x hx => hlt x (by simp only [List.mem_append]; simp [hx])) z0 h0
  obtain ⟨a1, rfl, rfl, rfl, w1⟩ := open_int Try.underlying3 (hval 1 3 v1 rfl rfl) h1
  have b1 := bounds_i64 w1
  refine (walk A0 n0 c0 els0 I0 a1 b1.1 b1.2 (w := W)).mono fun e W' ⟨he, hb⟩ => ?_
  subst he
  exact hpost W' hb

theorem proved : Rows.SetSimpleSaid :=
  OpenClaim.holds_of_wide 6 Try.f6 rfl rfl rfl rfl rfl rfl rfl ⟨rfl, rfl, rfl, rfl, rfl⟩ rfl rfl rfl rfl rfl (by kernel_rfl) Try.func6 (by kernel_rfl)
    (of_decide_eq_true (by kernel_rfl)) (by unfold Func.isWrapper; first | (rw [if_pos (by decide +kernel)]; kernel_rfl) | (rw [if_neg (by decide +kernel)]; exact ⟨rfl, rfl⟩))
    (fun os started H enc _ => lifted os started H enc)
#print axioms proved
end Go.Proofs.Ytkgnlloioaobiaa.setSimple
