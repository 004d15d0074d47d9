/-
  For all conditions c and all lists x of integers, CondHolds returns true and leaves memory as it was. No condition.
-/
import Derived.Test.YtbjkijifpikhkaaRows
import Derived.Test.YtbjkijifpikhkaaKit
import Derived.Test.YtbjkijifpikhkaaLinKit
import Derived.Test.YtbjkijifpikhkaaCondKit
import Derived.Test.YtbjkijifpikhkaaCondHolds
import Derived.Test.YtbjkijifpikhkaaCondAwake
import Derived.Test.YtbjkijifpikhkaaCondArgs
import Derived.Deep.RegionHeld3
set_option linter.unusedVariables false
namespace Go.Proofs.Ytbjkijifpikhkaa.condHolds
open Go.ChangeShapes Go.WideShapes Go.ChangeAt Go.RowKit

set_option maxHeartbeats 4000000 in
theorem walk (w : World) (q M : Int) (A : Option Addr) (n c : Nat) (K : Int) (xs : List Int) (h : IntsAt w A n xs) (_ : -9223372036854775808 ≤ q ∧ q ≤ 9223372036854775807) (_ : -9223372036854775808 ≤ M ∧ M ≤ 9223372036854775807) (_ : -9223372036854775808 ≤ K ∧ K ≤ 9223372036854775807) (A' : Option Addr) (n' c' : Nat) (ps : List Int) (h' : IntsAt w A' n' ps) :
    Calls Try.prog 3 #[condV q M A n c K, .slice A' n' c'] w fun e w' => e = .returned (.bool true) ∧ Below w.heap.size w w' := by
  have hB := below_alloc w (.cells #[.int .i64 q, .int .i64 M, .slice A n c, .int .i64 K] 26)
  have h1 := h.step hB
  have h2 := h'.step hB
  have B1 := CBox.new w q M A n c K
  obtain ⟨v, hv⟩ : ∃ v, hVal q M xs K ps = v := ⟨_, rfl⟩
  obtain ⟨er, he⟩ : ∃ v, hErr q M xs K ps = v := ⟨_, rfl⟩
  obtain ⟨vc, hvc⟩ : ∃ v, validC q M xs K = v := ⟨_, rfl⟩
  have HV := Lib.hid hv
  have HE := Lib.hid he
  have HC := Lib.hid hvc
  have g1 : (vc == vc) = true := by simp
  have g2 : (v == v) = true := by simp
  have g3 : (er == er) = true := by simp
  clear h h' hv he hvc
  go_enter Try.func3, Try.ntmps3
  go_wp2_with (first
    | (go_at_call 10; refine (cond_holds _ _ _ _ _ _ xs _ _ _ ps _ h1 h2).mono ?_; rintro e w1 ⟨rfl, hb⟩; rw [HV.out, HE.out]; replace h1 := h1.step hb; replace h2 := h2.step hb; replace B1 := B1.step hb; have c0 := B1.c0; have c1 := B1.c1; have c2 := B1.c2; have c3 := B1.c3; replace hB := below_step hB hb)
    | (go_at_call 11; refine (ref_holds _ _ _ _ _ _ xs _ _ _ ps _ h1 h2).mono ?_; rintro e w2 ⟨rfl, hb⟩; rw [HV.out, HE.out]; replace h1 := h1.step hb; replace h2 := h2.step hb; replace B1 := B1.step hb; have c0 := B1.c0; have c1 := B1.c1; have c2 := B1.c2; have c3 := B1.c3; replace hB := below_step hB hb; have l1 := B1.lt))
  replace hB := hB.drew
  replace h1 := h1.step (Below.refl _ _).drew
  replace B1 := B1.step (Below.refl _ _).drew
  go_region_held3 (fun W => W.cell? ⟨w.heap.size, 0, none⟩ = some (.int .i64 q) ∧ W.cell? ⟨w.heap.size, 1, none⟩ = some (.int .i64 M) ∧ W.cell? ⟨w.heap.size, 2, none⟩ = some (.slice A n c) ∧ W.cell? ⟨w.heap.size, 3, none⟩ = some (.int .i64 K)) (first | exact ⟨k0, k1, k2, k3⟩ | exact ⟨c0, c1, c2, c3⟩ | go_keep)
    (first
      | (go_at_call 12; refine (cond_valid _ _ _ _ _ _ xs _ h1).mono ?_; rintro e w3 ⟨rfl, hb⟩; rw [HC.out]; replace hB := below_step hB hb; replace h1 := h1.step hb; replace B1 := B1.step hb; have k0 := B1.c0; have k1 := B1.c1; have k2 := B1.c2; have k3 := B1.c3)
      | (go_at_call 13; refine (ref_cvalid _ _ _ _ _ _ xs _ h1).mono ?_; rintro e w4 ⟨rfl, hb⟩; rw [HC.out]; replace hB := below_step hB hb; replace h1 := h1.step hb; replace B1 := B1.step hb; have k0 := B1.c0; have k1 := B1.c1; have k2 := B1.c2; have k3 := B1.c3)
      | (go_at_call 14; refine (awake3 _).mono ?_; rintro e w5 ⟨rfl, hb⟩; replace hB := below_step hB hb; replace h1 := h1.step hb; replace B1 := B1.step hb; have k0 := B1.c0; have k1 := B1.c1; have k2 := B1.c2; have k3 := B1.c3))
  all_goals
    go_wp2
    go_ret
    exact ⟨rfl, hB⟩

set_option maxRecDepth 100000 in
theorem lifted (os : Os) (started : os.Started) (H : Type) (enc : TypeId × Value → H) :
    ReturnsInHanded {} Try.checked os 3 .any (Rows.condHoldsSpec.pre6 enc Try.prog Try.f3 Rows.condHoldsRow.domain false) (Rows.condHoldsSpec.post enc Try.prog Try.f3 false true false false) := by
  refine returnsInHanded_of_change_sized (C := Try.checked) own started (by kernel_rfl) Try.func3
    (ChangeSpec.witness6 (enc := enc) (C := Try.checked) false ⟨#[], #[.agg #[.int .i64 0, .int .i64 0, .slice none 0 0, .int .i64 0], .slice none 0 0], []⟩ 8 (by kernel_rfl) (by kernel_rfl) (by kernel_rfl) (by kernel_rfl)) ?_
  intro W base args ds gs before hval0 hW _ hsz0 _
  have hval : ∀ (j : Nat) t v, Try.f3.params[j]? = some t → args[j]? = some v → Value.okWide Try.prog W .any base t v := hval0
  have hW' := hW
  have hlt := hW.lt
  obtain ⟨p, q, hA0, hV, rfl, hfz, hnd⟩ := hW
  have hA : DataW.TrodAll enc Try.prog W 0 (fun _ => true) true Try.f3.params.toList args.toList ds p := hA0
  have hsz : (DataW.weightsEach Try.prog (Try.f3.params.toList ++ []) (ds ++ gs)).all (· ≤ reachBytes) = true := hsz0
  rw [Try.params3] at hA hval hsz
  obtain ⟨rfl, rfl⟩ := trodVars_none hV
  obtain ⟨v0, vs0, d0, ds0, p0, q0, hargs, rfl, rfl, h0, r0⟩ := trodAll_cons hA
  obtain ⟨v1, vs1, d1, ds1, p1, q1, rfl, rfl, rfl, h1, r1⟩ := trodAll_cons r0
  obtain ⟨rfl, rfl, rfl⟩ := trodAll_nil r1
  obtain rfl : args = #[v0, v1] := by cases args; simp_all
  obtain ⟨z0, hsz⟩ := weights_cons hsz
  obtain ⟨z1, hsz⟩ := weights_cons hsz
  have hpost : ∀ W' : World, Below W.heap.size W W' → ∃ v, Ending.returned (.bool true) = .returned v ∧ Rows.condHoldsSpec.post enc Try.prog Try.f3 false true false false W #[v0, v1] v W' :=
    fun W' hb => ⟨_, rfl, law_post laidOut (of_decide_eq_true (by kernel_rfl)) rfl rfl Try.underlying4 rfl hW' hb⟩
  obtain ⟨q0, M0, A0, n0, c0, K0, xs0, rfl, I0, C0, kq0, kM0, k0⟩ := cond_ofC (hval 0 26 v0 rfl rfl) (fun x hx => hlt x (by simp only [List.mem_append]; simp [hx])) z0 h0
  obtain ⟨A1, n1, c1, xs1, rfl, I1⟩ := ints_of Try.underlying22 Try.underlying3 (by kernel_rfl) (by kernel_rfl) (hval 1 22 v1 rfl rfl) (fun x hx => hlt x (by simp only [List.mem_append]; simp [hx])) z1 h1
  refine (walk q0 M0 A0 n0 c0 K0 xs0 I0 kq0 kM0 k0 A1 n1 c1 xs1 I1 (w := W)).mono fun e W' ⟨he, hb⟩ => ?_
  subst he
  exact hpost W' hb

theorem proved : Rows.CondHoldsSaid :=
  OpenClaim.holds_of_wide 3 Try.f3 rfl rfl rfl rfl rfl rfl rfl ⟨rfl, rfl, rfl, rfl, rfl⟩ rfl rfl rfl rfl rfl (by kernel_rfl) Try.func3 (by kernel_rfl)
    (of_decide_eq_true (by kernel_rfl)) (by unfold Func.isWrapper; first | (rw [if_pos (by decide +kernel)]; kernel_rfl) | (rw [if_neg (by decide +kernel)]; exact ⟨rfl, rfl⟩))
    (fun os started H enc _ => lifted os started H enc)
#print axioms proved
end Go.Proofs.Ytbjkijifpikhkaa.condHolds
