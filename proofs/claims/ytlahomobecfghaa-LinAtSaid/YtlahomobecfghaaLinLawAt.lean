/-
  For all expressions l and all lists x of integers, LinAt returns true and leaves memory as it was. No condition.
-/
import Derived.Test.YtlahomobecfghaaRows
import Derived.Test.YtlahomobecfghaaKit
import Derived.Test.YtlahomobecfghaaLinKit
import Derived.Test.YtlahomobecfghaaLinBase
import Derived.Test.YtlahomobecfghaaLinPoint
import Derived.Test.YtlahomobecfghaaLinAwake
import Derived.Test.YtlahomobecfghaaLinArgs
set_option linter.unusedVariables false
namespace Go.Proofs.Ytlahomobecfghaa.linAt
open Go.ChangeShapes Go.WideShapes Go.ChangeAt Go.RowKit

theorem walk (w : World) (A : Option Addr) (n c : Nat) (K : Int) (xs : List Int) (h : IntsAt w A n xs) (hK : -9223372036854775808 ≤ K ∧ K ≤ 9223372036854775807) (A' : Option Addr) (n' c' : Nat) (ps : List Int) (h' : IntsAt w A' n' ps) :
    Calls Try.prog 14 #[.agg #[.slice A n c, .int .i64 K], .slice A' n' c'] w fun e w' => e = .returned (.bool true) ∧ Below w.heap.size w w' := by
  have hB0 := below_alloc w (.cells #[.slice A n c, .int .i64 K] 38)
  have h1 := h.step hB0
  have h2 := h'.step hB0
  have B1 := LBox.new w A n c K
  clear h h'
  go_enter Try.func14, Try.ntmps14
  go_wp2_with (first
    | (go_at_call 48; refine (lin_at _ _ _ _ xs _ _ _ ps _ h1 h2).mono ?_; rintro e w1 ⟨rfl, hb⟩; replace h1 := h1.step hb; replace h2 := h2.step hb; replace B1 := B1.step hb; have c0 := B1.c0; have c1 := B1.c1; replace hB0 := below_step hB0 hb)
    | (go_at_call 49; refine (ref_at _ _ _ _ xs _ _ _ ps _ h1 h2).mono ?_; rintro e w2 ⟨rfl, hb⟩; replace hB0 := below_step hB0 hb)
    | (go_at_call 41; refine (awake2 _).mono ?_; rintro e w3 ⟨rfl, hb⟩; replace hB0 := below_step hB0 hb))
  go_ret
  exact ⟨rfl, hB0⟩

set_option maxRecDepth 100000 in
theorem lifted (os : Os) (started : os.Started) (H : Type) (enc : TypeId × Value → H) :
    ReturnsInHanded {} Try.checked os 14 .any (Rows.linAtSpec.pre6 enc Try.prog Try.f14 Rows.linAtRow.domain false) (Rows.linAtSpec.post enc Try.prog Try.f14 false true false false) := by
  refine returnsInHanded_of_change_sized (C := Try.checked) own started (by kernel_rfl) Try.func14
    (ChangeSpec.witness6 (enc := enc) (C := Try.checked) false ⟨#[], #[.agg #[.slice none 0 0, .int .i64 0], .slice none 0 0], []⟩ 8 (by kernel_rfl) (by kernel_rfl) (by kernel_rfl) (by kernel_rfl)) ?_
  intro W base args ds gs before hval0 hW _ hsz0 _
  have hval : ∀ (j : Nat) t v, Try.f14.params[j]? = some t → args[j]? = some v → Value.okWide Try.prog W .any base t v := hval0
  have hW' := hW
  have hlt := hW.lt
  obtain ⟨p, q, hA0, hV, rfl, hfz, hnd⟩ := hW
  have hA : DataW.TrodAll enc Try.prog W 0 (fun _ => true) true Try.f14.params.toList args.toList ds p := hA0
  have hsz : (DataW.weightsEach Try.prog (Try.f14.params.toList ++ []) (ds ++ gs)).all (· ≤ reachBytes) = true := hsz0
  rw [Try.params14] at hA hval hsz
  obtain ⟨rfl, rfl⟩ := trodVars_none hV
  obtain ⟨v0, vs0, d0, ds0, p0, q0, hargs, rfl, rfl, h0, r0⟩ := trodAll_cons hA
  obtain ⟨v1, vs1, d1, ds1, p1, q1, rfl, rfl, rfl, h1, r1⟩ := trodAll_cons r0
  obtain ⟨rfl, rfl, rfl⟩ := trodAll_nil r1
  obtain rfl : args = #[v0, v1] := by cases args; simp_all
  obtain ⟨z0, hsz⟩ := weights_cons hsz
  obtain ⟨z1, hsz⟩ := weights_cons hsz
  have hpost : ∀ W' : World, Below W.heap.size W W' → ∃ v, Ending.returned (.bool true) = .returned v ∧ Rows.linAtSpec.post enc Try.prog Try.f14 false true false false W #[v0, v1] v W' :=
    fun W' hb => ⟨_, rfl, law_post laidOut (of_decide_eq_true (by kernel_rfl)) rfl rfl Try.underlying4 rfl hW' hb⟩
  obtain ⟨A0, n0, c0, K0, xs0, rfl, I0, k0⟩ := lin_of (hval 0 38 v0 rfl rfl) (fun x hx => hlt x (by simp only [List.mem_append]; simp [hx])) z0 h0
  obtain ⟨A1, n1, c1, xs1, rfl, I1⟩ := ints_of Try.underlying27 Try.underlying3 (by kernel_rfl) (by kernel_rfl) (hval 1 27 v1 rfl rfl) (fun x hx => hlt x (by simp only [List.mem_append]; simp [hx])) z1 h1
  refine (walk A0 n0 c0 K0 xs0 I0 k0 A1 n1 c1 xs1 I1 (w := W)).mono fun e W' ⟨he, hb⟩ => ?_
  subst he
  exact hpost W' hb

theorem proved : Rows.LinAtSaid :=
  OpenClaim.holds_of_wide 14 Try.f14 rfl rfl rfl rfl rfl rfl rfl ⟨rfl, rfl, rfl, rfl, rfl⟩ rfl rfl rfl rfl rfl (by kernel_rfl) Try.func14 (by kernel_rfl)
    (of_decide_eq_true (by kernel_rfl)) (by unfold Func.isWrapper; first | (rw [if_pos (by decide +kernel)]; kernel_rfl) | (rw [if_neg (by decide +kernel)]; exact ⟨rfl, rfl⟩))
    (fun os started H enc _ => lifted os started H enc)
#print axioms proved
end Go.Proofs.Ytlahomobecfghaa.linAt
