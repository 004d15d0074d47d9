/-
  For all conditions c, CondNormal returns true and leaves memory as it was. No condition.
-/
import Derived.Test.YtbjkijifpikhkaaRows
import Derived.Test.YtbjkijifpikhkaaKit
import Derived.Test.YtbjkijifpikhkaaLinKit
import Derived.Test.YtbjkijifpikhkaaCondKit
import Derived.Test.YtbjkijifpikhkaaCondMadeAll
import Derived.Test.YtbjkijifpikhkaaCondAwake
import Derived.Test.YtbjkijifpikhkaaCondArgs
set_option linter.unusedVariables false
namespace Go.Proofs.Ytbjkijifpikhkaa.condNormal
open Go.ChangeShapes Go.WideShapes Go.ChangeAt Go.RowKit

set_option maxHeartbeats 4000000 in
theorem walk (w : World) (q M : Int) (A : Option Addr) (n c : Nat) (K : Int) (xs : List Int) (h : IntsAt w A n xs) (_ : -9223372036854775808 ≤ q ∧ q ≤ 9223372036854775807) (_ : -9223372036854775808 ≤ M ∧ M ≤ 9223372036854775807) (_ : -9223372036854775808 ≤ K ∧ K ≤ 9223372036854775807) :
    Calls Try.prog 4 #[condV q M A n c K] w fun e w' => e = .returned (.bool true) ∧ Below w.heap.size w w' := by
  have hB := below_alloc w (.cells #[.int .i64 q, .int .i64 M, .slice A n c, .int .i64 K] 26)
  have h1 := h.step hB
  have B1 := CBox.new w q M A n c K
  obtain ⟨r, hr⟩ : ∃ r, nfV q M n xs K = r := ⟨_, rfl⟩
  obtain ⟨er, he⟩ : ∃ v, nfE q M xs K = v := ⟨_, rfl⟩
  have HN := Lib.hid (fun W (h : IntsAt W A n xs) => cond_normal q M A n c K xs W h)
  have HM := Lib.hid (fun W (h : IntsAt W A n xs) => ref_normal q M A n c K xs W h)
  rw [hr, he] at HN HM
  clear h hr he
  have g3 : (er == er) = true := by simp
  have g4 : (r.2.2.2.2 == r.2.2.2.2) = true := by simp
  go_enter Try.func4, Try.ntmps4
  go_wp2_with (first
    | (go_at_call 15; refine (HN.out _ h1).mono ?_; rintro e w1 ⟨A1, n1, c1, rfl, J1, hb, _⟩; have b5 := below_alloc w1 (.cells #[.int .i64 r.1, .int .i64 r.2.1, .slice A1 n1 c1, .int .i64 r.2.2.2.1] 26); replace hB := below_step (below_step hB hb) b5; replace h1 := (h1.step hb).step b5; replace B1 := (B1.step hb).step b5; replace J1 := J1.step b5; have X1 := CBox.new w1 r.1 r.2.1 A1 n1 c1 r.2.2.2.1; have c0 := B1.c0; have c1 := B1.c1; have c2 := B1.c2; have c3 := B1.c3; clear b5)
    | (go_at_call 16; refine (HM.out _ h1).mono ?_; rintro e w2 ⟨A2, n2, c2, rfl, J2, hb, _⟩; have b5 := below_alloc w2 (.cells #[.int .i64 r.1, .int .i64 r.2.1, .slice A2 n2 c2, .int .i64 r.2.2.2.1] 26); replace hB := below_step (below_step hB hb) b5; replace J1 := (J1.step hb).step b5; replace X1 := (X1.step hb).step b5; replace J2 := J2.step b5; have X2 := CBox.new w2 r.1 r.2.1 A2 n2 c2 r.2.2.2.1; have c0 := X1.c0; have c1 := X1.c1; have c2 := X1.c2; have c3 := X1.c3; have d0 := X2.c0; have d1 := X2.c1; have d2 := X2.c2; have d3 := X2.c3; clear b5)
    | (go_at_call 17; refine (cond_same _ _ _ _ _ _ r.2.2.1 _ _ _ _ _ _ r.2.2.1 _ J1 J2).mono ?_; rintro e w3 ⟨rfl, hb⟩; rw [sameC_self]; replace hB := below_step hB hb)
    | (go_at_call 14; refine (awake3 _).mono ?_; rintro e w4 ⟨rfl, hb⟩; replace hB := below_step hB hb))
  go_ret
  exact ⟨rfl, hB⟩

set_option maxRecDepth 100000 in
theorem lifted (os : Os) (started : os.Started) (H : Type) (enc : TypeId × Value → H) :
    ReturnsInHanded {} Try.checked os 4 .any (Rows.condNormalSpec.pre6 enc Try.prog Try.f4 Rows.condNormalRow.domain false) (Rows.condNormalSpec.post enc Try.prog Try.f4 false true false false) := by
  refine returnsInHanded_of_change_sized (C := Try.checked) own started (by kernel_rfl) Try.func4
    (ChangeSpec.witness6 (enc := enc) (C := Try.checked) false ⟨#[], #[.agg #[.int .i64 0, .int .i64 0, .slice none 0 0, .int .i64 0]], []⟩ 8 (by kernel_rfl) (by kernel_rfl) (by kernel_rfl) (by kernel_rfl)) ?_
  intro W base args ds gs before hval0 hW _ hsz0 _
  have hval : ∀ (j : Nat) t v, Try.f4.params[j]? = some t → args[j]? = some v → Value.okWide Try.prog W .any base t v := hval0
  have hW' := hW
  have hlt := hW.lt
  obtain ⟨p, q, hA0, hV, rfl, hfz, hnd⟩ := hW
  have hA : DataW.TrodAll enc Try.prog W 0 (fun _ => true) true Try.f4.params.toList args.toList ds p := hA0
  have hsz : (DataW.weightsEach Try.prog (Try.f4.params.toList ++ []) (ds ++ gs)).all (· ≤ reachBytes) = true := hsz0
  rw [Try.params4] at hA hval hsz
  obtain ⟨rfl, rfl⟩ := trodVars_none hV
  obtain ⟨v0, vs0, d0, ds0, p0, q0, hargs, rfl, rfl, h0, r0⟩ := trodAll_cons hA
  obtain ⟨rfl, rfl, rfl⟩ := trodAll_nil r0
  obtain rfl : args = #[v0] := by cases args; simp_all
  obtain ⟨z0, hsz⟩ := weights_cons hsz
  have hpost : ∀ W' : World, Below W.heap.size W W' → ∃ v, Ending.returned (.bool true) = .returned v ∧ Rows.condNormalSpec.post enc Try.prog Try.f4 false true false false W #[v0] v W' :=
    fun W' hb => ⟨_, rfl, law_post laidOut (of_decide_eq_true (by kernel_rfl)) rfl rfl Try.underlying4 rfl hW' hb⟩
  obtain ⟨q0, M0, A0, n0, c0, K0, xs0, rfl, I0, C0, kq0, kM0, k0⟩ := cond_ofC (hval 0 26 v0 rfl rfl) (fun x hx => hlt x (by simp only [List.mem_append]; simp [hx])) z0 h0
  refine (walk q0 M0 A0 n0 c0 K0 xs0 I0 kq0 kM0 k0 (w := W)).mono fun e W' ⟨he, hb⟩ => ?_
  subst he
  exact hpost W' hb

theorem proved : Rows.CondNormalSaid :=
  OpenClaim.holds_of_wide 4 Try.f4 rfl rfl rfl rfl rfl rfl rfl ⟨rfl, rfl, rfl, rfl, rfl⟩ rfl rfl rfl rfl rfl (by kernel_rfl) Try.func4 (by kernel_rfl)
    (of_decide_eq_true (by kernel_rfl)) (by unfold Func.isWrapper; first | (rw [if_pos (by decide +kernel)]; kernel_rfl) | (rw [if_neg (by decide +kernel)]; exact ⟨rfl, rfl⟩))
    (fun os started H enc _ => lifted os started H enc)
#print axioms proved
end Go.Proofs.Ytbjkijifpikhkaa.condNormal
