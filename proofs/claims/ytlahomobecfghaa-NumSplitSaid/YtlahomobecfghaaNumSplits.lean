/-
  For all integers a and b, NumSplits and NumSplit return true and leave memory as it was. No condition.
-/
import Derived.Test.YtlahomobecfghaaRows
import Derived.Test.YtlahomobecfghaaKit
import Derived.Test.YtlahomobecfghaaNumBase
import Derived.Test.YtlahomobecfghaaNumGcd
import Derived.Test.YtlahomobecfghaaNumRef
import Derived.Test.YtlahomobecfghaaNumSplit
set_option linter.unusedVariables false
namespace Go.Proofs.Ytlahomobecfghaa.numSplits
open Go.ChangeShapes Go.WideShapes Go.ChangeAt Go.RowKit

theorem walk (a : Int) (wa : -9223372036854775808 ≤ a) (wa' : a ≤ 9223372036854775807) (b : Int) (wb : -9223372036854775808 ≤ b) (wb' : b ≤ 9223372036854775807) (w : World) :
    Calls Try.prog 7 #[.int .i64 a, .int .i64 b] w fun e w' => e = .returned (.bool true) ∧ Below w.heap.size w w' := by
  by_cases hf : fitsB a = true ∧ fitsB b = true
  · by_cases hb : b = 0
    · subst hb
      have ga := hf.1
      have hlow : ∀ k w', Below (w.drewN k).heap.size (w.drewN k) w' → Below w.heap.size w w' := fun k w' h => (below_of_drewN k).trans h
      clear hf
      go_enter Try.func7, Try.ntmps7
      go_wp2_with (first
        | (go_at_call 32; refine (num_split_zero _ ga _).mono ?_; rintro e w' ⟨rfl, k, rfl⟩)
        | (go_at_call 33; refine (ref_split_zero _ ga _).mono ?_; rintro e w' ⟨rfl, hw⟩)
        | (go_at_call 21; refine (awake1 _).mono ?_; rintro e w' ⟨rfl, k, rfl⟩))
      go_ret
      exact ⟨rfl, (hlow _ _ (by assumption)).trans ((below_of_drewN _).mono (hlow _ _ (by assumption)).size)⟩
    · obtain ⟨x, hx⟩ := split_exists a b hb
      have HX := Lib.hid hx
      have ga := hf.1
      have gb := hf.2
      have hlow : ∀ k w', Below (w.drewN k).heap.size (w.drewN k) w' → Below w.heap.size w w' := fun k w' h => (below_of_drewN k).trans h
      clear hf hx
      go_enter Try.func7, Try.ntmps7
      go_wp2_with (first
        | (go_at_call 32; refine (num_split_main _ _ _ _ HX.out hb ga gb _).mono ?_; rintro e w' ⟨rfl, k, rfl⟩)
        | (go_at_call 33; refine (ref_split_main _ _ _ _ HX.out hb ga gb _).mono ?_; rintro e w' ⟨rfl, hw⟩)
        | (go_at_call 21; refine (awake1 _).mono ?_; rintro e w' ⟨rfl, k, rfl⟩))
      go_ret
      exact ⟨rfl, (hlow _ _ (by assumption)).trans ((below_of_drewN _).mono (hlow _ _ (by assumption)).size)⟩
  · go_enter Try.func7, Try.ntmps7
    go_wp2_with (first
      | (go_at_call 32; refine (num_split_bad _ _ hf _).mono ?_; rintro e w' ⟨rfl, k, rfl⟩)
      | (go_at_call 33; refine (headlandref01_split_bad _ _ hf _).mono ?_; rintro e w' ⟨rfl, k, rfl⟩)
      | (go_at_call 21; refine (awake1 _).mono ?_; rintro e w' ⟨rfl, k, rfl⟩))
    go_ret
    exact ⟨rfl, by first | exact below_of_drewN _ | (simp only [World.drewN_drewN]; exact below_of_drewN _)⟩

set_option maxRecDepth 100000 in
theorem lifted (os : Os) (started : os.Started) (H : Type) (enc : TypeId × Value → H) :
    ReturnsInHanded {} Try.checked os 7 .any (Rows.numSplitsSpec.pre6 enc Try.prog Try.f7 Rows.numSplitsRow.domain false) (Rows.numSplitsSpec.post enc Try.prog Try.f7 false true false false) := by
  refine returnsInHanded_of_change_sized (C := Try.checked) own started (by kernel_rfl) Try.func7
    (ChangeSpec.witness6 (enc := enc) (C := Try.checked) false ⟨#[], #[.int .i64 0, .int .i64 0], []⟩ 8 (by kernel_rfl) (by kernel_rfl) (by kernel_rfl) (by kernel_rfl)) ?_
  intro W base args ds gs before hval0 hW _ hsz0 _
  have hval : ∀ (j : Nat) t v, Try.f7.params[j]? = some t → args[j]? = some v → Value.okWide Try.prog W .any base t v := hval0
  have hW' := hW
  have hlt := hW.lt
  obtain ⟨p, q, hA0, hV, rfl, hfz, hnd⟩ := hW
  have hA : DataW.TrodAll enc Try.prog W 0 (fun _ => true) true Try.f7.params.toList args.toList ds p := hA0
  have hsz : (DataW.weightsEach Try.prog (Try.f7.params.toList ++ []) (ds ++ gs)).all (· ≤ reachBytes) = true := hsz0
  rw [Try.params7] at hA hval hsz
  obtain ⟨rfl, rfl⟩ := trodVars_none hV
  obtain ⟨v0, vs0, d0, ds0, p0, q0, hargs, rfl, rfl, h0, r0⟩ := trodAll_cons hA
  obtain ⟨v1, vs1, d1, ds1, p1, q1, rfl, rfl, rfl, h1, r1⟩ := trodAll_cons r0
  obtain ⟨rfl, rfl, rfl⟩ := trodAll_nil r1
  obtain rfl : args = #[v0, v1] := by cases args; simp_all
  obtain ⟨z0, hsz⟩ := weights_cons hsz
  obtain ⟨z1, hsz⟩ := weights_cons hsz
  have hpost : ∀ W' : World, Below W.heap.size W W' → ∃ v, Ending.returned (.bool true) = .returned v ∧ Rows.numSplitsSpec.post enc Try.prog Try.f7 false true false false W #[v0, v1] v W' :=
    fun W' hb => ⟨_, rfl, law_post laidOut (of_decide_eq_true (by kernel_rfl)) rfl rfl Try.underlying4 rfl hW' hb⟩
  obtain ⟨a0, rfl, rfl, rfl, w0⟩ := open_int Try.underlying3 (hval 0 3 v0 rfl rfl) h0
  have b0 := bounds_i64 w0
  obtain ⟨a1, rfl, rfl, rfl, w1⟩ := open_int Try.underlying3 (hval 1 3 v1 rfl rfl) h1
  have b1 := bounds_i64 w1
  refine (walk a0 b0.1 b0.2 a1 b1.1 b1.2 (w := W)).mono fun e W' ⟨he, hb⟩ => ?_
  subst he
  exact hpost W' hb

theorem proved : Rows.NumSplitsSaid :=
  OpenClaim.holds_of_wide 7 Try.f7 rfl rfl rfl rfl rfl rfl rfl ⟨rfl, rfl, rfl, rfl, rfl⟩ rfl rfl rfl rfl rfl (by kernel_rfl) Try.func7 (by kernel_rfl)
    (of_decide_eq_true (by kernel_rfl)) (by unfold Func.isWrapper; first | (rw [if_pos (by decide +kernel)]; kernel_rfl) | (rw [if_neg (by decide +kernel)]; exact ⟨rfl, rfl⟩))
    (fun os started H enc _ => lifted os started H enc)
#print axioms proved
end Go.Proofs.Ytlahomobecfghaa.numSplits

namespace Go.Proofs.Ytlahomobecfghaa.numSplit
open Go.ChangeShapes Go.WideShapes Go.ChangeAt Go.RowKit

/-- What the statement asks of an answer. -/
theorem asks {a b x : Int} {g : Nat} (h : IsSplit a b g x) (hb : b ≠ 0) (ha : a.natAbs ≤ 1048576) (hb1 : b.natAbs ≤ 1048576) :
    wrap64 (wrap64 (a * x) + wrap64 (b * ((g : Int) - a * x).tdiv b)) = g ∧ a.tmod g = 0 ∧ b.tmod g = 0 ∧ (0 < b → x < b / g) ∧ (b < 0 → x < wrap64 (-b.tdiv g)) := by
  have hg : 0 < g := h.gcd ▸ gcd_pos hb
  have ga : (g : Int) ∣ a := Int.ofNat_dvd_left.2 (h.gcd ▸ Nat.gcd_dvd_left _ _)
  have gb : (g : Int) ∣ b := Int.ofNat_dvd_left.2 (h.gcd ▸ Nat.gcd_dvd_right _ _)
  have e : b * ((g : Int) - a * x).tdiv b = (g : Int) - a * x := Int.mul_tdiv_cancel' h.dvd
  have hbd := split_bd h ha hb1
  have hgb : g ≤ b.natAbs := Nat.le_of_dvd (by omega) (h.gcd ▸ Nat.gcd_dvd_right _ _)
  have hhi := h.hi
  refine ⟨?_, Int.tmod_eq_zero_of_dvd ga, Int.tmod_eq_zero_of_dvd gb, fun hp => ?_, fun hp => ?_⟩
  · rw [e]
    generalize a * x = m at *
    rw [IntWalk.wrap64_in m (by omega), IntWalk.wrap64_in ((g : Int) - m) (by omega)]
    rw [IntWalk.wrap64_in _ (by omega)]; omega
  · have e2 : (b.natAbs : Int) = b := by omega
    have hle : b.natAbs / g ≤ b.natAbs := Nat.div_le_self _ _
    have e3 : b / (g : Int) = ((b.natAbs / g : Nat) : Int) := by rw [Int.natCast_ediv, e2]
    rw [e3]; exact hhi
  · have e2 : (b.natAbs : Int) = -b := by omega
    have hle : b.natAbs / g ≤ b.natAbs := Nat.div_le_self _ _
    have e3 : -b.tdiv (g : Int) = ((b.natAbs / g : Nat) : Int) := by rw [← Int.neg_tdiv, Int.natCast_ediv, e2, Int.tdiv_eq_ediv_of_nonneg (by omega)]
    rw [e3]
    generalize b.natAbs / g = d at *
    rw [IntWalk.wrap64_in _ (by omega)]; exact hhi

theorem walk (a : Int) (wa : -9223372036854775808 ≤ a) (wa' : a ≤ 9223372036854775807) (b : Int) (wb : -9223372036854775808 ≤ b) (wb' : b ≤ 9223372036854775807) (w : World) :
    Calls Try.prog 11 #[.int .i64 a, .int .i64 b] w fun e w' => e = .returned (.bool true) ∧ Below w.heap.size w w' := by
  by_cases hf : fitsB a = true ∧ fitsB b = true
  · have ga := hf.1
    have gb := hf.2
    have ha1 := fitsB_true.1 ga
    have hb1 := fitsB_true.1 gb
    clear hf
    by_cases hb : b = 0
    · subst hb
      have hs : a * a.sign = a.natAbs := Int.mul_sign_self a
      have hs1 : wrap64 (a * a.sign) = a.natAbs := by rw [hs]; exact IntWalk.wrap64_in _ (by omega)
      have hc : (0 ≤ a ∧ (a.natAbs : Int) = a) ∨ (a < 0 ∧ (a.natAbs : Int) = -a) := by omega
      rcases hc with ⟨h0, h1⟩ | ⟨h0, h1⟩
      all_goals
        go_enter Try.func11, Try.ntmps11
        go_wp2_with (first
          | (go_at_call 32; refine (num_split_zero _ ga _).mono ?_; rintro e w' ⟨rfl, k, rfl⟩)
          | (go_at_call 27; refine (headlandref01_fits _ _).mono ?_; rintro e w' ⟨rfl, rfl⟩)
          | (go_at_call 21; refine (awake1 _).mono ?_; rintro e w' ⟨rfl, k, rfl⟩))
        go_ret
        exact ⟨rfl, by first | exact below_of_drewN _ | (simp only [World.drewN_drewN]; exact below_of_drewN _)⟩
    · obtain ⟨x, hx⟩ := split_exists a b hb
      obtain ⟨q1, q2, q3, q4, q5⟩ := asks hx hb (by omega) (by omega)
      have hg0 : (0 : Int) < (Nat.gcd a.natAbs b.natAbs : Nat) := by have := gcd_pos (a := a) hb; omega
      have hlo := hx.lo
      have HX := Lib.hid hx
      have hbz : (b == 0) = false := by simpa using hb
      clear hx
      generalize Nat.gcd a.natAbs b.natAbs = g at *
      rcases (show (b < 0 ∧ -b > b) ∨ (0 < b ∧ ¬ -b > b) by omega) with ⟨h0, h1⟩ | ⟨h0, h1⟩
      · have q := q5 h0
        clear q4 q5
        go_enter Try.func11, Try.ntmps11
        go_wp2_with (first
          | (go_at_call 32; refine (num_split_main _ _ _ _ HX.out hb ga gb _).mono ?_; rintro e w' ⟨rfl, k, rfl⟩)
          | (go_at_call 27; refine (headlandref01_fits _ _).mono ?_; rintro e w' ⟨rfl, rfl⟩)
          | (go_at_call 21; refine (awake1 _).mono ?_; rintro e w' ⟨rfl, k, rfl⟩))
        go_ret
        exact ⟨rfl, by first | exact below_of_drewN _ | (simp only [World.drewN_drewN]; exact below_of_drewN _)⟩
      · have q := q4 h0
        clear q4 q5
        go_enter Try.func11, Try.ntmps11
        go_wp2_with (first
          | (go_at_call 32; refine (num_split_main _ _ _ _ HX.out hb ga gb _).mono ?_; rintro e w' ⟨rfl, k, rfl⟩)
          | (go_at_call 27; refine (headlandref01_fits _ _).mono ?_; rintro e w' ⟨rfl, rfl⟩)
          | (go_at_call 21; refine (awake1 _).mono ?_; rintro e w' ⟨rfl, k, rfl⟩))
        go_ret
        exact ⟨rfl, by first | exact below_of_drewN _ | (simp only [World.drewN_drewN]; exact below_of_drewN _)⟩
  · have hcase : fitsB a = false ∨ (fitsB a = true ∧ fitsB b = false) := by
      cases h1 : fitsB a <;> cases h2 : fitsB b <;> simp_all
    rcases hcase with g1 | ⟨g1, g2⟩
    all_goals
      have HF := Lib.hid hf
      clear hf
      go_enter Try.func11, Try.ntmps11
      go_wp2_with (first
        | (go_at_call 32; refine (num_split_bad _ _ HF.out _).mono ?_; rintro e w' ⟨rfl, k, rfl⟩)
        | (go_at_call 27; refine (headlandref01_fits _ _).mono ?_; rintro e w' ⟨rfl, rfl⟩)
        | (go_at_call 21; refine (awake1 _).mono ?_; rintro e w' ⟨rfl, k, rfl⟩))
      go_ret
      exact ⟨rfl, by first | exact below_of_drewN _ | (simp only [World.drewN_drewN]; exact below_of_drewN _)⟩

set_option maxRecDepth 100000 in
theorem lifted (os : Os) (started : os.Started) (H : Type) (enc : TypeId × Value → H) :
    ReturnsInHanded {} Try.checked os 11 .any (Rows.numSplitSpec.pre6 enc Try.prog Try.f11 Rows.numSplitRow.domain false) (Rows.numSplitSpec.post enc Try.prog Try.f11 false true false false) := by
  refine returnsInHanded_of_change_sized (C := Try.checked) own started (by kernel_rfl) Try.func11
    (ChangeSpec.witness6 (enc := enc) (C := Try.checked) false ⟨#[], #[.int .i64 0, .int .i64 0], []⟩ 8 (by kernel_rfl) (by kernel_rfl) (by kernel_rfl) (by kernel_rfl)) ?_
  intro W base args ds gs before hval0 hW _ hsz0 _
  have hval : ∀ (j : Nat) t v, Try.f11.params[j]? = some t → args[j]? = some v → Value.okWide Try.prog W .any base t v := hval0
  have hW' := hW
  have hlt := hW.lt
  obtain ⟨p, q, hA0, hV, rfl, hfz, hnd⟩ := hW
  have hA : DataW.TrodAll enc Try.prog W 0 (fun _ => true) true Try.f11.params.toList args.toList ds p := hA0
  have hsz : (DataW.weightsEach Try.prog (Try.f11.params.toList ++ []) (ds ++ gs)).all (· ≤ reachBytes) = true := hsz0
  rw [Try.params11] at hA hval hsz
  obtain ⟨rfl, rfl⟩ := trodVars_none hV
  obtain ⟨v0, vs0, d0, ds0, p0, q0, hargs, rfl, rfl, h0, r0⟩ := trodAll_cons hA
  obtain ⟨v1, vs1, d1, ds1, p1, q1, rfl, rfl, rfl, h1, r1⟩ := trodAll_cons r0
  obtain ⟨rfl, rfl, rfl⟩ := trodAll_nil r1
  obtain rfl : args = #[v0, v1] := by cases args; simp_all
  obtain ⟨z0, hsz⟩ := weights_cons hsz
  obtain ⟨z1, hsz⟩ := weights_cons hsz
  have hpost : ∀ W' : World, Below W.heap.size W W' → ∃ v, Ending.returned (.bool true) = .returned v ∧ Rows.numSplitSpec.post enc Try.prog Try.f11 false true false false W #[v0, v1] v W' :=
    fun W' hb => ⟨_, rfl, law_post laidOut (of_decide_eq_true (by kernel_rfl)) rfl rfl Try.underlying4 rfl hW' hb⟩
  obtain ⟨a0, rfl, rfl, rfl, w0⟩ := open_int Try.underlying3 (hval 0 3 v0 rfl rfl) h0
  have b0 := bounds_i64 w0
  obtain ⟨a1, rfl, rfl, rfl, w1⟩ := open_int Try.underlying3 (hval 1 3 v1 rfl rfl) h1
  have b1 := bounds_i64 w1
  refine (walk a0 b0.1 b0.2 a1 b1.1 b1.2 (w := W)).mono fun e W' ⟨he, hb⟩ => ?_
  subst he
  exact hpost W' hb

theorem proved : Rows.NumSplitSaid :=
  OpenClaim.holds_of_wide 11 Try.f11 rfl rfl rfl rfl rfl rfl rfl ⟨rfl, rfl, rfl, rfl, rfl⟩ rfl rfl rfl rfl rfl (by kernel_rfl) Try.func11 (by kernel_rfl)
    (of_decide_eq_true (by kernel_rfl)) (by unfold Func.isWrapper; first | (rw [if_pos (by decide +kernel)]; kernel_rfl) | (rw [if_neg (by decide +kernel)]; exact ⟨rfl, rfl⟩))
    (fun os started H enc _ => lifted os started H enc)
#print axioms proved
end Go.Proofs.Ytlahomobecfghaa.numSplit
