/-
  For all expressions l and all integers n and i, LinMakes returns true and leaves memory as it was. No condition.
-/
import Derived.Test.YtlahomobecfghaaRows
import Derived.Test.YtlahomobecfghaaKit
import Derived.Test.YtlahomobecfghaaLinKit
import Derived.Test.YtlahomobecfghaaLinBase
import Derived.Test.YtlahomobecfghaaLinMake
import Derived.Test.YtlahomobecfghaaLinAwake
import Derived.Test.YtlahomobecfghaaLinArgs
import Derived.Deep.RegionHeld3
set_option linter.unusedVariables false
namespace Go.Proofs.Ytlahomobecfghaa.linMakes
open Go.ChangeShapes Go.WideShapes Go.ChangeAt Go.RowKit

theorem cell_step {W W' : World} {a : Addr} {v : Value} (h : W.cell? a = some v) (hb : Below W.heap.size W W') : W'.cell? a = some v := (hb.cell (World.block_lt_of_cell? _ _ h)).trans h

set_option maxHeartbeats 4000000 in
theorem walk (w : World) (A : Option Addr) (n c : Nat) (K : Int) (xs : List Int) (h : IntsAt w A n xs) (hK : -9223372036854775808 ≤ K ∧ K ≤ 9223372036854775807) (m : Int) (wm : -9223372036854775808 ≤ m) (wm' : m ≤ 9223372036854775807) (i : Int) (wi : -9223372036854775808 ≤ i) (wi' : i ≤ 9223372036854775807) :
    Calls Try.prog 12 #[.agg #[.slice A n c, .int .i64 K], .int .i64 m, .int .i64 i] w fun e w' => e = .returned (.bool true) ∧ Below w.heap.size w w' := by
  go_enter Try.func12, Try.ntmps12
  go_wp2_with (first
    | (go_at_call 34; refine (lin_const m i _).mono ?_; rintro e w1 ⟨A1, n1, c1, rfl, I1, hb1⟩)
    | (go_at_call 35; refine (ref_const m i _).mono ?_; rintro e w2 ⟨A2, n2, c2, rfl, I2, hb2⟩)
    | (go_at_call 36; refine (lin_var m i _).mono ?_; rintro e w3 ⟨A3, n3, c3, rfl, I3, hb3⟩)
    | (go_at_call 37; refine (ref_var m i _).mono ?_; rintro e w4 ⟨A4, n4, c4, rfl, I4, hb4⟩))
  have o1 := below_alloc w1 (.cells #[.slice A1 n1 c1, .int .i64 (cK m i)] 38)
  have o2 := below_alloc w2 (.cells #[.slice A2 n2 c2, .int .i64 (cK m i)] 38)
  have o3 := below_alloc w3 (.cells #[.slice A3 n3 c3, .int .i64 0] 38)
  have d4 := below_alloc w4 (.cells #[.slice A4 n4 c4, .int .i64 0] 38)
  have e4 := below_step hb4 d4
  have d3 := below_step o3 e4
  have e3 := below_step hb3 d3
  have d2 := below_step o2 e3
  have e2 := below_step hb2 d2
  have d1 := below_step o1 e2
  have e1 := below_step hb1 d1
  have d0 := below_step (below_alloc w (.cells #[.slice A n c, .int .i64 K] 38)) e1
  have B0 := (LBox.new w A n c K).step e1
  have B1 := (LBox.new w1 A1 n1 c1 (cK m i)).step e2
  have B2 := (LBox.new w2 A2 n2 c2 (cK m i)).step e3
  have B3 := (LBox.new w3 A3 n3 c3 0).step e4
  have B4 := LBox.new w4 A4 n4 c4 0
  have stepS : ∀ W W' : World, (W.cell? ⟨w.heap.size, 0, none⟩ = some (.slice A n c) ∧ W.cell? ⟨w.heap.size, 1, none⟩ = some (.int .i64 K) ∧ W.cell? ⟨w1.heap.size, 0, none⟩ = some (.slice A1 n1 c1) ∧ W.cell? ⟨w1.heap.size, 1, none⟩ = some (.int .i64 (cK m i)) ∧ W.cell? ⟨w2.heap.size, 0, none⟩ = some (.slice A2 n2 c2) ∧ W.cell? ⟨w2.heap.size, 1, none⟩ = some (.int .i64 (cK m i)) ∧ W.cell? ⟨w3.heap.size, 0, none⟩ = some (.slice A3 n3 c3) ∧ W.cell? ⟨w3.heap.size, 1, none⟩ = some (.int .i64 0) ∧ W.cell? ⟨w4.heap.size, 0, none⟩ = some (.slice A4 n4 c4) ∧ W.cell? ⟨w4.heap.size, 1, none⟩ = some (.int .i64 0) ∧ IntsAt W A n xs ∧ IntsAt W A1 n1 (cXs m i) ∧ IntsAt W A2 n2 (cXs m i) ∧ IntsAt W A3 n3 (vXs m i) ∧ IntsAt W A4 n4 (vXs m i) ∧ Below w.heap.size w W) → Below W.heap.size W W' → (W'.cell? ⟨w.heap.size, 0, none⟩ = some (.slice A n c) ∧ W'.cell? ⟨w.heap.size, 1, none⟩ = some (.int .i64 K) ∧ W'.cell? ⟨w1.heap.size, 0, none⟩ = some (.slice A1 n1 c1) ∧ W'.cell? ⟨w1.heap.size, 1, none⟩ = some (.int .i64 (cK m i)) ∧ W'.cell? ⟨w2.heap.size, 0, none⟩ = some (.slice A2 n2 c2) ∧ W'.cell? ⟨w2.heap.size, 1, none⟩ = some (.int .i64 (cK m i)) ∧ W'.cell? ⟨w3.heap.size, 0, none⟩ = some (.slice A3 n3 c3) ∧ W'.cell? ⟨w3.heap.size, 1, none⟩ = some (.int .i64 0) ∧ W'.cell? ⟨w4.heap.size, 0, none⟩ = some (.slice A4 n4 c4) ∧ W'.cell? ⟨w4.heap.size, 1, none⟩ = some (.int .i64 0) ∧ IntsAt W' A n xs ∧ IntsAt W' A1 n1 (cXs m i) ∧ IntsAt W' A2 n2 (cXs m i) ∧ IntsAt W' A3 n3 (vXs m i) ∧ IntsAt W' A4 n4 (vXs m i) ∧ Below w.heap.size w W') :=
    fun W W' ⟨h0, h1, h2, h3, h4, h5, h6, h7, h8, h9, i0, i1, i2, i3, i4, hB⟩ hb => ⟨cell_step h0 hb, cell_step h1 hb, cell_step h2 hb, cell_step h3 hb, cell_step h4 hb, cell_step h5 hb, cell_step h6 hb, cell_step h7 hb, cell_step h8 hb, cell_step h9 hb, i0.step hb, i1.step hb, i2.step hb, i3.step hb, i4.step hb, below_step hB hb⟩
  have hS0 := (show ∀ W : World, W = (w4.alloc (.cells #[.slice A4 n4 c4, .int .i64 0] 38)).drew → (W.cell? ⟨w.heap.size, 0, none⟩ = some (.slice A n c) ∧ W.cell? ⟨w.heap.size, 1, none⟩ = some (.int .i64 K) ∧ W.cell? ⟨w1.heap.size, 0, none⟩ = some (.slice A1 n1 c1) ∧ W.cell? ⟨w1.heap.size, 1, none⟩ = some (.int .i64 (cK m i)) ∧ W.cell? ⟨w2.heap.size, 0, none⟩ = some (.slice A2 n2 c2) ∧ W.cell? ⟨w2.heap.size, 1, none⟩ = some (.int .i64 (cK m i)) ∧ W.cell? ⟨w3.heap.size, 0, none⟩ = some (.slice A3 n3 c3) ∧ W.cell? ⟨w3.heap.size, 1, none⟩ = some (.int .i64 0) ∧ W.cell? ⟨w4.heap.size, 0, none⟩ = some (.slice A4 n4 c4) ∧ W.cell? ⟨w4.heap.size, 1, none⟩ = some (.int .i64 0) ∧ IntsAt W A n xs ∧ IntsAt W A1 n1 (cXs m i) ∧ IntsAt W A2 n2 (cXs m i) ∧ IntsAt W A3 n3 (vXs m i) ∧ IntsAt W A4 n4 (vXs m i) ∧ Below w.heap.size w W) from fun W e => by
    subst e
    exact ⟨B0.c0, B0.c1, B1.c0, B1.c1, B2.c0, B2.c1, B3.c0, B3.c1, B4.c0, B4.c1, h.step (d0.drew), I1.step d1.drew, I2.step d2.drew, I3.step d3.drew, I4.step d4.drew, d0.drew⟩) _ rfl
  have HS := Lib.hid stepS
  clear stepS B0 B1 B2 B3 B4 d0 d1 d2 d3 d4 e1 e2 e3 e4 o1 o2 o3 hb1 hb2 hb3 hb4 I1 I2 I3 I4 h
  go_region_held3 (fun W => W.cell? ⟨w.heap.size, 0, none⟩ = some (.slice A n c) ∧ W.cell? ⟨w.heap.size, 1, none⟩ = some (.int .i64 K) ∧ W.cell? ⟨w1.heap.size, 0, none⟩ = some (.slice A1 n1 c1) ∧ W.cell? ⟨w1.heap.size, 1, none⟩ = some (.int .i64 (cK m i)) ∧ W.cell? ⟨w2.heap.size, 0, none⟩ = some (.slice A2 n2 c2) ∧ W.cell? ⟨w2.heap.size, 1, none⟩ = some (.int .i64 (cK m i)) ∧ W.cell? ⟨w3.heap.size, 0, none⟩ = some (.slice A3 n3 c3) ∧ W.cell? ⟨w3.heap.size, 1, none⟩ = some (.int .i64 0) ∧ W.cell? ⟨w4.heap.size, 0, none⟩ = some (.slice A4 n4 c4) ∧ W.cell? ⟨w4.heap.size, 1, none⟩ = some (.int .i64 0) ∧ IntsAt W A n xs ∧ IntsAt W A1 n1 (cXs m i) ∧ IntsAt W A2 n2 (cXs m i) ∧ IntsAt W A3 n3 (vXs m i) ∧ IntsAt W A4 n4 (vXs m i) ∧ Below w.heap.size w W) (first | exact hS0 | exact HS.out _ _ (by assumption) hb | go_keep)
    (first
      | (go_at_call 38; refine (lin_valid _ _ _ _ xs _ (by simp only [*])).mono ?_; rintro e w5 ⟨rfl, hb⟩)
      | (go_at_call 39; refine (ref_valid _ _ _ _ xs _ (by simp only [*])).mono ?_; rintro e w5 ⟨rfl, hb⟩)
      | (go_at_call 40; refine (is_same _ _ _ _ (cXs m i) _ _ _ _ _ (by simp only [*]) (by simp only [*])).mono ?_; rintro e w5 ⟨rfl, hb⟩)
      | (go_at_call 40; refine (is_same _ _ _ _ (vXs m i) _ _ _ _ _ (by simp only [*]) (by simp only [*])).mono ?_; rintro e w5 ⟨rfl, hb⟩)
      | (go_at_call 41; refine (awake2 _).mono ?_; rintro e w5 ⟨rfl, hb⟩))
  all_goals
    have hEnd : Below w.heap.size w w5 := by simp only [*]
    go_wp2
    go_ret
    exact ⟨rfl, hEnd⟩

set_option maxRecDepth 100000 in
theorem lifted (os : Os) (started : os.Started) (H : Type) (enc : TypeId × Value → H) :
    ReturnsInHanded {} Try.checked os 12 .any (Rows.linMakesSpec.pre6 enc Try.prog Try.f12 Rows.linMakesRow.domain false) (Rows.linMakesSpec.post enc Try.prog Try.f12 false true false false) := by
  refine returnsInHanded_of_change_sized (C := Try.checked) own started (by kernel_rfl) Try.func12
    (ChangeSpec.witness6 (enc := enc) (C := Try.checked) false ⟨#[], #[.agg #[.slice none 0 0, .int .i64 0], .int .i64 0, .int .i64 0], []⟩ 8 (by kernel_rfl) (by kernel_rfl) (by kernel_rfl) (by kernel_rfl)) ?_
  intro W base args ds gs before hval0 hW _ hsz0 _
  have hval : ∀ (j : Nat) t v, Try.f12.params[j]? = some t → args[j]? = some v → Value.okWide Try.prog W .any base t v := hval0
  have hW' := hW
  have hlt := hW.lt
  obtain ⟨p, q, hA0, hV, rfl, hfz, hnd⟩ := hW
  have hA : DataW.TrodAll enc Try.prog W 0 (fun _ => true) true Try.f12.params.toList args.toList ds p := hA0
  have hsz : (DataW.weightsEach Try.prog (Try.f12.params.toList ++ []) (ds ++ gs)).all (· ≤ reachBytes) = true := hsz0
  rw [Try.params12] at hA hval hsz
  obtain ⟨rfl, rfl⟩ := trodVars_none hV
  obtain ⟨v0, vs0, d0, ds0, p0, q0, hargs, rfl, rfl, h0, r0⟩ := trodAll_cons hA
  obtain ⟨v1, vs1, d1, ds1, p1, q1, rfl, rfl, rfl, h1, r1⟩ := trodAll_cons r0
  obtain ⟨v2, vs2, d2, ds2, p2, q2, rfl, rfl, rfl, h2, r2⟩ := trodAll_cons r1
  obtain ⟨rfl, rfl, rfl⟩ := trodAll_nil r2
  obtain rfl : args = #[v0, v1, v2] := by cases args; simp_all
  obtain ⟨z0, hsz⟩ := weights_cons hsz
  obtain ⟨z1, hsz⟩ := weights_cons hsz
  obtain ⟨z2, hsz⟩ := weights_cons hsz
  have hpost : ∀ W' : World, Below W.heap.size W W' → ∃ v, Ending.returned (.bool true) = .returned v ∧ Rows.linMakesSpec.post enc Try.prog Try.f12 false true false false W #[v0, v1, v2] v W' :=
    fun W' hb => ⟨_, rfl, law_post laidOut (of_decide_eq_true (by kernel_rfl)) rfl rfl Try.underlying4 rfl hW' hb⟩
  obtain ⟨A0, n0, c0, K0, xs0, rfl, I0, k0⟩ := lin_of (hval 0 38 v0 rfl rfl) (fun x hx => hlt x (by simp only [List.mem_append]; simp [hx])) z0 h0
  obtain ⟨a1, rfl, rfl, rfl, w1⟩ := open_int Try.underlying3 (hval 1 3 v1 rfl rfl) h1
  have b1 := bounds_i64 w1
  obtain ⟨a2, rfl, rfl, rfl, w2⟩ := open_int Try.underlying3 (hval 2 3 v2 rfl rfl) h2
  have b2 := bounds_i64 w2
  refine (walk A0 n0 c0 K0 xs0 I0 k0 a1 b1.1 b1.2 a2 b2.1 b2.2 (w := W)).mono fun e W' ⟨he, hb⟩ => ?_
  subst he
  exact hpost W' hb

theorem proved : Rows.LinMakesSaid :=
  OpenClaim.holds_of_wide 12 Try.f12 rfl rfl rfl rfl rfl rfl rfl ⟨rfl, rfl, rfl, rfl, rfl⟩ rfl rfl rfl rfl rfl (by kernel_rfl) Try.func12 (by kernel_rfl)
    (of_decide_eq_true (by kernel_rfl)) (by unfold Func.isWrapper; first | (rw [if_pos (by decide +kernel)]; kernel_rfl) | (rw [if_neg (by decide +kernel)]; exact ⟨rfl, rfl⟩))
    (fun os started H enc _ => lifted os started H enc)
#print axioms proved
end Go.Proofs.Ytlahomobecfghaa.linMakes
