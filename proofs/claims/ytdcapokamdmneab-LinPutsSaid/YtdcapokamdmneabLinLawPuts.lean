/-
  For all expressions l and by and all integers i and k, LinPuts returns true and leaves memory as it was. No condition.
-/
import Derived.Test.YtdcapokamdmneabRows
import Derived.Test.YtdcapokamdmneabKit
import Derived.Test.YtdcapokamdmneabLinKit
import Derived.Test.YtdcapokamdmneabLinBase
import Derived.Test.YtdcapokamdmneabLinMake
import Derived.Test.YtdcapokamdmneabLinAwake
import Derived.Test.YtdcapokamdmneabLinArgsC
import Derived.Test.YtdcapokamdmneabRefPut
import Derived.Test.YtdcapokamdmneabRefCut
import Derived.Test.YtdcapokamdmneabRefRoom
import Derived.Deep.RegionHeld3
set_option linter.unusedVariables false
namespace Go.Proofs.Ytdcapokamdmneab.linPuts
open Go.ChangeShapes Go.WideShapes Go.ChangeAt Go.RowKit

theorem cell_step {W W' : World} {a : Addr} {v : Value} (h : W.cell? a = some v) (hb : Below W.heap.size W W') : W'.cell? a = some v := (hb.cell (World.block_lt_of_cell? _ _ h)).trans h

set_option maxHeartbeats 8000000 in
theorem walk (w : World) (A : Option Addr) (n c : Nat) (K : Int) (xs : List Int) (h : IntsAt w A n xs) (hC0 : CapAt w.heap.size A n c) (hK : -9223372036854775808 ≤ K ∧ K ≤ 9223372036854775807) (A' : Option Addr) (n' c' : Nat) (L : Int) (ys : List Int) (h' : IntsAt w A' n' ys) (hC0' : CapAt w.heap.size A' n' c') (hL : -9223372036854775808 ≤ L ∧ L ≤ 9223372036854775807) (i : Int) (wi : -9223372036854775808 ≤ i) (wi' : i ≤ 9223372036854775807) (k : Int) (wk : -9223372036854775808 ≤ k) (wk' : k ≤ 9223372036854775807) :
    Calls Try.prog 3 #[.agg #[.slice A n c, .int .i64 K], .agg #[.slice A' n' c', .int .i64 L], .int .i64 i, .int .i64 k] w fun e w' => e = .returned (.bool true) ∧ Below w.heap.size w w' := by
  have hB := below_step (below_alloc w (.cells #[.slice A n c, .int .i64 K] 24)) (below_alloc _ (.cells #[.slice A' n' c', .int .i64 L] 24))
  have B1 := (LBox.new w A n c K).alloc (.cells #[.slice A' n' c', .int .i64 L] 24)
  have B2 := LBox.new (w.alloc (.cells #[.slice A n c, .int .i64 K] 24)) A' n' c' L
  rw [World.size_alloc] at B2
  have h1 := h.step hB
  have h2 := h'.step hB
  have hC := hC0.mono hB.size
  obtain ⟨X1, M1, E1, HPL, HPR⟩ : ∃ X1 M1 E1, Hid (∀ W, IntsAt W A n xs → IntsAt W A' n' ys → Calls Try.prog 7 #[.agg #[.slice A n c, .int .i64 K], .int .i64 i, .agg #[.slice A' n' c', .int .i64 L]] W fun e w' => LinRet W e w' X1 M1 E1) ∧
      Hid (∀ W, IntsAt W A n xs → IntsAt W A' n' ys → Calls Try.prog 8 #[.agg #[.slice A n c, .int .i64 K], .int .i64 i, .agg #[.slice A' n' c', .int .i64 L]] W fun e w' => LinRet W e w' X1 M1 E1) :=
    ⟨_, _, _, Lib.hid (fun W a b => lin_put A n c K xs i A' n' c' L ys W a b), Lib.hid (fun W a b => ref_put A n c K xs i A' n' c' L ys W a b)⟩
  obtain ⟨X2, M2, E2, hc2⟩ := cut_ans K xs i
  have HCL := Lib.hid (fun W (hh : IntsAt W A n xs) => (hc2 A n c hC0.1 W hh).1)
  have HCR := Lib.hid (fun W (hh : IntsAt W A n xs) => (hc2 A n c hC0.1 W hh).2)
  obtain ⟨X3, M3, E3, hc3⟩ := room_ans K xs i k
  have HRL := Lib.hid (fun W (hc : CapAt W.heap.size A n c) (hh : IntsAt W A n xs) => (hc3 A n c W hc hh).1)
  have HRR := Lib.hid (fun W (hc : CapAt W.heap.size A n c) (hh : IntsAt W A n xs) => (hc3 A n c W hc hh).2)
  clear hc2 hc3 hC0'
  go_enter Try.func3, Try.ntmps3
  go_wp2_with (first
    | (go_at_call 7; refine (HPL.out _ h1 h2).mono ?_; rintro e w1 ⟨A1, n1, c1, rfl, I1, hb1⟩; have t := below_step hb1 (below_alloc w1 (.cells #[.slice A1 n1 c1, .int .i64 M1] 24)); have v1 := B1.step hb1; have v2 := B2.step hb1; have u0 := v1.c0; have u1 := v1.c1; have u2 := v2.c0; have u3 := v2.c1; have u4 := v1.lt; have u5 := v2.lt; replace h1 := h1.step t; replace h2 := h2.step t; replace hC := hC.mono t.size; replace B1 := B1.step t; replace B2 := B2.step t; have x0 := B1.c0; have x1 := B1.c1; have x2 := B2.c0; have x3 := B2.c1; have y1 := B1.lt; have y2 := B2.lt)
    | (go_at_call 8; refine (HPR.out _ h1 h2).mono ?_; rintro e w2 ⟨A2, n2, c2, rfl, I2, hb2⟩; have t := below_step hb2 (below_alloc w2 (.cells #[.slice A2 n2 c2, .int .i64 M1] 24)); have v1 := B1.step hb2; have v2 := B2.step hb2; have u0 := v1.c0; have u1 := v1.c1; have u2 := v2.c0; have u3 := v2.c1; have u4 := v1.lt; have u5 := v2.lt; replace h1 := h1.step t; replace h2 := h2.step t; replace hC := hC.mono t.size; replace B1 := B1.step t; replace B2 := B2.step t; have x0 := B1.c0; have x1 := B1.c1; have x2 := B2.c0; have x3 := B2.c1; have y1 := B1.lt; have y2 := B2.lt)
    | (go_at_call 9; refine (HCL.out _ h1).mono ?_; rintro e w3 ⟨A3, n3, c3, rfl, I3, hb3⟩; have t := below_step hb3 (below_alloc w3 (.cells #[.slice A3 n3 c3, .int .i64 M2] 24)); have v1 := B1.step hb3; have v2 := B2.step hb3; have u0 := v1.c0; have u1 := v1.c1; have u2 := v2.c0; have u3 := v2.c1; have u4 := v1.lt; have u5 := v2.lt; replace h1 := h1.step t; replace h2 := h2.step t; replace hC := hC.mono t.size; replace B1 := B1.step t; replace B2 := B2.step t; have x0 := B1.c0; have x1 := B1.c1; have x2 := B2.c0; have x3 := B2.c1; have y1 := B1.lt; have y2 := B2.lt)
    | (go_at_call 10; refine (HCR.out _ h1).mono ?_; rintro e w4 ⟨A4, n4, c4, rfl, I4, hb4⟩; have t := below_step hb4 (below_alloc w4 (.cells #[.slice A4 n4 c4, .int .i64 M2] 24)); have v1 := B1.step hb4; have v2 := B2.step hb4; have u0 := v1.c0; have u1 := v1.c1; have u2 := v2.c0; have u3 := v2.c1; have u4 := v1.lt; have u5 := v2.lt; replace h1 := h1.step t; replace h2 := h2.step t; replace hC := hC.mono t.size; replace B1 := B1.step t; replace B2 := B2.step t; have x0 := B1.c0; have x1 := B1.c1; have x2 := B2.c0; have x3 := B2.c1; have y1 := B1.lt; have y2 := B2.lt)
    | (go_at_call 11; refine (HRL.out _ hC h1).mono ?_; rintro e w5 ⟨A5, n5, c5, rfl, I5, hb5⟩; have t := below_step hb5 (below_alloc w5 (.cells #[.slice A5 n5 c5, .int .i64 M3] 24)); have v1 := B1.step hb5; have v2 := B2.step hb5; have u0 := v1.c0; have u1 := v1.c1; have u2 := v2.c0; have u3 := v2.c1; have u4 := v1.lt; have u5 := v2.lt; replace h1 := h1.step t; replace h2 := h2.step t; replace hC := hC.mono t.size; replace B1 := B1.step t; replace B2 := B2.step t; have x0 := B1.c0; have x1 := B1.c1; have x2 := B2.c0; have x3 := B2.c1; have y1 := B1.lt; have y2 := B2.lt)
    | (go_at_call 12; refine (HRR.out _ hC h1).mono ?_; rintro e w6 ⟨A6, n6, c6, rfl, I6, hb6⟩; have d6 := below_alloc w6 (.cells #[.slice A6 n6 c6, .int .i64 M3] 24); have e5 := below_step hb6 d6; have d5 := below_step (below_alloc w5 (.cells #[.slice A5 n5 c5, .int .i64 M3] 24)) e5; have e4 := below_step hb5 d5; have d4 := below_step (below_alloc w4 (.cells #[.slice A4 n4 c4, .int .i64 M2] 24)) e4; have e3 := below_step hb4 d4; have d3 := below_step (below_alloc w3 (.cells #[.slice A3 n3 c3, .int .i64 M2] 24)) e3; have e2 := below_step hb3 d3; have d2 := below_step (below_alloc w2 (.cells #[.slice A2 n2 c2, .int .i64 M1] 24)) e2; have e1 := below_step hb2 d2; have d1 := below_step (below_alloc w1 (.cells #[.slice A1 n1 c1, .int .i64 M1] 24)) e1; have e0 := below_step hb1 d1; have d0 := below_step hB e0; have P1 := (LBox.new w1 A1 n1 c1 M1).step e1; have P2 := (LBox.new w2 A2 n2 c2 M1).step e2; have P3 := (LBox.new w3 A3 n3 c3 M2).step e3; have P4 := (LBox.new w4 A4 n4 c4 M2).step e4; have P5 := (LBox.new w5 A5 n5 c5 M3).step e5; have P6 := (LBox.new w6 A6 n6 c6 M3); have stepS : ∀ W W' : World, (W.cell? ⟨w1.heap.size, 0, none⟩ = some (.slice A1 n1 c1) ∧ W.cell? ⟨w1.heap.size, 1, none⟩ = some (.int .i64 M1) ∧ W.cell? ⟨w2.heap.size, 0, none⟩ = some (.slice A2 n2 c2) ∧ W.cell? ⟨w2.heap.size, 1, none⟩ = some (.int .i64 M1) ∧ W.cell? ⟨w3.heap.size, 0, none⟩ = some (.slice A3 n3 c3) ∧ W.cell? ⟨w3.heap.size, 1, none⟩ = some (.int .i64 M2) ∧ W.cell? ⟨w4.heap.size, 0, none⟩ = some (.slice A4 n4 c4) ∧ W.cell? ⟨w4.heap.size, 1, none⟩ = some (.int .i64 M2) ∧ W.cell? ⟨w5.heap.size, 0, none⟩ = some (.slice A5 n5 c5) ∧ W.cell? ⟨w5.heap.size, 1, none⟩ = some (.int .i64 M3) ∧ W.cell? ⟨w6.heap.size, 0, none⟩ = some (.slice A6 n6 c6) ∧ W.cell? ⟨w6.heap.size, 1, none⟩ = some (.int .i64 M3) ∧ IntsAt W A1 n1 X1 ∧ IntsAt W A2 n2 X1 ∧ IntsAt W A3 n3 X2 ∧ IntsAt W A4 n4 X2 ∧ IntsAt W A5 n5 X3 ∧ IntsAt W A6 n6 X3 ∧ Below w.heap.size w W) → Below W.heap.size W W' → (W'.cell? ⟨w1.heap.size, 0, none⟩ = some (.slice A1 n1 c1) ∧ W'.cell? ⟨w1.heap.size, 1, none⟩ = some (.int .i64 M1) ∧ W'.cell? ⟨w2.heap.size, 0, none⟩ = some (.slice A2 n2 c2) ∧ W'.cell? ⟨w2.heap.size, 1, none⟩ = some (.int .i64 M1) ∧ W'.cell? ⟨w3.heap.size, 0, none⟩ = some (.slice A3 n3 c3) ∧ W'.cell? ⟨w3.heap.size, 1, none⟩ = some (.int .i64 M2) ∧ W'.cell? ⟨w4.heap.size, 0, none⟩ = some (.slice A4 n4 c4) ∧ W'.cell? ⟨w4.heap.size, 1, none⟩ = some (.int .i64 M2) ∧ W'.cell? ⟨w5.heap.size, 0, none⟩ = some (.slice A5 n5 c5) ∧ W'.cell? ⟨w5.heap.size, 1, none⟩ = some (.int .i64 M3) ∧ W'.cell? ⟨w6.heap.size, 0, none⟩ = some (.slice A6 n6 c6) ∧ W'.cell? ⟨w6.heap.size, 1, none⟩ = some (.int .i64 M3) ∧ IntsAt W' A1 n1 X1 ∧ IntsAt W' A2 n2 X1 ∧ IntsAt W' A3 n3 X2 ∧ IntsAt W' A4 n4 X2 ∧ IntsAt W' A5 n5 X3 ∧ IntsAt W' A6 n6 X3 ∧ Below w.heap.size w W') := fun W W' ⟨h0, h1, h2, h3, h4, h5, h6, h7, h8, h9, h10, h11, i0, i1, i2, i3, i4, i5, hB⟩ hb => ⟨cell_step h0 hb, cell_step h1 hb, cell_step h2 hb, cell_step h3 hb, cell_step h4 hb, cell_step h5 hb, cell_step h6 hb, cell_step h7 hb, cell_step h8 hb, cell_step h9 hb, cell_step h10 hb, cell_step h11 hb, i0.step hb, i1.step hb, i2.step hb, i3.step hb, i4.step hb, i5.step hb, below_step hB hb⟩; have hS := (show ∀ W : World, W = (w6.alloc (.cells #[.slice A6 n6 c6, .int .i64 M3] 24)) → (W.cell? ⟨w1.heap.size, 0, none⟩ = some (.slice A1 n1 c1) ∧ W.cell? ⟨w1.heap.size, 1, none⟩ = some (.int .i64 M1) ∧ W.cell? ⟨w2.heap.size, 0, none⟩ = some (.slice A2 n2 c2) ∧ W.cell? ⟨w2.heap.size, 1, none⟩ = some (.int .i64 M1) ∧ W.cell? ⟨w3.heap.size, 0, none⟩ = some (.slice A3 n3 c3) ∧ W.cell? ⟨w3.heap.size, 1, none⟩ = some (.int .i64 M2) ∧ W.cell? ⟨w4.heap.size, 0, none⟩ = some (.slice A4 n4 c4) ∧ W.cell? ⟨w4.heap.size, 1, none⟩ = some (.int .i64 M2) ∧ W.cell? ⟨w5.heap.size, 0, none⟩ = some (.slice A5 n5 c5) ∧ W.cell? ⟨w5.heap.size, 1, none⟩ = some (.int .i64 M3) ∧ W.cell? ⟨w6.heap.size, 0, none⟩ = some (.slice A6 n6 c6) ∧ W.cell? ⟨w6.heap.size, 1, none⟩ = some (.int .i64 M3) ∧ IntsAt W A1 n1 X1 ∧ IntsAt W A2 n2 X1 ∧ IntsAt W A3 n3 X2 ∧ IntsAt W A4 n4 X2 ∧ IntsAt W A5 n5 X3 ∧ IntsAt W A6 n6 X3 ∧ Below w.heap.size w W) from fun W e => (by subst e; exact ⟨P1.c0, P1.c1, P2.c0, P2.c1, P3.c0, P3.c1, P4.c0, P4.c1, P5.c0, P5.c1, P6.c0, P6.c1, I1.step d1, I2.step d2, I3.step d3, I4.step d4, I5.step d5, I6.step d6, d0⟩)) _ rfl; have HS := Lib.hid stepS; clear stepS P1 P2 P3 P4 P5 P6 d0 d1 d2 d3 d4 d5 d6 e0 e1 e2 e3 e4 e5 hb1 hb2 hb3 hb4 hb5 hb6 I1 I2 I3 I4 I5 I6 h h' h1 h2 B1 B2 hB hC hC0)
    | (go_at_call 13; refine (is_same _ _ _ _ X1 _ _ _ _ _ (by simp only [*]) (by simp only [*])).mono ?_; rintro e w7 ⟨rfl, hb⟩; replace hS := HS.out _ _ hS hb)
    | (go_at_call 13; refine (is_same _ _ _ _ X2 _ _ _ _ _ (by simp only [*]) (by simp only [*])).mono ?_; rintro e w7 ⟨rfl, hb⟩; replace hS := HS.out _ _ hS hb)
    | (go_at_call 13; refine (is_same _ _ _ _ X3 _ _ _ _ _ (by simp only [*]) (by simp only [*])).mono ?_; rintro e w7 ⟨rfl, hb⟩; replace hS := HS.out _ _ hS hb)
    | (go_at_call 14; refine (awake2 _).mono ?_; rintro e w7 ⟨rfl, hb⟩; replace hS := HS.out _ _ hS hb))
  have hEnd : Below w.heap.size w w7 := by simp only [*]
  go_ret
  exact ⟨rfl, hEnd⟩

set_option maxRecDepth 100000 in
theorem lifted (os : Os) (started : os.Started) (H : Type) (enc : TypeId × Value → H) :
    ReturnsInHanded {} Try.checked os 3 .any (Rows.linPutsSpec.pre6 enc Try.prog Try.f3 Rows.linPutsRow.domain false) (Rows.linPutsSpec.post enc Try.prog Try.f3 false true false false) := by
  refine returnsInHanded_of_change_sized (C := Try.checked) own started (by kernel_rfl) Try.func3
    (ChangeSpec.witness6 (enc := enc) (C := Try.checked) false ⟨#[], #[.agg #[.slice none 0 0, .int .i64 0], .agg #[.slice none 0 0, .int .i64 0], .int .i64 0, .int .i64 0], []⟩ 8 (by kernel_rfl) (by kernel_rfl) (by kernel_rfl) (by kernel_rfl)) ?_
  intro W base args ds gs before hval0 hW _ hsz0 _
  have hval : ∀ (j : Nat) t v, Try.f3.params[j]? = some t → args[j]? = some v → Value.okWide Try.prog W .any base t v := hval0
  have hW' := hW
  have hlt := hW.lt
  obtain ⟨p, q, hA0, hV, rfl, hfz, hnd⟩ := hW
  have hA : DataW.TrodAll enc Try.prog W 0 (fun _ => true) true Try.f3.params.toList args.toList ds p := hA0
  have hsz : (DataW.weightsEach Try.prog (Try.f3.params.toList ++ []) (ds ++ gs)).all (· ≤ reachBytes) = true := hsz0
  rw [Try.params3] at hA hval hsz
  obtain ⟨rfl, rfl⟩ := trodVars_none hV
  obtain ⟨v0, vs0, d0, ds0, p0, q0, hargs, rfl, rfl, h0, r0⟩ := trodAll_cons hA
  obtain ⟨v1, vs1, d1, ds1, p1, q1, rfl, rfl, rfl, h1, r1⟩ := trodAll_cons r0
  obtain ⟨v2, vs2, d2, ds2, p2, q2, rfl, rfl, rfl, h2, r2⟩ := trodAll_cons r1
  obtain ⟨v3, vs3, d3, ds3, p3, q3, rfl, rfl, rfl, h3, r3⟩ := trodAll_cons r2
  obtain ⟨rfl, rfl, rfl⟩ := trodAll_nil r3
  obtain rfl : args = #[v0, v1, v2, v3] := by cases args; simp_all
  obtain ⟨z0, hsz⟩ := weights_cons hsz
  obtain ⟨z1, hsz⟩ := weights_cons hsz
  obtain ⟨z2, hsz⟩ := weights_cons hsz
  obtain ⟨z3, hsz⟩ := weights_cons hsz
  have hpost : ∀ W' : World, Below W.heap.size W W' → ∃ v, Ending.returned (.bool true) = .returned v ∧ Rows.linPutsSpec.post enc Try.prog Try.f3 false true false false W #[v0, v1, v2, v3] v W' :=
    fun W' hb => ⟨_, rfl, law_post laidOut (of_decide_eq_true (by kernel_rfl)) rfl rfl Try.underlying4 rfl hW' hb⟩
  obtain ⟨A0, n0, c0, K0, xs0, rfl, I0, C0, k0⟩ := lin_ofD (hval 0 24 v0 rfl rfl) (fun x hx => hlt x (by simp only [List.mem_append]; simp [hx])) z0 h0
  obtain ⟨A1, n1, c1, K1, xs1, rfl, I1, C1, k1⟩ := lin_ofD (hval 1 24 v1 rfl rfl) (fun x hx => hlt x (by simp only [List.mem_append]; simp [hx])) z1 h1
  obtain ⟨a2, rfl, rfl, rfl, w2⟩ := open_int Try.underlying3 (hval 2 3 v2 rfl rfl) h2
  have b2 := bounds_i64 w2
  obtain ⟨a3, rfl, rfl, rfl, w3⟩ := open_int Try.underlying3 (hval 3 3 v3 rfl rfl) h3
  have b3 := bounds_i64 w3
  refine (walk A0 n0 c0 K0 xs0 I0 C0 k0 A1 n1 c1 K1 xs1 I1 C1 k1 a2 b2.1 b2.2 a3 b3.1 b3.2 (w := W)).mono fun e W' ⟨he, hb⟩ => ?_
  subst he
  exact hpost W' hb

theorem proved : Rows.LinPutsSaid :=
  OpenClaim.holds_of_wide 3 Try.f3 rfl rfl rfl rfl rfl rfl rfl ⟨rfl, rfl, rfl, rfl, rfl⟩ rfl rfl rfl rfl rfl (by kernel_rfl) Try.func3 (by kernel_rfl)
    (of_decide_eq_true (by kernel_rfl)) (by unfold Func.isWrapper; first | (rw [if_pos (by decide +kernel)]; kernel_rfl) | (rw [if_neg (by decide +kernel)]; exact ⟨rfl, rfl⟩))
    (fun os started H enc _ => lifted os started H enc)
#print axioms proved
end Go.Proofs.Ytdcapokamdmneab.linPuts
