/-
  awake of layer 3: its four normal forms.
-/
import Derived.Test.YtbjkijifpikhkaaCondNormal
import Derived.Test.YtbjkijifpikhkaaCondSame
namespace Go.Proofs.Ytbjkijifpikhkaa
open Go.RowKit
set_option linter.unusedVariables false
set_option linter.unusedSimpArgs false

section
variable (A : Option Addr) (c : Nat) (w : World)
theorem awake_n1 (hI : IntsAt w A 1 [2]) : Calls Try.prog 15 #[condV 0 0 A 1 c (-3)] w fun e w' => CondRet3 w e w' 0 0 [1] (-2) 0 0 := by
  have h := cond_normal 0 0 A 1 c (-3) [2] w hI
  rw [show nfV 0 0 1 [2] (-3) = (0, 0, [1], -2, 0) by decide +kernel, show nfE 0 0 [2] (-3) = 0 by decide +kernel] at h
  exact h
theorem awake_n2 (hI : IntsAt w A 1 [-2]) : Calls Try.prog 15 #[condV 1 0 A 1 c 4] w fun e w' => CondRet3 w e w' 1 0 [1] (-2) 0 0 := by
  have h := cond_normal 1 0 A 1 c 4 [-2] w hI
  rw [show nfV 1 0 1 [-2] 4 = (1, 0, [1], -2, 0) by decide +kernel, show nfE 1 0 [-2] 4 = 0 by decide +kernel] at h
  exact h
theorem awake_n3 (hI : IntsAt w A 1 [2]) : Calls Try.prog 15 #[condV 1 0 A 1 c 1] w fun e w' => CondRet3 w e w' 0 0 [] 0 (-1) 0 := by
  have h := cond_normal 1 0 A 1 c 1 [2] w hI
  rw [show nfV 1 0 1 [2] 1 = (0, 0, [], 0, -1) by decide +kernel, show nfE 1 0 [2] 1 = 0 by decide +kernel] at h
  exact h
theorem awake_n4 (hI : IntsAt w A 1 [4]) : Calls Try.prog 15 #[condV 2 6 A 1 c 8] w fun e w' => CondRet3 w e w' 2 3 [2] 1 0 0 := by
  have h := cond_normal 2 6 A 1 c 8 [4] w hI
  rw [show nfV 2 6 1 [4] 8 = (2, 3, [2], 1, 0) by decide +kernel, show nfE 2 6 [4] 8 = 0 by decide +kernel] at h
  exact h
end
theorem one_at (w : World) (a : Int) (ha : -9223372036854775808 ≤ a ∧ a ≤ 9223372036854775807) :
    IntsAt (w.alloc (.cells #[.int .i64 a] 3)) (some ⟨w.heap.size, 0, none⟩) 1 [a] :=
  (OwnRow.new w [a] 1 rfl).ints (by omega) (fun x hx => by rw [List.mem_singleton] at hx; subst hx; exact ha)
theorem sameC_self (q M : Int) (xs : List Int) (K : Int) : sameC q M xs K q M xs K = true := by unfold sameC; simp [sameB_self]

set_option maxHeartbeats 8000000 in
theorem awake3 (w : World) : Calls Try.prog 14 #[] w fun e w' => e = .returned (.bool true) ∧ Below w.heap.size w w' := by
  have I1 := one_at w 2 (by omega)
  have hB := below_alloc w (.cells #[.int .i64 2] 3)
  have T1 : True := trivial
  have T2 : True := trivial
  have T3 : True := trivial
  have T4 : True := trivial
  have T5 : True := trivial
  have T6 : True := trivial
  go_enter Try.func14, Try.ntmps14
  go_wp2_with (first
    | (go_at_call 15; have t1 := T1; clear T1 t1; refine (awake_n1 _ _ _ I1).mono ?_; rintro e w1 ⟨A1, n1, c1, rfl, J1, hb, _⟩; replace hB := below_step (below_step (below_step hB hb) (below_alloc _ (.cells #[.int .i64 0, .int .i64 0, .slice A1 n1 c1, .int .i64 (-2)] 26))) (below_alloc _ (.cells #[.int .i64 (-2)] 3)); have X1 := (CBox.new w1 0 0 A1 n1 c1 (-2)).alloc (.cells #[.int .i64 (-2)] 3); replace J1 := (J1.step (below_alloc _ (.cells #[.int .i64 0, .int .i64 0, .slice A1 n1 c1, .int .i64 (-2)] 26))).step (below_alloc _ (.cells #[.int .i64 (-2)] 3)); have I2 := one_at (w1.alloc (.cells #[.int .i64 0, .int .i64 0, .slice A1 n1 c1, .int .i64 (-2)] 26)) (-2) (by omega); simp only [World.size_alloc] at I2)
    | (go_at_call 15; have t1 := T2; clear T2 t1; refine (awake_n2 _ _ _ I2).mono ?_; rintro e w2 ⟨A2, n2, c2, rfl, J2, hb, _⟩; replace hB := below_step (below_step (below_step hB hb) (below_alloc _ (.cells #[.int .i64 1, .int .i64 0, .slice A2 n2 c2, .int .i64 (-2)] 26))) (below_alloc _ (.cells #[.int .i64 2] 3)); replace X1 := ((X1.step hb).alloc (.cells #[.int .i64 1, .int .i64 0, .slice A2 n2 c2, .int .i64 (-2)] 26)).alloc (.cells #[.int .i64 2] 3); replace J1 := ((J1.step hb).step (below_alloc _ (.cells #[.int .i64 1, .int .i64 0, .slice A2 n2 c2, .int .i64 (-2)] 26))).step (below_alloc _ (.cells #[.int .i64 2] 3)); have X2 := (CBox.new w2 1 0 A2 n2 c2 (-2)).alloc (.cells #[.int .i64 2] 3); replace J2 := (J2.step (below_alloc _ (.cells #[.int .i64 1, .int .i64 0, .slice A2 n2 c2, .int .i64 (-2)] 26))).step (below_alloc _ (.cells #[.int .i64 2] 3)); have I3 := one_at (w2.alloc (.cells #[.int .i64 1, .int .i64 0, .slice A2 n2 c2, .int .i64 (-2)] 26)) 2 (by omega); simp only [World.size_alloc] at I3)
    | (go_at_call 15; have t1 := T3; clear T3 t1; refine (awake_n3 _ _ _ I3).mono ?_; rintro e w3 ⟨A3, n3, c3, rfl, J3, hb, _⟩; replace hB := below_step (below_step (below_step hB hb) (below_alloc _ (.cells #[.int .i64 0, .int .i64 0, .slice A3 n3 c3, .int .i64 0] 26))) (below_alloc _ (.cells #[.int .i64 4] 3)); replace X1 := ((X1.step hb).alloc (.cells #[.int .i64 0, .int .i64 0, .slice A3 n3 c3, .int .i64 0] 26)).alloc (.cells #[.int .i64 4] 3); replace J1 := ((J1.step hb).step (below_alloc _ (.cells #[.int .i64 0, .int .i64 0, .slice A3 n3 c3, .int .i64 0] 26))).step (below_alloc _ (.cells #[.int .i64 4] 3)); replace X2 := ((X2.step hb).alloc (.cells #[.int .i64 0, .int .i64 0, .slice A3 n3 c3, .int .i64 0] 26)).alloc (.cells #[.int .i64 4] 3); replace J2 := ((J2.step hb).step (below_alloc _ (.cells #[.int .i64 0, .int .i64 0, .slice A3 n3 c3, .int .i64 0] 26))).step (below_alloc _ (.cells #[.int .i64 4] 3)); have X3 := (CBox.new w3 0 0 A3 n3 c3 0).alloc (.cells #[.int .i64 4] 3); replace J3 := (J3.step (below_alloc _ (.cells #[.int .i64 0, .int .i64 0, .slice A3 n3 c3, .int .i64 0] 26))).step (below_alloc _ (.cells #[.int .i64 4] 3)); have I4 := one_at (w3.alloc (.cells #[.int .i64 0, .int .i64 0, .slice A3 n3 c3, .int .i64 0] 26)) 4 (by omega); simp only [World.size_alloc] at I4; clear X3 J3)
    | (go_at_call 15; have t1 := T4; clear T4 t1; refine (awake_n4 _ _ _ I4).mono ?_; rintro e w4 ⟨A4, n4, c4, rfl, J4, hb, _⟩; have Y1 := (X1.step hb).alloc (.cells #[.int .i64 2, .int .i64 3, .slice A4 n4 c4, .int .i64 1] 26); have y0 := Y1.c0; have y1 := Y1.c1; have y2 := Y1.c2; have y3 := Y1.c3; replace hB := below_step (below_step (below_step hB hb) (below_alloc _ (.cells #[.int .i64 2, .int .i64 3, .slice A4 n4 c4, .int .i64 1] 26))) (below_alloc _ (.cells #[.int .i64 1] 3)); replace X1 := ((X1.step hb).alloc (.cells #[.int .i64 2, .int .i64 3, .slice A4 n4 c4, .int .i64 1] 26)).alloc (.cells #[.int .i64 1] 3); replace J1 := ((J1.step hb).step (below_alloc _ (.cells #[.int .i64 2, .int .i64 3, .slice A4 n4 c4, .int .i64 1] 26))).step (below_alloc _ (.cells #[.int .i64 1] 3)); replace X2 := ((X2.step hb).alloc (.cells #[.int .i64 2, .int .i64 3, .slice A4 n4 c4, .int .i64 1] 26)).alloc (.cells #[.int .i64 1] 3); replace J2 := ((J2.step hb).step (below_alloc _ (.cells #[.int .i64 2, .int .i64 3, .slice A4 n4 c4, .int .i64 1] 26))).step (below_alloc _ (.cells #[.int .i64 1] 3)); have X4 := (CBox.new w4 2 3 A4 n4 c4 1).alloc (.cells #[.int .i64 1] 3); replace J4 := (J4.step (below_alloc _ (.cells #[.int .i64 2, .int .i64 3, .slice A4 n4 c4, .int .i64 1] 26))).step (below_alloc _ (.cells #[.int .i64 1] 3)); have I5 := one_at (w4.alloc (.cells #[.int .i64 2, .int .i64 3, .slice A4 n4 c4, .int .i64 1] 26)) 1 (by omega); simp only [World.size_alloc] at I5)
    | (go_at_call 17; have t1 := T5; clear T5 t1; refine (cond_same _ _ _ _ _ _ [1] _ _ _ _ _ _ [1] _ J1 I5).mono ?_; rintro e w5 ⟨rfl, hb⟩; rw [sameC_self]; clear J1 X1 I5; replace hB := below_step (below_step hB hb) (below_alloc _ (.cells #[.int .i64 1] 3)); replace X2 := X2.step hb; have z0 := X2.c0; have z1 := X2.c1; have z2 := X2.c2; have z3 := X2.c3; replace J2 := (J2.step hb).step (below_alloc _ (.cells #[.int .i64 1] 3)); replace J4 := (J4.step hb).step (below_alloc _ (.cells #[.int .i64 1] 3)); replace X4 := (X4.step hb).alloc (.cells #[.int .i64 1] 3); have I6 := one_at w5 1 (by omega))
    | (go_at_call 17; have t1 := T6; clear T6 t1; refine (cond_same _ _ _ _ _ _ [1] _ _ _ _ _ _ [1] _ J2 I6).mono ?_; rintro e w6 ⟨rfl, hb⟩; rw [sameC_self]; clear J2 X2 I6; replace hB := below_step (below_step hB hb) (below_alloc _ (.cells #[.int .i64 2] 3)); replace X4 := X4.step hb; have v0 := X4.c0; have v1 := X4.c1; have v2 := X4.c2; have v3 := X4.c3; replace J4 := (J4.step hb).step (below_alloc _ (.cells #[.int .i64 2] 3)); have I7 := one_at w6 2 (by omega))
    | (go_at_call 17; refine (cond_same _ _ _ _ _ _ [2] _ _ _ _ _ _ [2] _ J4 I7).mono ?_; rintro e w7 ⟨rfl, hb⟩; rw [sameC_self]; replace hB := below_step hB hb))
  go_ret
  exact ⟨rfl, hB⟩
end Go.Proofs.Ytbjkijifpikhkaa
