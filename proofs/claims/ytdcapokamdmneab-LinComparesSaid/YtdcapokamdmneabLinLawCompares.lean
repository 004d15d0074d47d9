/-
  For all expressions a and b, LinCompares returns true and leaves memory as it was. No condition.
-/
import Derived.Test.YtdcapokamdmneabRows
import Derived.Test.YtdcapokamdmneabKit
import Derived.Test.YtdcapokamdmneabLinKit
import Derived.Test.YtdcapokamdmneabLinBase
import Derived.Test.YtdcapokamdmneabLinComp
import Derived.Test.YtdcapokamdmneabRefComp
import Derived.Test.YtdcapokamdmneabLinAwake
import Derived.Test.YtdcapokamdmneabLinArgs
set_option linter.unusedVariables false
namespace Go.Proofs.Ytdcapokamdmneab.linCompares
open Go.ChangeShapes Go.WideShapes Go.ChangeAt Go.RowKit

theorem pair_swap (xs : List Int) (K : Int) (ys : List Int) (L : Int) : pairErr ys L xs K = pairErr xs K ys L := by
  unfold pairErr
  by_cases h : validB xs K = true ∧ validB ys L = true
  · rw [if_pos h, if_pos ⟨h.2, h.1⟩]
    by_cases e : xs.length = ys.length
    · rw [if_pos e, if_pos e.symm]
    · rw [if_neg e, if_neg (fun e' => e e'.symm)]
  · rw [if_neg h, if_neg (fun h' => h ⟨h'.2, h'.1⟩)]

theorem cmp_swap (x y : Int) : cmpI y x = -cmpI x y := by unfold cmpI; split <;> split <;> (try split) <;> omega
theorem ord_swap : ∀ xs ys : List Int, ordL ys xs = -ordL xs ys
  | [], [] => rfl
  | [], _ :: _ => rfl
  | _ :: _, [] => rfl
  | x :: xs, y :: ys => by
    have := ord_swap xs ys
    simp only [ordL]
    split <;> split <;> (try split) <;> omega
theorem ordE_swap (xs : List Int) (K : Int) (ys : List Int) (L : Int) : ordE ys L xs K = -ordE xs K ys L := by
  unfold ordE
  rw [ord_swap xs ys, cmp_swap K L]
  split <;> split <;> omega
theorem cmp_three (x y : Int) : cmpI x y = -1 ∨ cmpI x y = 0 ∨ cmpI x y = 1 := by unfold cmpI; split <;> (try split) <;> omega
theorem ord_three : ∀ xs ys : List Int, ordL xs ys = -1 ∨ ordL xs ys = 0 ∨ ordL xs ys = 1
  | [], [] => .inr (.inl rfl)
  | [], _ :: _ => .inr (.inl rfl)
  | _ :: _, [] => .inr (.inl rfl)
  | x :: xs, y :: ys => by
    have := ord_three xs ys
    simp only [ordL]
    split <;> (try split) <;> omega
theorem ordE_three (xs : List Int) (K : Int) (ys : List Int) (L : Int) : ordE xs K ys L = -1 ∨ ordE xs K ys L = 0 ∨ ordE xs K ys L = 1 := by
  unfold ordE
  have h1 := cmp_three K L
  have h2 := ord_three xs ys
  split <;> omega
theorem ord_zero : ∀ xs ys : List Int, xs.length = ys.length → (ordL xs ys = 0 ↔ xs = ys)
  | [], [], _ => by simp [ordL]
  | x :: xs, y :: ys, h => by
    have := ord_zero xs ys (by simpa using h)
    simp only [ordL, List.cons.injEq]
    rw [← this]
    split
    · constructor
      · omega
      · omega
    · split
      · constructor <;> omega
      · constructor
        · intro h'; exact ⟨by omega, h'⟩
        · intro h'; exact h'.2
theorem ordE_zero (xs : List Int) (K : Int) (ys : List Int) (L : Int) (h : xs.length = ys.length) : ordE xs K ys L = 0 ↔ xs = ys ∧ K = L := by
  unfold ordE
  rw [← ord_zero xs ys h]
  have : cmpI K L = 0 ↔ K = L := by unfold cmpI; split <;> (try split) <;> omega
  split <;> rename_i h0
  · rw [this]; simp [h0]
  · constructor
    · intro h'; exact absurd h' h0
    · intro h'; exact absurd h'.1 h0

/-- What the calls answer: the order v, the order o the other way round, the error p, whether the expressions are the same. -/
theorem answers (xs : List Int) (K : Int) (ys : List Int) (L : Int) :
    (pairErr xs K ys L ≠ 0 ∧ (if pairErr xs K ys L = 0 then ordE xs K ys L else 0) = 0 ∧ (if pairErr ys L xs K = 0 then ordE ys L xs K else 0) = 0) ∨
    (pairErr xs K ys L = 0 ∧ (if pairErr xs K ys L = 0 then ordE xs K ys L else 0) = -1 ∧ (if pairErr ys L xs K = 0 then ordE ys L xs K else 0) = 1 ∧ sameB xs K ys L = false) ∨
    (pairErr xs K ys L = 0 ∧ (if pairErr xs K ys L = 0 then ordE xs K ys L else 0) = 0 ∧ (if pairErr ys L xs K = 0 then ordE ys L xs K else 0) = 0 ∧ sameB xs K ys L = true) ∨
    (pairErr xs K ys L = 0 ∧ (if pairErr xs K ys L = 0 then ordE xs K ys L else 0) = 1 ∧ (if pairErr ys L xs K = 0 then ordE ys L xs K else 0) = -1 ∧ sameB xs K ys L = false) := by
  rw [pair_swap xs K ys L, ordE_swap xs K ys L]
  by_cases hp : pairErr xs K ys L = 0
  · have hz := ordE_zero xs K ys L (pair_zero hp).2.2
    rw [if_pos hp, if_pos hp]
    have hs : ordE xs K ys L ≠ 0 → sameB xs K ys L = false := fun h => by
      rw [Bool.eq_false_iff]; intro h'; exact h (hz.2 (sameB_true.1 h'))
    rcases ordE_three xs K ys L with h | h | h
    · exact .inr (.inl ⟨hp, h, by omega, hs (by omega)⟩)
    · exact .inr (.inr (.inl ⟨hp, h, by omega, sameB_true.2 (hz.1 h)⟩))
    · exact .inr (.inr (.inr ⟨hp, h, by omega, hs (by omega)⟩))
  · rw [if_neg hp, if_neg hp]
    exact .inl ⟨hp, rfl, rfl⟩


set_option maxHeartbeats 4000000 in
theorem walk (w : World) (A : Option Addr) (n c : Nat) (K : Int) (xs : List Int) (h : IntsAt w A n xs) (hK : -9223372036854775808 ≤ K ∧ K ≤ 9223372036854775807) (A' : Option Addr) (n' c' : Nat) (L : Int) (ys : List Int) (h' : IntsAt w A' n' ys) (hL : -9223372036854775808 ≤ L ∧ L ≤ 9223372036854775807) :
    Calls Try.prog 4 #[.agg #[.slice A n c, .int .i64 K], .agg #[.slice A' n' c', .int .i64 L]] w fun e w' => e = .returned (.bool true) ∧ Below w.heap.size w w' := by
  have B1 := (LBox.new w A n c K).alloc (.cells #[.slice A' n' c', .int .i64 L] 24)
  have B2 := LBox.new (w.alloc (.cells #[.slice A n c, .int .i64 K] 24)) A' n' c' L
  have hB := below_step (below_alloc w (.cells #[.slice A n c, .int .i64 K] 24)) (below_alloc _ (.cells #[.slice A' n' c', .int .i64 L] 24))
  have h1 := h.step hB
  have h2 := h'.step hB
  simp only [World.size_alloc] at B2
  clear h h'
  rcases answers xs K ys L with ⟨hp, hv, ho⟩ | ⟨hp, hv, ho, hs⟩ | ⟨hp, hv, ho, hs⟩ | ⟨hp, hv, ho, hs⟩
  · obtain ⟨p, hpp⟩ : ∃ p, pairErr xs K ys L = p := ⟨_, rfl⟩
    have HE2 := Lib.hid ((pair_swap xs K ys L).trans hpp)
    have q0 : p ≠ 0 := hpp ▸ hp
    have q1 : (p != 0) = true := by simpa using q0
    have q2 : (p == 0) = false := by simpa using q0
    have HE := Lib.hid hpp
    have HV := Lib.hid hv
    have HO := Lib.hid ho
    clear hpp hp hv ho q0
    have T1 : True := trivial
    go_enter Try.func4, Try.ntmps4
    (go_wp2_with (first | (go_at_call 15; have t1 := T1; clear T1 t1; refine (lin_comp _ _ _ _ xs _ _ _ _ ys _ h1 h2).mono ?_; rintro e w1 ⟨rfl, hb⟩; rw [HV.out, HE.out]; replace h1 := h1.step hb; replace h2 := h2.step hb; replace B1 := B1.step hb; replace B2 := B2.step hb; have c10 := B1.c0; have c11 := B1.c1; have c20 := B2.c0; have c21 := B2.c1; replace hB := below_step hB hb) | (go_at_call 15; refine (lin_comp _ _ _ _ ys _ _ _ _ xs _ h2 h1).mono ?_; rintro e w1 ⟨rfl, hb⟩; rw [HO.out, HE2.out]; replace h1 := h1.step hb; replace h2 := h2.step hb; replace B1 := B1.step hb; replace B2 := B2.step hb; have c10 := B1.c0; have c11 := B1.c1; have c20 := B2.c0; have c21 := B2.c1; replace hB := below_step hB hb) | (go_at_call 16; refine (ref_comp _ _ _ _ xs _ _ _ _ ys _ h1 h2 hK hL).mono ?_; rintro e w1 ⟨rfl, hb⟩; rw [HV.out, HE.out]; replace h1 := h1.step hb; replace h2 := h2.step hb; replace B1 := B1.step hb; replace B2 := B2.step hb; have c10 := B1.c0; have c11 := B1.c1; have c20 := B2.c0; have c21 := B2.c1; replace hB := below_step hB hb) | (go_at_call 17; refine (ref_same _ _ _ _ xs _ _ _ _ ys _ h1 h2).mono ?_; rintro e w1 ⟨rfl, hb⟩; rw [HS.out]; replace hB := below_step hB hb) | (go_at_call 14; refine (awake2 _).mono ?_; rintro e w3 ⟨rfl, hb⟩; replace hB := below_step hB hb)))
    go_ret
    exact ⟨rfl, hB⟩
  all_goals
    have HE2 := Lib.hid ((pair_swap xs K ys L).trans hp)
    have HE := Lib.hid hp
    have HV := Lib.hid hv
    have HO := Lib.hid ho
    have HS := Lib.hid hs
    clear hp hv ho hs
    have T1 : True := trivial
    go_enter Try.func4, Try.ntmps4
    (go_wp2_with (first | (go_at_call 15; have t1 := T1; clear T1 t1; refine (lin_comp _ _ _ _ xs _ _ _ _ ys _ h1 h2).mono ?_; rintro e w1 ⟨rfl, hb⟩; rw [HV.out, HE.out]; replace h1 := h1.step hb; replace h2 := h2.step hb; replace B1 := B1.step hb; replace B2 := B2.step hb; have c10 := B1.c0; have c11 := B1.c1; have c20 := B2.c0; have c21 := B2.c1; replace hB := below_step hB hb) | (go_at_call 15; refine (lin_comp _ _ _ _ ys _ _ _ _ xs _ h2 h1).mono ?_; rintro e w1 ⟨rfl, hb⟩; rw [HO.out, HE2.out]; replace h1 := h1.step hb; replace h2 := h2.step hb; replace B1 := B1.step hb; replace B2 := B2.step hb; have c10 := B1.c0; have c11 := B1.c1; have c20 := B2.c0; have c21 := B2.c1; replace hB := below_step hB hb) | (go_at_call 16; refine (ref_comp _ _ _ _ xs _ _ _ _ ys _ h1 h2 hK hL).mono ?_; rintro e w1 ⟨rfl, hb⟩; rw [HV.out, HE.out]; replace h1 := h1.step hb; replace h2 := h2.step hb; replace B1 := B1.step hb; replace B2 := B2.step hb; have c10 := B1.c0; have c11 := B1.c1; have c20 := B2.c0; have c21 := B2.c1; replace hB := below_step hB hb) | (go_at_call 17; refine (ref_same _ _ _ _ xs _ _ _ _ ys _ h1 h2).mono ?_; rintro e w1 ⟨rfl, hb⟩; rw [HS.out]; replace hB := below_step hB hb) | (go_at_call 14; refine (awake2 _).mono ?_; rintro e w3 ⟨rfl, hb⟩; replace hB := below_step hB hb)))
    go_ret
    exact ⟨rfl, hB⟩

set_option maxRecDepth 100000 in
theorem lifted (os : Os) (started : os.Started) (H : Type) (enc : TypeId × Value → H) :
    ReturnsInHanded {} Try.checked os 4 .any (Rows.linComparesSpec.pre6 enc Try.prog Try.f4 Rows.linComparesRow.domain false) (Rows.linComparesSpec.post enc Try.prog Try.f4 false true false false) := by
  refine returnsInHanded_of_change_sized (C := Try.checked) own started (by kernel_rfl) Try.func4
    (ChangeSpec.witness6 (enc := enc) (C := Try.checked) false ⟨#[], #[.agg #[.slice none 0 0, .int .i64 0], .agg #[.slice none 0 0, .int .i64 0]], []⟩ 8 (by kernel_rfl) (by kernel_rfl) (by kernel_rfl) (by kernel_rfl)) ?_
  intro W base args ds gs before hval0 hW _ hsz0 _
  have hval : ∀ (j : Nat) t v, Try.f4.params[j]? = some t → args[j]? = some v → Value.okWide Try.prog W .any base t v := hval0
  have hW' := hW
  have hlt := hW.lt
  obtain ⟨p, q, hA0, hV, rfl, hfz, hnd⟩ := hW
  have hA : DataW.TrodAll enc Try.prog W 0 (fun _ => true) true Try.f4.params.toList args.toList ds p := hA0
  have hsz : (DataW.weightsEach Try.prog (Try.f4.params.toList ++ []) (ds ++ gs)).all (· ≤ reachBytes) = true := hsz0
  rw [Try.params4] at hA hval hsz
  obtain ⟨rfl, rfl⟩ := trodVars_none hV
  obtain ⟨v0, vs0, d0, ds0, p0, q0, hargs, rfl, rfl, h0, r0⟩ := trodAll_cons hA
  obtain ⟨v1, vs1, d1, ds1, p1, q1, rfl, rfl, rfl, h1, r1⟩ := trodAll_cons r0
  obtain ⟨rfl, rfl, rfl⟩ := trodAll_nil r1
  obtain rfl : args = #[v0, v1] := by cases args; simp_all
  obtain ⟨z0, hsz⟩ := weights_cons hsz
  obtain ⟨z1, hsz⟩ := weights_cons hsz
  have hpost : ∀ W' : World, Below W.heap.size W W' → ∃ v, Ending.returned (.bool true) = .returned v ∧ Rows.linComparesSpec.post enc Try.prog Try.f4 false true false false W #[v0, v1] v W' :=
    fun W' hb => ⟨_, rfl, law_post laidOut (of_decide_eq_true (by kernel_rfl)) rfl rfl Try.underlying4 rfl hW' hb⟩
  obtain ⟨A0, n0, c0, K0, xs0, rfl, I0, k0⟩ := lin_of (hval 0 24 v0 rfl rfl) (fun x hx => hlt x (by simp only [List.mem_append]; simp [hx])) z0 h0
  obtain ⟨A1, n1, c1, K1, xs1, rfl, I1, k1⟩ := lin_of (hval 1 24 v1 rfl rfl) (fun x hx => hlt x (by simp only [List.mem_append]; simp [hx])) z1 h1
  refine (walk A0 n0 c0 K0 xs0 I0 k0 A1 n1 c1 K1 xs1 I1 k1 (w := W)).mono fun e W' ⟨he, hb⟩ => ?_
  subst he
  exact hpost W' hb

theorem proved : Rows.LinComparesSaid :=
  OpenClaim.holds_of_wide 4 Try.f4 rfl rfl rfl rfl rfl rfl rfl ⟨rfl, rfl, rfl, rfl, rfl⟩ rfl rfl rfl rfl rfl (by kernel_rfl) Try.func4 (by kernel_rfl)
    (of_decide_eq_true (by kernel_rfl)) (by unfold Func.isWrapper; first | (rw [if_pos (by decide +kernel)]; kernel_rfl) | (rw [if_neg (by decide +kernel)]; exact ⟨rfl, rfl⟩))
    (fun os started H enc _ => lifted os started H enc)
#print axioms proved
end Go.Proofs.Ytdcapokamdmneab.linCompares
