/-
  For all conditions a and b, CondCompares returns true and leaves memory as it was. No condition.
-/
import Derived.Test.YtbjkijifpikhkaaRows
import Derived.Test.YtbjkijifpikhkaaKit
import Derived.Test.YtbjkijifpikhkaaLinKit
import Derived.Test.YtbjkijifpikhkaaLinBase
import Derived.Test.YtbjkijifpikhkaaCondKit
import Derived.Test.YtbjkijifpikhkaaCondComp
import Derived.Test.YtbjkijifpikhkaaCondAwake
import Derived.Test.YtbjkijifpikhkaaCondArgs
set_option linter.unusedVariables false
namespace Go.Proofs.Ytbjkijifpikhkaa.condCompares
open Go.ChangeShapes Go.WideShapes Go.ChangeAt Go.RowKit

theorem cmp_swap (x y : Int) : cmpI y x = -cmpI x y := by unfold cmpI; split <;> split <;> (try split) <;> omega
theorem cmp_zero (x y : Int) : cmpI x y = 0 ↔ x = y := by unfold cmpI; split <;> (try split) <;> omega
theorem ord_swap : ∀ xs ys : List Int, ordL ys xs = -ordL xs ys
  | [], [] => rfl
  | [], _ :: _ => rfl
  | _ :: _, [] => rfl
  | x :: xs, y :: ys => by
    have := ord_swap xs ys
    simp only [ordL]
    split <;> split <;> (try split) <;> omega
theorem ordE_swap (xs : List Int) (K : Int) (ys : List Int) (L : Int) : ordE ys L xs K = -ordE xs K ys L := by
  unfold ordE
  rw [ord_swap xs ys, cmp_swap K L]
  split <;> split <;> omega
theorem ord_zero : ∀ xs ys : List Int, xs.length = ys.length → (ordL xs ys = 0 ↔ xs = ys)
  | [], [], _ => by simp [ordL]
  | x :: xs, y :: ys, h => by
    have := ord_zero xs ys (by simpa using h)
    simp only [ordL, List.cons.injEq]
    rw [← this]
    split
    · constructor
      · omega
      · omega
    · split
      · constructor <;> omega
      · constructor
        · intro h'; exact ⟨by omega, h'⟩
        · intro h'; exact h'.2
theorem ordE_zero (xs : List Int) (K : Int) (ys : List Int) (L : Int) (h : xs.length = ys.length) : ordE xs K ys L = 0 ↔ xs = ys ∧ K = L := by
  unfold ordE
  rw [← ord_zero xs ys h, ← cmp_zero K L]
  split <;> rename_i h0
  · simp [h0]
  · constructor
    · intro h'; exact absurd h' h0
    · intro h'; exact absurd h'.1 h0
theorem lead3_swap (a b c : Int) : leadI [-a, -b, -c] = -leadI [a, b, c] := by
  unfold leadI leadI leadI leadI
  split <;> split <;> (try omega) <;> split <;> split <;> (try omega) <;> split <;> split <;> omega
theorem lead3_zero (a b c : Int) : leadI [a, b, c] = 0 ↔ a = 0 ∧ b = 0 ∧ c = 0 := by
  unfold leadI leadI leadI leadI
  by_cases ha : a = 0 <;> by_cases hb : b = 0 <;> by_cases hc : c = 0 <;> simp [ha, hb, hc]
theorem lead3_bd (a b c : Int) (ha : -1 ≤ a ∧ a ≤ 1) (hb : -1 ≤ b ∧ b ≤ 1) (hc : -1 ≤ c ∧ c ≤ 1) : leadI [a, b, c] = -1 ∨ leadI [a, b, c] = 0 ∨ leadI [a, b, c] = 1 := by
  unfold leadI leadI leadI leadI
  split
  · split
    · split <;> omega
    · omega
  · omega
theorem rank_inj {q q' : Int} (h : q = 0 ∨ q = 1 ∨ q = 2) (h' : q' = 0 ∨ q' = 1 ∨ q' = 2) : rankI q = rankI q' ↔ q = q' := by
  rcases h with rfl | rfl | rfl <;> rcases h' with rfl | rfl | rfl <;> decide
theorem err_swap (q M : Int) (xs : List Int) (K : Int) (q' M' : Int) (ys : List Int) (L : Int) : ccErr q' M' ys L q M xs K = ccErr q M xs K q' M' ys L := by
  unfold ccErr
  by_cases h : validC q M xs K = true ∧ validC q' M' ys L = true
  · rw [if_pos h, if_pos ⟨h.2, h.1⟩]
    by_cases e : xs.length = ys.length
    · rw [if_pos e, if_pos e.symm]
    · rw [if_neg e, if_neg (fun e' => e e'.symm)]
  · rw [if_neg h, if_neg (fun h' => h ⟨h'.2, h'.1⟩)]

/-- What the calls answer: the order v, the order o the other way round, the error, whether the conditions are the same. -/
theorem answers (q M : Int) (xs : List Int) (K : Int) (q' M' : Int) (ys : List Int) (L : Int) :
    (ccErr q M xs K q' M' ys L ≠ 0 ∧ ccVal q M xs K q' M' ys L = 0 ∧ ccVal q' M' ys L q M xs K = 0) ∨
    (ccErr q M xs K q' M' ys L = 0 ∧ ccVal q M xs K q' M' ys L = -1 ∧ ccVal q' M' ys L q M xs K = 1 ∧ sameC q M xs K q' M' ys L = false) ∨
    (ccErr q M xs K q' M' ys L = 0 ∧ ccVal q M xs K q' M' ys L = 0 ∧ ccVal q' M' ys L q M xs K = 0 ∧ sameC q M xs K q' M' ys L = true) ∨
    (ccErr q M xs K q' M' ys L = 0 ∧ ccVal q M xs K q' M' ys L = 1 ∧ ccVal q' M' ys L q M xs K = -1 ∧ sameC q M xs K q' M' ys L = false) := by
  unfold ccVal
  rw [err_swap q M xs K q' M' ys L]
  by_cases hp : ccErr q M xs K q' M' ys L = 0
  · have hc : (validC q M xs K = true ∧ validC q' M' ys L = true) ∧ xs.length = ys.length := by
      unfold ccErr at hp
      split at hp
      · rename_i h
        split at hp
        · rename_i h2; exact ⟨h, h2⟩
        · cases hp
      · cases hp
    obtain ⟨⟨hv, hv'⟩, hl⟩ := hc
    have hq1 : q = 0 ∨ q = 1 ∨ q = 2 := by rcases (validC_kind hv).2 with h | h | h <;> simp [h.1]
    have hq2 : q' = 0 ∨ q' = 1 ∨ q' = 2 := by rcases (validC_kind hv').2 with h | h | h <;> simp [h.1]
    have hsw : ordC q' M' ys L q M xs K = -ordC q M xs K q' M' ys L := by
      unfold ordC
      rw [cmp_swap (rankI q) (rankI q'), cmp_swap M M', ordE_swap xs K ys L]
      exact lead3_swap _ _ _
    have hz : ordC q M xs K q' M' ys L = 0 ↔ sameC q M xs K q' M' ys L = true := by
      unfold ordC sameC
      rw [lead3_zero, cmp_zero, cmp_zero, ordE_zero xs K ys L hl, rank_inj hq1 hq2, Bool.and_eq_true, Bool.and_eq_true, beq_iff_eq, beq_iff_eq, sameB_true]
    have hb : ordC q M xs K q' M' ys L = -1 ∨ ordC q M xs K q' M' ys L = 0 ∨ ordC q M xs K q' M' ys L = 1 := by
      unfold ordC
      exact lead3_bd _ _ _ (cmp_bd _ _) (cmp_bd _ _) (ordE_bd _ _ _ _)
    rw [if_pos hp, if_pos hp, hsw]
    have hs : ordC q M xs K q' M' ys L ≠ 0 → sameC q M xs K q' M' ys L = false := fun h => by
      rw [Bool.eq_false_iff]; intro h'; exact h (hz.2 h')
    rcases hb with h | h | h
    · exact .inr (.inl ⟨hp, h, by omega, hs (by omega)⟩)
    · exact .inr (.inr (.inl ⟨hp, h, by omega, hz.1 h⟩))
    · exact .inr (.inr (.inr ⟨hp, h, by omega, hs (by omega)⟩))
  · rw [if_neg hp, if_neg hp]
    exact .inl ⟨hp, rfl, rfl⟩


set_option maxHeartbeats 8000000 in
theorem walk (w : World) (q M : Int) (A : Option Addr) (n c : Nat) (K : Int) (xs : List Int) (h : IntsAt w A n xs) (_ : -9223372036854775808 ≤ q ∧ q ≤ 9223372036854775807) (_ : -9223372036854775808 ≤ M ∧ M ≤ 9223372036854775807) (_ : -9223372036854775808 ≤ K ∧ K ≤ 9223372036854775807) (q' M' : Int) (A' : Option Addr) (n' c' : Nat) (L : Int) (ys : List Int) (h' : IntsAt w A' n' ys) (_ : -9223372036854775808 ≤ q' ∧ q' ≤ 9223372036854775807) (_ : -9223372036854775808 ≤ M' ∧ M' ≤ 9223372036854775807) (_ : -9223372036854775808 ≤ L ∧ L ≤ 9223372036854775807) :
    Calls Try.prog 6 #[condV q M A n c K, condV q' M' A' n' c' L] w fun e w' => e = .returned (.bool true) ∧ Below w.heap.size w w' := by
  have hB := below_step (below_alloc w (.cells #[.int .i64 q, .int .i64 M, .slice A n c, .int .i64 K] 26)) (below_alloc _ (.cells #[.int .i64 q', .int .i64 M', .slice A' n' c', .int .i64 L] 26))
  have h1 := h.step hB
  have h2 := h'.step hB
  have B1 := (CBox.new w q M A n c K).alloc (.cells #[.int .i64 q', .int .i64 M', .slice A' n' c', .int .i64 L] 26)
  have B2 := CBox.new (w.alloc (.cells #[.int .i64 q, .int .i64 M, .slice A n c, .int .i64 K] 26)) q' M' A' n' c' L
  simp only [World.size_alloc] at B2
  have c0 := B1.c0
  have c1 := B1.c1
  have c2 := B1.c2
  have c3 := B1.c3
  have d0 := B2.c0
  have d1 := B2.c1
  have d2 := B2.c2
  have d3 := B2.c3
  clear h h'
  rcases answers q M xs K q' M' ys L with ⟨hp, hv, ho⟩ | ⟨hp, hv, ho, hs⟩ | ⟨hp, hv, ho, hs⟩ | ⟨hp, hv, ho, hs⟩
  · obtain ⟨p, hpp⟩ : ∃ p, ccErr q M xs K q' M' ys L = p := ⟨_, rfl⟩
    have HE2 := Lib.hid ((err_swap q M xs K q' M' ys L).trans hpp)
    have q0 : p ≠ 0 := hpp ▸ hp
    have q1 : (p != 0) = true := by simpa using q0
    have q2 : (p == 0) = false := by simpa using q0
    have HE := Lib.hid hpp
    have HV := Lib.hid hv
    have HO := Lib.hid ho
    clear hpp hp hv ho q0
    have T1 : True := trivial
    go_enter Try.func6, Try.ntmps6
    (go_wp2_with (first | (go_at_call 20; have t1 := T1; clear T1 t1; refine (cond_comp _ _ _ _ _ _ xs _ _ _ _ _ _ ys _ h1 h2).mono ?_; rintro e w1 ⟨rfl, hb⟩; rw [HV.out, HE.out]; replace h1 := h1.step hb; replace h2 := h2.step hb; replace B1 := B1.step hb; replace B2 := B2.step hb; have c0 := B1.c0; have c1 := B1.c1; have c2 := B1.c2; have c3 := B1.c3; have d0 := B2.c0; have d1 := B2.c1; have d2 := B2.c2; have d3 := B2.c3; replace hB := below_step hB hb) | (go_at_call 20; refine (cond_comp _ _ _ _ _ _ ys _ _ _ _ _ _ xs _ h2 h1).mono ?_; rintro e w1 ⟨rfl, hb⟩; rw [HO.out, HE2.out]; replace h1 := h1.step hb; replace h2 := h2.step hb; replace B1 := B1.step hb; replace B2 := B2.step hb; have c0 := B1.c0; have c1 := B1.c1; have c2 := B1.c2; have c3 := B1.c3; have d0 := B2.c0; have d1 := B2.c1; have d2 := B2.c2; have d3 := B2.c3; replace hB := below_step hB hb) | (go_at_call 21; refine (rcond_comp _ _ _ _ _ _ xs _ _ _ _ _ _ ys _ h1 h2).mono ?_; rintro e w1 ⟨rfl, hb⟩; rw [HV.out, HE.out]; replace h1 := h1.step hb; replace h2 := h2.step hb; replace B1 := B1.step hb; replace B2 := B2.step hb; have c0 := B1.c0; have c1 := B1.c1; have c2 := B1.c2; have c3 := B1.c3; have d0 := B2.c0; have d1 := B2.c1; have d2 := B2.c2; have d3 := B2.c3; replace hB := below_step hB hb) | (go_at_call 17; refine (cond_same _ _ _ _ _ _ xs _ _ _ _ _ _ ys _ h1 h2).mono ?_; rintro e w1 ⟨rfl, hb⟩; rw [HS.out]; replace hB := below_step hB hb) | (go_at_call 14; refine (awake3 _).mono ?_; rintro e w5 ⟨rfl, hb⟩; replace hB := below_step hB hb)))
    go_ret
    exact ⟨rfl, hB⟩
  all_goals
    have HE2 := Lib.hid ((err_swap q M xs K q' M' ys L).trans hp)
    have HE := Lib.hid hp
    have HV := Lib.hid hv
    have HO := Lib.hid ho
    have HS := Lib.hid hs
    clear hp hv ho hs
    have T1 : True := trivial
    go_enter Try.func6, Try.ntmps6
    (go_wp2_with (first | (go_at_call 20; have t1 := T1; clear T1 t1; refine (cond_comp _ _ _ _ _ _ xs _ _ _ _ _ _ ys _ h1 h2).mono ?_; rintro e w1 ⟨rfl, hb⟩; rw [HV.out, HE.out]; replace h1 := h1.step hb; replace h2 := h2.step hb; replace B1 := B1.step hb; replace B2 := B2.step hb; have c0 := B1.c0; have c1 := B1.c1; have c2 := B1.c2; have c3 := B1.c3; have d0 := B2.c0; have d1 := B2.c1; have d2 := B2.c2; have d3 := B2.c3; replace hB := below_step hB hb) | (go_at_call 20; refine (cond_comp _ _ _ _ _ _ ys _ _ _ _ _ _ xs _ h2 h1).mono ?_; rintro e w1 ⟨rfl, hb⟩; rw [HO.out, HE2.out]; replace h1 := h1.step hb; replace h2 := h2.step hb; replace B1 := B1.step hb; replace B2 := B2.step hb; have c0 := B1.c0; have c1 := B1.c1; have c2 := B1.c2; have c3 := B1.c3; have d0 := B2.c0; have d1 := B2.c1; have d2 := B2.c2; have d3 := B2.c3; replace hB := below_step hB hb) | (go_at_call 21; refine (rcond_comp _ _ _ _ _ _ xs _ _ _ _ _ _ ys _ h1 h2).mono ?_; rintro e w1 ⟨rfl, hb⟩; rw [HV.out, HE.out]; replace h1 := h1.step hb; replace h2 := h2.step hb; replace B1 := B1.step hb; replace B2 := B2.step hb; have c0 := B1.c0; have c1 := B1.c1; have c2 := B1.c2; have c3 := B1.c3; have d0 := B2.c0; have d1 := B2.c1; have d2 := B2.c2; have d3 := B2.c3; replace hB := below_step hB hb) | (go_at_call 17; refine (cond_same _ _ _ _ _ _ xs _ _ _ _ _ _ ys _ h1 h2).mono ?_; rintro e w1 ⟨rfl, hb⟩; rw [HS.out]; replace hB := below_step hB hb) | (go_at_call 14; refine (awake3 _).mono ?_; rintro e w5 ⟨rfl, hb⟩; replace hB := below_step hB hb)))
    go_ret
    exact ⟨rfl, hB⟩

set_option maxRecDepth 100000 in
theorem lifted (os : Os) (started : os.Started) (H : Type) (enc : TypeId × Value → H) :
    ReturnsInHanded {} Try.checked os 6 .any (Rows.condComparesSpec.pre6 enc Try.prog Try.f6 Rows.condComparesRow.domain false) (Rows.condComparesSpec.post enc Try.prog Try.f6 false true false false) := by
  refine returnsInHanded_of_change_sized (C := Try.checked) own started (by kernel_rfl) Try.func6
    (ChangeSpec.witness6 (enc := enc) (C := Try.checked) false ⟨#[], #[.agg #[.int .i64 0, .int .i64 0, .slice none 0 0, .int .i64 0], .agg #[.int .i64 0, .int .i64 0, .slice none 0 0, .int .i64 0]], []⟩ 8 (by kernel_rfl) (by kernel_rfl) (by kernel_rfl) (by kernel_rfl)) ?_
  intro W base args ds gs before hval0 hW _ hsz0 _
  have hval : ∀ (j : Nat) t v, Try.f6.params[j]? = some t → args[j]? = some v → Value.okWide Try.prog W .any base t v := hval0
  have hW' := hW
  have hlt := hW.lt
  obtain ⟨p, q, hA0, hV, rfl, hfz, hnd⟩ := hW
  have hA : DataW.TrodAll enc Try.prog W 0 (fun _ => true) true Try.f6.params.toList args.toList ds p := hA0
  have hsz : (DataW.weightsEach Try.prog (Try.f6.params.toList ++ []) (ds ++ gs)).all (· ≤ reachBytes) = true := hsz0
  rw [Try.params6] at hA hval hsz
  obtain ⟨rfl, rfl⟩ := trodVars_none hV
  obtain ⟨v0, vs0, d0, ds0, p0, q0, hargs, rfl, rfl, h0, r0⟩ := trodAll_cons hA
  obtain ⟨v1, vs1, d1, ds1, p1, q1, rfl, rfl, rfl, h1, r1⟩ := trodAll_cons r0
  obtain ⟨rfl, rfl, rfl⟩ := trodAll_nil r1
  obtain rfl : args = #[v0, v1] := by cases args; simp_all
  obtain ⟨z0, hsz⟩ := weights_cons hsz
  obtain ⟨z1, hsz⟩ := weights_cons hsz
  have hpost : ∀ W' : World, Below W.heap.size W W' → ∃ v, Ending.returned (.bool true) = .returned v ∧ Rows.condComparesSpec.post enc Try.prog Try.f6 false true false false W #[v0, v1] v W' :=
    fun W' hb => ⟨_, rfl, law_post laidOut (of_decide_eq_true (by kernel_rfl)) rfl rfl Try.underlying4 rfl hW' hb⟩
  obtain ⟨q0, M0, A0, n0, c0, K0, xs0, rfl, I0, C0, kq0, kM0, k0⟩ := cond_ofC (hval 0 26 v0 rfl rfl) (fun x hx => hlt x (by simp only [List.mem_append]; simp [hx])) z0 h0
  obtain ⟨q1, M1, A1, n1, c1, K1, xs1, rfl, I1, C1, kq1, kM1, k1⟩ := cond_ofC (hval 1 26 v1 rfl rfl) (fun x hx => hlt x (by simp only [List.mem_append]; simp [hx])) z1 h1
  refine (walk q0 M0 A0 n0 c0 K0 xs0 I0 kq0 kM0 k0 q1 M1 A1 n1 c1 K1 xs1 I1 kq1 kM1 k1 (w := W)).mono fun e W' ⟨he, hb⟩ => ?_
  subst he
  exact hpost W' hb

theorem proved : Rows.CondComparesSaid :=
  OpenClaim.holds_of_wide 6 Try.f6 rfl rfl rfl rfl rfl rfl rfl ⟨rfl, rfl, rfl, rfl, rfl⟩ rfl rfl rfl rfl rfl (by kernel_rfl) Try.func6 (by kernel_rfl)
    (of_decide_eq_true (by kernel_rfl)) (by unfold Func.isWrapper; first | (rw [if_pos (by decide +kernel)]; kernel_rfl) | (rw [if_neg (by decide +kernel)]; exact ⟨rfl, rfl⟩))
    (fun os started H enc _ => lifted os started H enc)
#print axioms proved
end Go.Proofs.Ytbjkijifpikhkaa.condCompares
