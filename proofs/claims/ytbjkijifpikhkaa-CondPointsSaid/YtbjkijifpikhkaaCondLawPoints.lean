/-
  For all conditions c and all lists x of integers, CondPoints returns true and leaves memory as it was. No condition.
-/
import Derived.Test.YtbjkijifpikhkaaRows
import Derived.Test.YtbjkijifpikhkaaKit
import Derived.Test.YtbjkijifpikhkaaLinKit
import Derived.Test.YtbjkijifpikhkaaLinPoint
import Derived.Test.YtbjkijifpikhkaaCondKit
import Derived.Test.YtbjkijifpikhkaaCondHolds
import Derived.Test.YtbjkijifpikhkaaCondAwake
import Derived.Test.YtbjkijifpikhkaaCondArgs
import Derived.Test.YtbjkijifpikhkaaNfMath
set_option linter.unusedVariables false
namespace Go.Proofs.Ytbjkijifpikhkaa.condPoints
open Go.ChangeShapes Go.WideShapes Go.ChangeAt Go.RowKit


theorem hErr_zero {q M : Int} {xs : List Int} {K : Int} {ps : List Int} (h : hErr q M xs K ps = 0) : validC q M xs K = true ∧ dotErr xs ps = 0 ∧ hVal q M xs K ps = holdB q M (K + dotSum xs ps xs.length) := by
  have hv : validC q M xs K = true := by
    cases hv : validC q M xs K
    · unfold hErr at h; rw [hv] at h; cases h
    · rfl
  have he : atErr xs K ps = 0 := by unfold hErr at h; rw [if_pos hv] at h; exact h
  refine ⟨hv, ?_, ?_⟩
  · unfold atErr at he; rw [if_pos (validC_kind hv).1] at he; exact he
  · rw [(h_ok hv he).1]; unfold atVal; rw [if_pos he]

set_option maxHeartbeats 8000000 in
theorem walk (w : World) (q M : Int) (A : Option Addr) (n c : Nat) (K : Int) (xs : List Int) (h : IntsAt w A n xs) (_ : -9223372036854775808 ≤ q ∧ q ≤ 9223372036854775807) (_ : -9223372036854775808 ≤ M ∧ M ≤ 9223372036854775807) (_ : -9223372036854775808 ≤ K ∧ K ≤ 9223372036854775807) (A' : Option Addr) (n' c' : Nat) (ps : List Int) (h' : IntsAt w A' n' ps) :
    Calls Try.prog 7 #[condV q M A n c K, .slice A' n' c'] w fun e w' => e = .returned (.bool true) ∧ Below w.heap.size w w' := by
  have hB := below_alloc w (.cells #[.int .i64 q, .int .i64 M, .slice A n c, .int .i64 K] 26)
  have h1 := h.step hB
  have h2 := h'.step hB
  have B1 := CBox.new w q M A n c K
  have T1 : True := trivial
  have hl := h.len
  have hl' := h'.len
  by_cases he : hErr q M xs K ps = 0
  · obtain ⟨hv, hd, hval⟩ := hErr_zero he
    obtain ⟨d1, d2, d3⟩ := dotErr_zero.1 hd
    have hnn : n = n' := by omega
    subst hnn
    have hVI := nf_holds (q := q) (M := M) (K := K) hl (validC_ok hv) ps
    have HH := Lib.hid (fun W (g1 : IntsAt W A n xs) (g2 : IntsAt W A' n ps) => cond_holds q M A n c K xs A' n c' ps W g1 g2)
    rw [hval, he, hl, hVI] at HH
    have HN := Lib.hid (fun W (h : IntsAt W A n xs) => cond_normal q M A n c K xs W h)
    rw [show nfV q M n xs K = nf q M n xs K by unfold nfV; rw [if_pos hv], show nfE q M xs K = 0 by unfold nfE; rw [if_pos hv]] at HN
    by_cases hs : (nf q M n xs K).2.2.2.2 = 0
    · rw [if_pos hs] at HH
      obtain ⟨i1, i2⟩ := nf_idem hl (validC_ok hv) hs
      have i3 := nf_valid hl hv hs
      obtain ⟨r, hr⟩ : ∃ r, nf q M n xs K = r := ⟨_, rfl⟩
      rw [hr] at HH HN hs i1 i2 i3
      have HN2 := Lib.hid (fun W A1 c1 (h : IntsAt W A1 n r.2.2.1) => cond_normal r.1 r.2.1 A1 n c1 r.2.2.2.1 r.2.2.1 W h)
      rw [show nfV r.1 r.2.1 n r.2.2.1 r.2.2.2.1 = r by unfold nfV; rw [if_pos i3]; exact i2, show nfE r.1 r.2.1 r.2.2.1 r.2.2.2.1 = 0 by unfold nfE; rw [if_pos i3]] at HN2
      have hv2 := validB_true.1 (validC_kind i3).1
      have hgood : ∀ j, j < n → goodAt r.2.2.1 ps j := fun j hj => ⟨fitsB_true.1 (hv2.2.2 _ (getD_mem (by omega))), (d3 j (by omega)).2⟩
      have HI := Lib.hid (fun W A1 c1 (g1 : IntsAt W A1 n r.2.2.1) (g2 : IntsAt W A' n ps) => ref_is r.1 r.2.1 A1 n c1 r.2.2.2.1 r.2.2.1 A' n c' ps W g1 g2 hv2.2.1 (by omega) (Nat.le_refl _) hgood (validC_kind i3).2)
      obtain ⟨v, hvv⟩ : ∃ v, holdB r.1 r.2.1 (r.2.2.2.1 + dotSum r.2.2.1 ps n) = v := ⟨_, rfl⟩
      rw [hvv] at HH HI
      have HL := Lib.hid i1
      have g2 : (v == v) = true := by simp
      clear hVI hval hvv hgood hv2 i1 i2 i3 hr d1 d2 d3 hd hv he h h' hl hl'
      go_enter Try.func7, Try.ntmps7
      go_wp2_with (first
        | (go_at_call 10; refine (HH.out _ h1 h2).mono ?_; rintro e w1 ⟨rfl, hb⟩; replace h1 := h1.step hb; replace h2 := h2.step hb; replace B1 := B1.step hb; have c0 := B1.c0; have c1 := B1.c1; have c2 := B1.c2; have c3 := B1.c3; replace hB := below_step hB hb)
        | ((go_at_call 15; have t1 := T1; clear T1 t1; refine (HN.out _ h1).mono ?_; rintro e w2 ⟨A1, n1, c1, rfl, J1, hb, _⟩; have b5 := below_alloc w2 (.cells #[.int .i64 r.1, .int .i64 r.2.1, .slice A1 n1 c1, .int .i64 r.2.2.2.1] 26); replace hB := below_step (below_step hB hb) b5; replace h2 := (h2.step hb).step b5; replace J1 := J1.step b5; have X1 := CBox.new w2 r.1 r.2.1 A1 n1 c1 r.2.2.2.1; have d0 := X1.c0; have d1 := X1.c1; have d2 := X1.c2; have d3 := X1.c3; clear b5); obtain rfl : n1 = n := J1.len.symm.trans HL.out)
        | (go_at_call 15; refine (HN2.out _ _ _ J1).mono ?_; rintro e w3 ⟨A3, n3, c3, rfl, J3, hb, _⟩; have b5 := below_alloc w3 (.cells #[.int .i64 r.1, .int .i64 r.2.1, .slice A3 n3 c3, .int .i64 r.2.2.2.1] 26); replace hB := below_step (below_step hB hb) b5; replace h2 := (h2.step hb).step b5; replace J1 := (J1.step hb).step b5; replace X1 := (X1.step hb).step b5; replace J3 := J3.step b5; have X3 := CBox.new w3 r.1 r.2.1 A3 n3 c3 r.2.2.2.1; have d0 := X1.c0; have d1 := X1.c1; have d2 := X1.c2; have d3 := X1.c3; clear b5)
        | (go_at_call 22; refine (HI.out _ _ _ J1 h2).mono ?_; rintro e w4 ⟨rfl, hb⟩; replace hB := below_step hB hb; replace J1 := J1.step hb; replace J3 := J3.step hb; replace X1 := X1.step hb; replace X3 := X3.step hb; have d0 := X1.c0; have d1 := X1.c1; have d2 := X1.c2; have d3 := X1.c3; have e0 := X3.c0; have e1 := X3.c1; have e2 := X3.c2; have e3 := X3.c3)
        | (go_at_call 17; refine (cond_same _ _ _ _ _ _ r.2.2.1 _ _ _ _ _ _ r.2.2.1 _ J3 J1).mono ?_; rintro e w3 ⟨rfl, hb⟩; rw [sameC_self]; replace hB := below_step hB hb)
        | (go_at_call 14; refine (awake3 _).mono ?_; rintro e w5 ⟨rfl, hb⟩; replace hB := below_step hB hb))
      go_ret
      exact ⟨rfl, hB⟩
    · rw [if_neg hs] at HH
      have hs1 : (nf q M n xs K).2.2.2.2 = 1 ∨ (nf q M n xs K).2.2.2.2 = -1 := by
        rcases nf_case (K := K) hl (validC_ok hv) with ⟨s, hs', h, hh⟩ | ⟨g, rfl, hg, h, h1, hd⟩ | ⟨D, rfl, hD, h, h1, h2, hd, hK⟩ | ⟨h, rfl, h0, hM, hne, e, hd, hK, hg⟩
        · rw [h]; exact hs'
        · rw [h] at hs; exact absurd rfl hs
        · rw [h] at hs; exact absurd rfl hs
        · rw [e] at hs; exact absurd rfl hs
      obtain ⟨r, hr⟩ : ∃ r, nf q M n xs K = r := ⟨_, rfl⟩
      rw [hr] at HH HN hs hs1
      clear hVI hval hr d1 d2 d3 hd hv he h h' hl hl' hs
      rcases hs1 with hs | hs
      all_goals
        rw [hs] at HH
        go_enter Try.func7, Try.ntmps7
        go_wp2_with (first
          | (go_at_call 10; refine (HH.out _ h1 h2).mono ?_; rintro e w1 ⟨rfl, hb⟩; replace h1 := h1.step hb; replace h2 := h2.step hb; replace B1 := B1.step hb; have c0 := B1.c0; have c1 := B1.c1; have c2 := B1.c2; have c3 := B1.c3; replace hB := below_step hB hb)
          | (go_at_call 15; have t1 := T1; clear T1 t1; refine (HN.out _ h1).mono ?_; rintro e w2 ⟨A1, n1, c1, rfl, J1, hb, _⟩; have b5 := below_alloc w2 (.cells #[.int .i64 r.1, .int .i64 r.2.1, .slice A1 n1 c1, .int .i64 r.2.2.2.1] 26); replace hB := below_step (below_step hB hb) b5; replace h2 := (h2.step hb).step b5; replace J1 := J1.step b5; have X1 := CBox.new w2 r.1 r.2.1 A1 n1 c1 r.2.2.2.1; have d0 := X1.c0; have d1 := X1.c1; have d2 := X1.c2; have d3 := X1.c3; clear b5)
          | (go_at_call 14; refine (awake3 _).mono ?_; rintro e w5 ⟨rfl, hb⟩; replace hB := below_step hB hb))
        go_ret
        exact ⟨rfl, hB⟩
  · obtain ⟨er, her⟩ : ∃ v, hErr q M xs K ps = v := ⟨_, rfl⟩
    obtain ⟨v, hv⟩ : ∃ v, hVal q M xs K ps = v := ⟨_, rfl⟩
    have HH := Lib.hid (fun W (g1 : IntsAt W A n xs) (g2 : IntsAt W A' n' ps) => cond_holds q M A n c K xs A' n' c' ps W g1 g2)
    have HN := Lib.hid (fun W (h : IntsAt W A n xs) => cond_normal q M A n c K xs W h)
    obtain ⟨r, hr⟩ : ∃ r, nfV q M n xs K = r := ⟨_, rfl⟩
    obtain ⟨s, hs⟩ : ∃ r, nfE q M xs K = r := ⟨_, rfl⟩
    rw [her, hv] at HH
    rw [hr, hs] at HN
    rw [her] at he
    have q1 : (er != 0) = true := by simpa using he
    have q2 : (er == 0) = false := by simpa using he
    clear her hv hr hs he h h' hl hl'
    go_enter Try.func7, Try.ntmps7
    go_wp2_with (first
      | (go_at_call 10; refine (HH.out _ h1 h2).mono ?_; rintro e w1 ⟨rfl, hb⟩; replace h1 := h1.step hb; replace h2 := h2.step hb; replace B1 := B1.step hb; have c0 := B1.c0; have c1 := B1.c1; have c2 := B1.c2; have c3 := B1.c3; replace hB := below_step hB hb)
      | (go_at_call 15; have t1 := T1; clear T1 t1; refine (HN.out _ h1).mono ?_; rintro e w2 ⟨A1, n1, c1, rfl, J1, hb, _⟩; have b5 := below_alloc w2 (.cells #[.int .i64 r.1, .int .i64 r.2.1, .slice A1 n1 c1, .int .i64 r.2.2.2.1] 26); replace hB := below_step (below_step hB hb) b5; replace h2 := (h2.step hb).step b5; replace J1 := J1.step b5; have X1 := CBox.new w2 r.1 r.2.1 A1 n1 c1 r.2.2.2.1; have d0 := X1.c0; have d1 := X1.c1; have d2 := X1.c2; have d3 := X1.c3; clear b5)
      | (go_at_call 14; refine (awake3 _).mono ?_; rintro e w5 ⟨rfl, hb⟩; replace hB := below_step hB hb))
    go_ret
    exact ⟨rfl, hB⟩

set_option maxRecDepth 100000 in
theorem lifted (os : Os) (started : os.Started) (H : Type) (enc : TypeId × Value → H) :
    ReturnsInHanded {} Try.checked os 7 .any (Rows.condPointsSpec.pre6 enc Try.prog Try.f7 Rows.condPointsRow.domain false) (Rows.condPointsSpec.post enc Try.prog Try.f7 false true false false) := by
  refine returnsInHanded_of_change_sized (C := Try.checked) own started (by kernel_rfl) Try.func7
    (ChangeSpec.witness6 (enc := enc) (C := Try.checked) false ⟨#[], #[.agg #[.int .i64 0, .int .i64 0, .slice none 0 0, .int .i64 0], .slice none 0 0], []⟩ 8 (by kernel_rfl) (by kernel_rfl) (by kernel_rfl) (by kernel_rfl)) ?_
  intro W base args ds gs before hval0 hW _ hsz0 _
  have hval : ∀ (j : Nat) t v, Try.f7.params[j]? = some t → args[j]? = some v → Value.okWide Try.prog W .any base t v := hval0
  have hW' := hW
  have hlt := hW.lt
  obtain ⟨p, q, hA0, hV, rfl, hfz, hnd⟩ := hW
  have hA : DataW.TrodAll enc Try.prog W 0 (fun _ => true) true Try.f7.params.toList args.toList ds p := hA0
  have hsz : (DataW.weightsEach Try.prog (Try.f7.params.toList ++ []) (ds ++ gs)).all (· ≤ reachBytes) = true := hsz0
  rw [Try.params7] at hA hval hsz
  obtain ⟨rfl, rfl⟩ := trodVars_none hV
  obtain ⟨v0, vs0, d0, ds0, p0, q0, hargs, rfl, rfl, h0, r0⟩ := trodAll_cons hA
  obtain ⟨v1, vs1, d1, ds1, p1, q1, rfl, rfl, rfl, h1, r1⟩ := trodAll_cons r0
  obtain ⟨rfl, rfl, rfl⟩ := trodAll_nil r1
  obtain rfl : args = #[v0, v1] := by cases args; simp_all
  obtain ⟨z0, hsz⟩ := weights_cons hsz
  obtain ⟨z1, hsz⟩ := weights_cons hsz
  have hpost : ∀ W' : World, Below W.heap.size W W' → ∃ v, Ending.returned (.bool true) = .returned v ∧ Rows.condPointsSpec.post enc Try.prog Try.f7 false true false false W #[v0, v1] v W' :=
    fun W' hb => ⟨_, rfl, law_post laidOut (of_decide_eq_true (by kernel_rfl)) rfl rfl Try.underlying4 rfl hW' hb⟩
  obtain ⟨q0, M0, A0, n0, c0, K0, xs0, rfl, I0, C0, kq0, kM0, k0⟩ := cond_ofC (hval 0 26 v0 rfl rfl) (fun x hx => hlt x (by simp only [List.mem_append]; simp [hx])) z0 h0
  obtain ⟨A1, n1, c1, xs1, rfl, I1⟩ := ints_of Try.underlying22 Try.underlying3 (by kernel_rfl) (by kernel_rfl) (hval 1 22 v1 rfl rfl) (fun x hx => hlt x (by simp only [List.mem_append]; simp [hx])) z1 h1
  refine (walk q0 M0 A0 n0 c0 K0 xs0 I0 kq0 kM0 k0 A1 n1 c1 xs1 I1 (w := W)).mono fun e W' ⟨he, hb⟩ => ?_
  subst he
  exact hpost W' hb

theorem proved : Rows.CondPointsSaid :=
  OpenClaim.holds_of_wide 7 Try.f7 rfl rfl rfl rfl rfl rfl rfl ⟨rfl, rfl, rfl, rfl, rfl⟩ rfl rfl rfl rfl rfl (by kernel_rfl) Try.func7 (by kernel_rfl)
    (of_decide_eq_true (by kernel_rfl)) (by unfold Func.isWrapper; first | (rw [if_pos (by decide +kernel)]; kernel_rfl) | (rw [if_neg (by decide +kernel)]; exact ⟨rfl, rfl⟩))
    (fun os started H enc _ => lifted os started H enc)
#print axioms proved
end Go.Proofs.Ytbjkijifpikhkaa.condPoints
