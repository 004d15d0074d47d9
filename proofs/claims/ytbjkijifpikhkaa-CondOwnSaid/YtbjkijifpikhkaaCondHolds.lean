/-
  Holds, both.
-/
import Derived.Test.YtbjkijifpikhkaaProg
import Derived.Test.YtbjkijifpikhkaaKit
import Derived.Test.YtbjkijifpikhkaaLinKit
import Derived.Test.YtbjkijifpikhkaaLinBase
import Derived.Test.YtbjkijifpikhkaaLinPoint
import Derived.Test.YtbjkijifpikhkaaNumBase
import Derived.Test.YtbjkijifpikhkaaCondKit
namespace Go.Proofs.Ytbjkijifpikhkaa
open Go.RowKit
set_option linter.unusedVariables false
set_option linter.unusedSimpArgs false

/-- Does a condition of this kind hold where its expression has the value v? -/
def holdB (q M v : Int) : Bool := if q = 0 then decide (0 ≤ v) else if q = 1 then decide (v = 0) else decide (v % M = 0)
noncomputable def hErr (q M : Int) (xs : List Int) (K : Int) (ps : List Int) : Int := if validC q M xs K = true then atErr xs K ps else 1
noncomputable def hVal (q M : Int) (xs : List Int) (K : Int) (ps : List Int) : Bool := if hErr q M xs K ps = 0 then holdB q M (atVal xs K ps) else false
theorem h_inv {q M : Int} {xs : List Int} {K : Int} {ps : List Int} (h : validC q M xs K = false) : hVal q M xs K ps = false ∧ hErr q M xs K ps = 1 := by
  have e : hErr q M xs K ps = 1 := by unfold hErr; rw [h]; rfl
  exact ⟨by unfold hVal; rw [e]; rfl, e⟩
theorem h_bad {q M : Int} {xs : List Int} {K : Int} {ps : List Int} (h : validC q M xs K = true) (he : atErr xs K ps ≠ 0) : hVal q M xs K ps = false ∧ hErr q M xs K ps = atErr xs K ps := by
  have e : hErr q M xs K ps = atErr xs K ps := by unfold hErr; rw [if_pos h]
  exact ⟨by unfold hVal; rw [e, if_neg he], e⟩
theorem h_ok {q M : Int} {xs : List Int} {K : Int} {ps : List Int} (h : validC q M xs K = true) (he : atErr xs K ps = 0) : hVal q M xs K ps = holdB q M (atVal xs K ps) ∧ hErr q M xs K ps = 0 := by
  have e : hErr q M xs K ps = 0 := by unfold hErr; rw [if_pos h, he]
  exact ⟨by unfold hVal; rw [e, if_pos rfl], e⟩
theorem validC_kind {q M : Int} {xs : List Int} {K : Int} (h : validC q M xs K = true) : validB xs K = true ∧ ((q = 0 ∧ M = 0) ∨ (q = 1 ∧ M = 0) ∨ (q = 2 ∧ 1 ≤ M ∧ M ≤ 512)) := by
  unfold validC at h
  rw [Bool.and_eq_true] at h
  refine ⟨h.1, ?_⟩
  have h2 := h.2
  split at h2
  · rename_i e; simp at h2; exact .inr (.inr ⟨e, h2.1, h2.2⟩)
  · simp at h2
    rcases h2 with ⟨h2 | h2, h3⟩
    · exact .inl ⟨h2, h3⟩
    · exact .inr (.inl ⟨h2, h3⟩)
theorem retB {a b : Bool} {x y : Int} (h : a = b) (h' : x = y) : Ending.returned (.tuple #[.bool a, .int .i64 x]) = Ending.returned (.tuple #[.bool b, .int .i64 y]) := by rw [h, h']

set_option maxHeartbeats 4000000 in
theorem cond_holds (q M : Int) (A : Option Addr) (n c : Nat) (K : Int) (xs : List Int) (A' : Option Addr) (n' c' : Nat) (ps : List Int) (w : World) (hI : IntsAt w A n xs) (hI' : IntsAt w A' n' ps) :
    Calls Try.prog 10 #[condV q M A n c K, .slice A' n' c'] w fun e w' => e = .returned (.tuple #[.bool (hVal q M xs K ps), .int .i64 (hErr q M xs K ps)]) ∧ Below w.heap.size w w' := by
  have hB := below_alloc w (.cells #[.int .i64 q, .int .i64 M, .slice A n c, .int .i64 K] 26)
  have h1 := hI.step hB
  have h2 := hI'.step hB
  have B1 := CBox.new w q M A n c K
  clear hI hI'
  cases hv : validC q M xs K
  · have HE := Lib.hid (h_inv (ps := ps) hv)
    have HV := Lib.hid hv
    clear hv
    go_enter Try.func10, Try.ntmps10
    go_wp2_with (go_at_call 12; refine (cond_valid _ _ _ _ _ _ xs _ h1).mono ?_; rintro e w1 ⟨rfl, hb⟩; rw [HV.out]; replace hB := below_step hB hb)
    go_ret2
    exact ⟨retB HE.out.1.symm HE.out.2.symm, hB⟩
  · by_cases he : atErr xs K ps = 0
    · have HE := Lib.hid (h_ok hv he)
      have HV := Lib.hid hv
      have HA := Lib.hid he
      obtain ⟨v, hvv⟩ : ∃ v, atVal xs K ps = v := ⟨_, rfl⟩
      have HX := Lib.hid hvv
      rw [hvv] at HE
      have hrg : -9223372036854775808 ≤ v ∧ v ≤ 9223372036854775807 := by
        have hvB := (validC_kind hv).1
        have h0 : dotErr xs ps = 0 := by
          by_cases h0 : dotErr xs ps = 0
          · exact h0
          · rw [← (at_bad hvB h0).2] at he; exact absurd he h0
        obtain ⟨_, a2, a3⟩ := dotErr_zero.1 h0
        have hbd := sum_bd (validB_true.1 hvB).2.1 a2 a3
        rw [← hvv]; unfold atVal; rw [if_pos he]; omega
      have hk := (validC_kind hv).2
      clear hv he hvv
      rcases hk with ⟨rfl, rfl⟩ | ⟨rfl, rfl⟩ | ⟨rfl, hM, hM'⟩
      · have hf := HE.out.1
        go_enter Try.func10, Try.ntmps10
        clear hf
        go_wp2_with (first
          | (go_at_call 12; refine (cond_valid _ _ _ _ _ _ xs _ h1).mono ?_; rintro e w1 ⟨rfl, hb⟩; rw [HV.out]; replace hB := below_step hB hb; replace h1 := h1.step hb; replace h2 := h2.step hb; replace B1 := B1.step hb; have c0 := B1.c0; have c1 := B1.c1; have c2 := B1.c2; have c3 := B1.c3)
          | (go_at_call 24; refine (lin_at _ _ _ _ xs _ _ _ ps _ h1 h2).mono ?_; rintro e w1 ⟨rfl, hb⟩; rw [HA.out, HX.out]; replace hB := below_step hB hb; replace B1 := B1.step hb; have c0 := B1.c0; have c1 := B1.c1))
        go_ret2
        exact ⟨retB (by rw [HE.out.1]; unfold holdB; first | (simp; done) | (simp; rfl)) HE.out.2.symm, hB⟩
      · go_enter Try.func10, Try.ntmps10
        go_wp2_with (first
          | (go_at_call 12; refine (cond_valid _ _ _ _ _ _ xs _ h1).mono ?_; rintro e w1 ⟨rfl, hb⟩; rw [HV.out]; replace hB := below_step hB hb; replace h1 := h1.step hb; replace h2 := h2.step hb; replace B1 := B1.step hb; have c0 := B1.c0; have c1 := B1.c1; have c2 := B1.c2; have c3 := B1.c3)
          | (go_at_call 24; refine (lin_at _ _ _ _ xs _ _ _ ps _ h1 h2).mono ?_; rintro e w1 ⟨rfl, hb⟩; rw [HA.out, HX.out]; replace hB := below_step hB hb; replace B1 := B1.step hb; have c0 := B1.c0; have c1 := B1.c1))
        go_ret2
        exact ⟨retB (by rw [HE.out.1]; unfold holdB; first | (simp; done) | (simp; rfl)) HE.out.2.symm, hB⟩
      · go_enter Try.func10, Try.ntmps10
        go_wp2_with (first
          | (go_at_call 12; refine (cond_valid _ _ _ _ _ _ xs _ h1).mono ?_; rintro e w1 ⟨rfl, hb⟩; rw [HV.out]; replace hB := below_step hB hb; replace h1 := h1.step hb; replace h2 := h2.step hb; replace B1 := B1.step hb; have c0 := B1.c0; have c1 := B1.c1; have c2 := B1.c2; have c3 := B1.c3)
          | (go_at_call 24; refine (lin_at _ _ _ _ xs _ _ _ ps _ h1 h2).mono ?_; rintro e w1 ⟨rfl, hb⟩; rw [HA.out, HX.out]; replace hB := below_step hB hb; replace B1 := B1.step hb; have c0 := B1.c0; have c1 := B1.c1)
          | (go_at_call 25; refine (num_mod _ _ hrg.1 hrg.2 (by omega) hM _).mono ?_; rintro e w' ⟨rfl, rfl⟩))
        go_ret2
        exact ⟨retB (by rw [HE.out.1]; unfold holdB; first | (simp; done) | (simp; rfl)) HE.out.2.symm, hB⟩
    · have HE := Lib.hid (h_bad hv he)
      have HV := Lib.hid hv
      have q1 : (atErr xs K ps != 0) = true := by simpa using he
      have q2 : (atErr xs K ps == 0) = false := by simpa using he
      clear hv he
      go_enter Try.func10, Try.ntmps10
      go_wp2_with (first
        | (go_at_call 12; refine (cond_valid _ _ _ _ _ _ xs _ h1).mono ?_; rintro e w1 ⟨rfl, hb⟩; rw [HV.out]; replace hB := below_step hB hb; replace h1 := h1.step hb; replace h2 := h2.step hb; replace B1 := B1.step hb; have c0 := B1.c0; have c1 := B1.c1; have c2 := B1.c2; have c3 := B1.c3)
        | (go_at_call 24; refine (lin_at _ _ _ _ xs _ _ _ ps _ h1 h2).mono ?_; rintro e w1 ⟨rfl, hb⟩; replace hB := below_step hB hb))
      go_ret2
      exact ⟨retB HE.out.1.symm HE.out.2.symm, hB⟩

/-- The reference's Is, where the condition is of a known kind. -/
theorem ref_is (q M : Int) (A : Option Addr) (n c : Nat) (K : Int) (xs : List Int) (A' : Option Addr) (n' c' : Nat) (ps : List Int) (w : World) (hI : IntsAt w A n xs) (hI' : IntsAt w A' n' ps)
    (hk : fitsB K = true) (h12 : n ≤ 12) (hnn : n ≤ n') (hgood : ∀ j, j < n → goodAt xs ps j) (hq : (q = 0 ∧ M = 0) ∨ (q = 1 ∧ M = 0) ∨ (q = 2 ∧ 1 ≤ M ∧ M ≤ 512)) :
    Calls Try.prog 22 #[condV q M A n c K, .slice A' n' c'] w fun e w' => e = .returned (.bool (holdB q M (K + dotSum xs ps n))) ∧ Below w.heap.size w w' := by
  have hB := below_alloc w (.cells #[.int .i64 q, .int .i64 M, .slice A n c, .int .i64 K] 26)
  have h1 := hI.step hB
  have h2 := hI'.step hB
  have B1 := CBox.new w q M A n c K
  obtain ⟨v, hvv⟩ : ∃ v, K + dotSum xs ps n = v := ⟨_, rfl⟩
  have hrg := sum_bd hk h12 hgood
  rw [hvv] at hrg ⊢
  have HX := Lib.hid hvv
  clear hI hI' hvv
  rcases hq with ⟨rfl, rfl⟩ | ⟨rfl, rfl⟩ | ⟨rfl, hM, hM'⟩
  · go_enter Try.func22, Try.ntmps22
    go_wp2_with (go_at_call 39; refine (ref_value _ _ _ _ xs _ _ _ ps _ h1 h2 hk h12 hnn hgood).mono ?_; rintro e w1 ⟨rfl, hb⟩; rw [HX.out]; replace hB := below_step hB hb; replace B1 := B1.step hb; have c0 := B1.c0; have c1 := B1.c1)
    go_ret
    exact ⟨ret_bool (by unfold holdB; first | (simp; done) | (simp; rfl)), hB⟩
  · go_enter Try.func22, Try.ntmps22
    go_wp2_with (go_at_call 39; refine (ref_value _ _ _ _ xs _ _ _ ps _ h1 h2 hk h12 hnn hgood).mono ?_; rintro e w1 ⟨rfl, hb⟩; rw [HX.out]; replace hB := below_step hB hb; replace B1 := B1.step hb; have c0 := B1.c0; have c1 := B1.c1)
    go_ret
    exact ⟨ret_bool (by unfold holdB; first | (simp; done) | (simp; rfl)), hB⟩
  · have HM := Lib.hid (tmod_cases v M hM)
    have HN := Lib.hid (And.intro (Int.emod_nonneg v (show M ≠ 0 by omega)) (Int.emod_lt_of_pos v (show 0 < M by omega)))
    go_enter Try.func22, Try.ntmps22
    go_wp2_with (go_at_call 39; refine (ref_value _ _ _ _ xs _ _ _ ps _ h1 h2 hk h12 hnn hgood).mono ?_; rintro e w1 ⟨rfl, hb⟩; rw [HX.out]; replace hB := below_step hB hb; replace B1 := B1.step hb; have c0 := B1.c0; have c1 := B1.c1)
    go_ret
    exact ⟨ret_bool (show decide (v.tmod M = 0) = decide (v % M = 0) from decide_eq_decide.2 (by rw [← Int.dvd_iff_tmod_eq_zero, ← Int.dvd_iff_emod_eq_zero])), hB⟩

set_option maxHeartbeats 4000000 in
theorem ref_holds (q M : Int) (A : Option Addr) (n c : Nat) (K : Int) (xs : List Int) (A' : Option Addr) (n' c' : Nat) (ps : List Int) (w : World) (hI : IntsAt w A n xs) (hI' : IntsAt w A' n' ps) :
    Calls Try.prog 11 #[condV q M A n c K, .slice A' n' c'] w fun e w' => e = .returned (.tuple #[.bool (hVal q M xs K ps), .int .i64 (hErr q M xs K ps)]) ∧ Below w.heap.size w w' := by
  have hB := below_alloc w (.cells #[.int .i64 q, .int .i64 M, .slice A n c, .int .i64 K] 26)
  have h1 := hI.step hB
  have h2 := hI'.step hB
  have B1 := CBox.new w q M A n c K
  have HL := Lib.hid hI.len
  have HL' := Lib.hid hI'.len
  have hsm := hI.small
  have hsm' := hI'.small
  clear hI hI'
  cases hv : validC q M xs K
  · have HE := Lib.hid (h_inv (ps := ps) hv)
    have HV := Lib.hid hv
    clear hv
    go_enter Try.func11, Try.ntmps11
    go_wp2_with (go_at_call 13; refine (ref_cvalid _ _ _ _ _ _ xs _ h1).mono ?_; rintro e w1 ⟨rfl, hb⟩; rw [HV.out]; replace hB := below_step hB hb)
    go_ret2
    exact ⟨retB HE.out.1.symm HE.out.2.symm, hB⟩
  · have HV := Lib.hid hv
    obtain ⟨hvB, hkd⟩ := validC_kind hv
    rcases dot_cases (ps := ps) hvB with ⟨hl, hd⟩ | ⟨hl, hp, hd⟩ | ⟨hl, hp, hd⟩
    · have e0 : atErr xs K ps = 2 := by rw [← (at_bad (ps := ps) hvB (by rw [hd]; decide)).2, hd]
      have HE := Lib.hid (h_bad hv (show atErr xs K ps ≠ 0 by rw [e0]; decide))
      rw [e0] at HE
      have hne : n ≠ n' := by rw [← HL.out, ← HL'.out]; exact hl
      have q1 : ((n : Int) != (n' : Int)) = true := by simpa using fun e => hne (by omega)
      have q2 : ((n : Int) == (n' : Int)) = false := by simpa using fun e => hne (by omega)
      clear hd hl hne hv hvB hkd e0
      go_enter Try.func11, Try.ntmps11
      go_wp2_with (go_at_call 13; refine (ref_cvalid _ _ _ _ _ _ xs _ h1).mono ?_; rintro e w1 ⟨rfl, hb⟩; rw [HV.out]; replace hB := below_step hB hb; replace B1 := B1.step hb; have c0 := B1.c0; have c1 := B1.c1; have c2 := B1.c2; have c3 := B1.c3)
      go_ret2
      exact ⟨retB HE.out.1.symm HE.out.2.symm, hB⟩
    · have e0 : atErr xs K ps = 6 := by rw [← (at_bad (ps := ps) hvB (by rw [hd]; decide)).2, hd]
      have HE := Lib.hid (h_bad hv (show atErr xs K ps ≠ 0 by rw [e0]; decide))
      rw [e0] at HE
      obtain rfl : n = n' := by rw [← HL.out, ← HL'.out]; exact hl
      clear hd hl hv hvB hkd e0
      go_enter Try.func11, Try.ntmps11
      go_wp2_with (first
        | (go_at_call 13; refine (ref_cvalid _ _ _ _ _ _ xs _ h1).mono ?_; rintro e w1 ⟨rfl, hb⟩; rw [HV.out]; replace hB := below_step hB hb; replace h2 := h2.step hb; replace B1 := B1.step hb; have c0 := B1.c0; have c1 := B1.c1; have c2 := B1.c2; have c3 := B1.c3)
        | (go_at_call 26; refine (ref_point _ _ _ ps _ h2).mono ?_; rintro e w' ⟨rfl, rfl⟩))
      go_ret2
      exact ⟨retB HE.out.1.symm HE.out.2.symm, hB⟩
    · have hz := dotErr_zero.1 hd
      have e0 : atErr xs K ps = 0 := by unfold atErr; rw [if_pos hvB, hd]
      have HE := Lib.hid (h_ok hv e0)
      have ev : K + dotSum xs ps n = atVal xs K ps := by unfold atVal; rw [if_pos e0, HL.out]
      rw [← ev] at HE
      obtain rfl : n = n' := by rw [← HL.out, ← HL'.out]; exact hl
      have hk := (validB_true.1 hvB).2.1
      have HZ := Lib.hid (show n ≤ 12 ∧ ∀ j, j < n → goodAt xs ps j by rw [← HL.out]; exact hz.2)
      have HK := Lib.hid hkd
      clear hd hl hz hv hvB hkd e0 ev
      go_enter Try.func11, Try.ntmps11
      go_wp2_with (first
        | (go_at_call 13; refine (ref_cvalid _ _ _ _ _ _ xs _ h1).mono ?_; rintro e w1 ⟨rfl, hb⟩; rw [HV.out]; replace hB := below_step hB hb; replace h1 := h1.step hb; replace h2 := h2.step hb; replace B1 := B1.step hb; have c0 := B1.c0; have c1 := B1.c1; have c2 := B1.c2; have c3 := B1.c3)
        | (go_at_call 26; refine (ref_point _ _ _ ps _ h2).mono ?_; rintro e w' ⟨rfl, rfl⟩)
        | (go_at_call 22; refine (ref_is _ _ _ _ _ _ xs _ _ _ ps _ h1 h2 hk HZ.out.1 (Nat.le_refl _) HZ.out.2 HK.out).mono ?_; rintro e w' ⟨rfl, hb⟩; replace hB := below_step hB hb))
      go_ret2
      exact ⟨retB HE.out.1.symm HE.out.2.symm, hB⟩
end Go.Proofs.Ytbjkijifpikhkaa
