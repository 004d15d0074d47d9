/-
  Conditions in variables, and the two Valid of layer 3.
-/
import Derived.Test.YtbjkijifpikhkaaProg
import Derived.Test.YtbjkijifpikhkaaKit
import Derived.Test.YtbjkijifpikhkaaLinKit
import Derived.Test.YtbjkijifpikhkaaLinTerms
import Derived.Test.YtbjkijifpikhkaaLinBase
namespace Go.Proofs.Ytbjkijifpikhkaa
open Go.RowKit
set_option linter.unusedVariables false
set_option linter.unusedSimpArgs false

/-- A condition as a value. -/
abbrev condV (q M : Int) (A : Option Addr) (n c : Nat) (K : Int) : Value := .agg #[.int .i64 q, .int .i64 M, .slice A n c, .int .i64 K]
/-- Block b is a variable that holds a condition. -/
def CBox (w : World) (b : Nat) (q M : Int) (A : Option Addr) (n c : Nat) (K : Int) : Prop := w.heap[b]? = some (.cells #[.int .i64 q, .int .i64 M, .slice A n c, .int .i64 K] 26 (0, 0))
section
variable {w w' : World} {b : Nat} {q M : Int} {A : Option Addr} {n c : Nat} {K : Int}
theorem CBox.new (w : World) (q M : Int) (A : Option Addr) (n c : Nat) (K : Int) : CBox (w.alloc (.cells #[.int .i64 q, .int .i64 M, .slice A n c, .int .i64 K] 26)) w.heap.size q M A n c K := heap_alloc_new w _
theorem CBox.lt (h : CBox w b q M A n c K) : b < w.heap.size := (Array.getElem?_eq_some_iff.1 h).1
theorem CBox.below {B : Nat} (h : CBox w b q M A n c K) (hb : Below B w w') (hB : b < B) : CBox w' b q M A n c K := (hb.block b hB).trans h
theorem CBox.step (h : CBox w b q M A n c K) (hb : Below w.heap.size w w') : CBox w' b q M A n c K := h.below hb h.lt
theorem CBox.alloc (h : CBox w b q M A n c K) (o : Obj) : CBox (w.alloc o) b q M A n c K := h.step (below_alloc w o)
theorem CBox.c0 (h : CBox w b q M A n c K) : w.cell? ⟨b, 0, none⟩ = some (.int .i64 q) := by rw [cell_of_row w b 0 _ _ (0, 0) h]; rfl
theorem CBox.c1 (h : CBox w b q M A n c K) : w.cell? ⟨b, 1, none⟩ = some (.int .i64 M) := by rw [cell_of_row w b 1 _ _ (0, 0) h]; rfl
theorem CBox.c2 (h : CBox w b q M A n c K) : w.cell? ⟨b, 2, none⟩ = some (.slice A n c) := by rw [cell_of_row w b 2 _ _ (0, 0) h]; rfl
theorem CBox.c3 (h : CBox w b q M A n c K) : w.cell? ⟨b, 3, none⟩ = some (.int .i64 K) := by rw [cell_of_row w b 3 _ _ (0, 0) h]; rfl
end

theorem CBox.f {w : World} {b : Nat} {q M : Int} {A : Option Addr} {n c : Nat} {K : Int} (h : CBox w b q M A n c K) (j : Nat) : w.frozen? ⟨b, j, none⟩ = false := by
  unfold CBox at h; simp [World.frozen?, h]
/-- The four stores of a condition into a variable. -/
theorem CBox.four {w : World} {b : Nat} {q M : Int} {A : Option Addr} {n c : Nat} {K : Int} (h : CBox w b q M A n c K) (q' M' : Int) (A' : Option Addr) (n' c' : Nat) (K' : Int) :
    (w.setCell ⟨b, 0, none⟩ (.int .i64 q')).cell? ⟨b, 0, none⟩ = some (.int .i64 q') ∧
    ((w.setCell ⟨b, 0, none⟩ (.int .i64 q')).setCell ⟨b, 1, none⟩ (.int .i64 M')).cell? ⟨b, 1, none⟩ = some (.int .i64 M') ∧
    (((w.setCell ⟨b, 0, none⟩ (.int .i64 q')).setCell ⟨b, 1, none⟩ (.int .i64 M')).setCell ⟨b, 2, none⟩ (.slice A' n' c')).cell? ⟨b, 2, none⟩ = some (.slice A' n' c') ∧
    ((((w.setCell ⟨b, 0, none⟩ (.int .i64 q')).setCell ⟨b, 1, none⟩ (.int .i64 M')).setCell ⟨b, 2, none⟩ (.slice A' n' c')).setCell ⟨b, 3, none⟩ (.int .i64 K')).cell? ⟨b, 3, none⟩ = some (.int .i64 K') := by
  have s1 : (w.setCell ⟨b, 0, none⟩ (.int .i64 q')).heap[b]? = some (.cells #[.int .i64 q', .int .i64 M, .slice A n c, .int .i64 K] 26 (0, 0)) := by
    unfold CBox at h; simp only [World.setCell]; rw [Array.getElem?_modify, if_pos rfl, h]; rfl
  have s2 : ((w.setCell ⟨b, 0, none⟩ (.int .i64 q')).setCell ⟨b, 1, none⟩ (.int .i64 M')).heap[b]? = some (.cells #[.int .i64 q', .int .i64 M', .slice A n c, .int .i64 K] 26 (0, 0)) := by
    show (Array.modify _ b _)[b]? = _
    rw [Array.getElem?_modify, if_pos rfl, s1]; rfl
  have s3 : (((w.setCell ⟨b, 0, none⟩ (.int .i64 q')).setCell ⟨b, 1, none⟩ (.int .i64 M')).setCell ⟨b, 2, none⟩ (.slice A' n' c')).heap[b]? = some (.cells #[.int .i64 q', .int .i64 M', .slice A' n' c', .int .i64 K] 26 (0, 0)) := by
    show (Array.modify _ b _)[b]? = _
    rw [Array.getElem?_modify, if_pos rfl, s2]; rfl
  have s4 : ((((w.setCell ⟨b, 0, none⟩ (.int .i64 q')).setCell ⟨b, 1, none⟩ (.int .i64 M')).setCell ⟨b, 2, none⟩ (.slice A' n' c')).setCell ⟨b, 3, none⟩ (.int .i64 K')).heap[b]? = some (.cells #[.int .i64 q', .int .i64 M', .slice A' n' c', .int .i64 K'] 26 (0, 0)) := by
    show (Array.modify _ b _)[b]? = _
    rw [Array.getElem?_modify, if_pos rfl, s3]; rfl
  exact ⟨by rw [cell_of_row _ b 0 _ _ (0, 0) s1]; rfl, by rw [cell_of_row _ b 1 _ _ (0, 0) s2]; rfl, by rw [cell_of_row _ b 2 _ _ (0, 0) s3]; rfl, by rw [cell_of_row _ b 3 _ _ (0, 0) s4]; rfl⟩
theorem below_store4 {w0 w : World} (h : Below w0.heap.size w0 w) {b : Nat} (hb : w0.heap.size ≤ b) (u v x y : Value) : Below w0.heap.size w0 ((((w.setCell ⟨b, 0, none⟩ u).setCell ⟨b, 1, none⟩ v).setCell ⟨b, 2, none⟩ x).setCell ⟨b, 3, none⟩ y) :=
  (((h.setCell (p := ⟨b, 0, none⟩) hb u).setCell (p := ⟨b, 1, none⟩) hb v).setCell (p := ⟨b, 2, none⟩) hb x).setCell (p := ⟨b, 3, none⟩) hb y

/-- A valid condition. -/
def validC (q M : Int) (xs : List Int) (K : Int) : Bool := validB xs K && (if q = 2 then decide (1 ≤ M ∧ M ≤ 512) else decide ((q = 0 ∨ q = 1) ∧ M = 0))

set_option maxHeartbeats 2000000 in
theorem cond_valid (q M : Int) (A : Option Addr) (n c : Nat) (K : Int) (xs : List Int) (w : World) (hI : IntsAt w A n xs) :
    Calls Try.prog 12 #[condV q M A n c K] w fun e w' => e = .returned (.bool (validC q M xs K)) ∧ Below w.heap.size w w' := by
  have hB := below_alloc w (.cells #[.int .i64 q, .int .i64 M, .slice A n c, .int .i64 K] 26)
  have h1 := hI.step hB
  have B1 := CBox.new w q M A n c K
  obtain ⟨v, hv⟩ : ∃ v, validB xs K = v := ⟨_, rfl⟩
  have HV := Lib.hid hv
  rcases (show q = 0 ∨ q = 1 ∨ q = 2 ∨ (q ≠ 0 ∧ q ≠ 1 ∧ q ≠ 2) by omega) with rfl | rfl | rfl | ⟨g0, g1, g2⟩
  · by_cases hM : M = 0
    · subst hM
      have HE := Lib.hid (show validC 0 0 xs K = v by unfold validC; rw [hv]; simp)
      clear hv hI
      cases v
      all_goals
        go_enter Try.func12, Try.ntmps12
        go_wp2_with (go_at_call 27; refine (lin_valid _ _ _ _ xs _ h1).mono ?_; rintro e w1 ⟨rfl, hb⟩; rw [HV.out]; replace hB := below_step hB hb; replace B1 := B1.step hb; have c0 := B1.c0; have c1 := B1.c1; have c2 := B1.c2; have c3 := B1.c3)
        all_goals
          go_ret
          exact ⟨ret_bool (by first | exact HE.out.symm | (rw [HE.out]; simp; omega)), hB⟩
    · have HE := Lib.hid (show validC 0 M xs K = false by unfold validC; simp [hM])
      have q1 : (M == 0) = false := by simpa using hM
      clear hv hI hM
      cases v
      all_goals
        go_enter Try.func12, Try.ntmps12
        go_wp2_with (go_at_call 27; refine (lin_valid _ _ _ _ xs _ h1).mono ?_; rintro e w1 ⟨rfl, hb⟩; rw [HV.out]; replace hB := below_step hB hb; replace B1 := B1.step hb; have c0 := B1.c0; have c1 := B1.c1; have c2 := B1.c2; have c3 := B1.c3)
        all_goals
          go_ret
          exact ⟨ret_bool (by first | exact HE.out.symm | (rw [HE.out]; simp; omega)), hB⟩
  · by_cases hM : M = 0
    · subst hM
      have HE := Lib.hid (show validC 1 0 xs K = v by unfold validC; rw [hv]; simp)
      clear hv hI
      cases v
      all_goals
        go_enter Try.func12, Try.ntmps12
        go_wp2_with (go_at_call 27; refine (lin_valid _ _ _ _ xs _ h1).mono ?_; rintro e w1 ⟨rfl, hb⟩; rw [HV.out]; replace hB := below_step hB hb; replace B1 := B1.step hb; have c0 := B1.c0; have c1 := B1.c1; have c2 := B1.c2; have c3 := B1.c3)
        all_goals
          go_ret
          exact ⟨ret_bool (by first | exact HE.out.symm | (rw [HE.out]; simp; omega)), hB⟩
    · have HE := Lib.hid (show validC 1 M xs K = false by unfold validC; simp [hM])
      have q1 : (M == 0) = false := by simpa using hM
      clear hv hI hM
      cases v
      all_goals
        go_enter Try.func12, Try.ntmps12
        go_wp2_with (go_at_call 27; refine (lin_valid _ _ _ _ xs _ h1).mono ?_; rintro e w1 ⟨rfl, hb⟩; rw [HV.out]; replace hB := below_step hB hb; replace B1 := B1.step hb; have c0 := B1.c0; have c1 := B1.c1; have c2 := B1.c2; have c3 := B1.c3)
        all_goals
          go_ret
          exact ⟨ret_bool (by first | exact HE.out.symm | (rw [HE.out]; simp; omega)), hB⟩
  · rcases (show (1 ≤ M ∧ M ≤ 512) ∨ M < 1 ∨ (1 ≤ M ∧ 512 < M) by omega) with ⟨hM, hM'⟩ | hM | ⟨hM, hM'⟩
    · have HE := Lib.hid (show validC 2 M xs K = v by unfold validC; rw [hv]; simp [hM, hM'])
      clear hv hI
      cases v
      all_goals
        go_enter Try.func12, Try.ntmps12
        go_wp2_with (go_at_call 27; refine (lin_valid _ _ _ _ xs _ h1).mono ?_; rintro e w1 ⟨rfl, hb⟩; rw [HV.out]; replace hB := below_step hB hb; replace B1 := B1.step hb; have c0 := B1.c0; have c1 := B1.c1; have c2 := B1.c2; have c3 := B1.c3)
        all_goals
          go_ret
          exact ⟨ret_bool (by first | exact HE.out.symm | (rw [HE.out]; simp; omega)), hB⟩
    · have HE := Lib.hid (show validC 2 M xs K = false by unfold validC; simp; omega)
      clear hv hI
      cases v
      all_goals
        go_enter Try.func12, Try.ntmps12
        go_wp2_with (go_at_call 27; refine (lin_valid _ _ _ _ xs _ h1).mono ?_; rintro e w1 ⟨rfl, hb⟩; rw [HV.out]; replace hB := below_step hB hb; replace B1 := B1.step hb; have c0 := B1.c0; have c1 := B1.c1; have c2 := B1.c2; have c3 := B1.c3)
        all_goals
          go_ret
          exact ⟨ret_bool (by first | exact HE.out.symm | (rw [HE.out]; simp; omega)), hB⟩
    · have HE := Lib.hid (show validC 2 M xs K = false by unfold validC; simp; omega)
      clear hv hI
      cases v
      all_goals
        go_enter Try.func12, Try.ntmps12
        go_wp2_with (go_at_call 27; refine (lin_valid _ _ _ _ xs _ h1).mono ?_; rintro e w1 ⟨rfl, hb⟩; rw [HV.out]; replace hB := below_step hB hb; replace B1 := B1.step hb; have c0 := B1.c0; have c1 := B1.c1; have c2 := B1.c2; have c3 := B1.c3)
        all_goals
          go_ret
          exact ⟨ret_bool (by first | exact HE.out.symm | (rw [HE.out]; simp; omega)), hB⟩
  · have HE := Lib.hid (show validC q M xs K = false by unfold validC; simp [g0, g1, g2])
    have q0 : (q == 0) = false := by simpa using g0
    have q1 : (q == 1) = false := by simpa using g1
    have q2 : (q == 2) = false := by simpa using g2
    clear hv hI g0 g1 g2
    cases v
    all_goals
      go_enter Try.func12, Try.ntmps12
      go_wp2_with (go_at_call 27; refine (lin_valid _ _ _ _ xs _ h1).mono ?_; rintro e w1 ⟨rfl, hb⟩; rw [HV.out]; replace hB := below_step hB hb; replace B1 := B1.step hb; have c0 := B1.c0; have c1 := B1.c1; have c2 := B1.c2; have c3 := B1.c3)
      all_goals
        go_ret
        exact ⟨ret_bool (by first | exact HE.out.symm | (rw [HE.out]; simp; omega)), hB⟩

set_option maxHeartbeats 2000000 in
theorem ref_cvalid (q M : Int) (A : Option Addr) (n c : Nat) (K : Int) (xs : List Int) (w : World) (hI : IntsAt w A n xs) :
    Calls Try.prog 13 #[condV q M A n c K] w fun e w' => e = .returned (.bool (validC q M xs K)) ∧ Below w.heap.size w w' := by
  have hB := below_alloc w (.cells #[.int .i64 q, .int .i64 M, .slice A n c, .int .i64 K] 26)
  have h1 := hI.step hB
  have B1 := CBox.new w q M A n c K
  obtain ⟨v, hv⟩ : ∃ v, validB xs K = v := ⟨_, rfl⟩
  have HV := Lib.hid hv
  rcases (show q = 0 ∨ q = 1 ∨ q = 2 ∨ (q ≠ 0 ∧ q ≠ 1 ∧ q ≠ 2) by omega) with rfl | rfl | rfl | ⟨g0, g1, g2⟩
  · by_cases hM : M = 0
    · subst hM
      have HE := Lib.hid (show validC 0 0 xs K = v by unfold validC; rw [hv]; simp)
      clear hv hI
      cases v
      all_goals
        go_enter Try.func13, Try.ntmps13
        go_wp2_with (go_at_call 28; refine (ref_valid _ _ _ _ xs _ h1).mono ?_; rintro e w1 ⟨rfl, hb⟩; rw [HV.out]; replace hB := below_step hB hb; replace B1 := B1.step hb; have c0 := B1.c0; have c1 := B1.c1; have c2 := B1.c2; have c3 := B1.c3)
        all_goals
          go_ret
          exact ⟨ret_bool (by first | exact HE.out.symm | (rw [HE.out]; simp; omega)), hB⟩
    · have HE := Lib.hid (show validC 0 M xs K = false by unfold validC; simp [hM])
      have q1 : (M == 0) = false := by simpa using hM
      clear hv hI hM
      cases v
      all_goals
        go_enter Try.func13, Try.ntmps13
        go_wp2_with (go_at_call 28; refine (ref_valid _ _ _ _ xs _ h1).mono ?_; rintro e w1 ⟨rfl, hb⟩; rw [HV.out]; replace hB := below_step hB hb; replace B1 := B1.step hb; have c0 := B1.c0; have c1 := B1.c1; have c2 := B1.c2; have c3 := B1.c3)
        all_goals
          go_ret
          exact ⟨ret_bool (by first | exact HE.out.symm | (rw [HE.out]; simp; omega)), hB⟩
  · by_cases hM : M = 0
    · subst hM
      have HE := Lib.hid (show validC 1 0 xs K = v by unfold validC; rw [hv]; simp)
      clear hv hI
      cases v
      all_goals
        go_enter Try.func13, Try.ntmps13
        go_wp2_with (go_at_call 28; refine (ref_valid _ _ _ _ xs _ h1).mono ?_; rintro e w1 ⟨rfl, hb⟩; rw [HV.out]; replace hB := below_step hB hb; replace B1 := B1.step hb; have c0 := B1.c0; have c1 := B1.c1; have c2 := B1.c2; have c3 := B1.c3)
        all_goals
          go_ret
          exact ⟨ret_bool (by first | exact HE.out.symm | (rw [HE.out]; simp; omega)), hB⟩
    · have HE := Lib.hid (show validC 1 M xs K = false by unfold validC; simp [hM])
      have q1 : (M == 0) = false := by simpa using hM
      clear hv hI hM
      cases v
      all_goals
        go_enter Try.func13, Try.ntmps13
        go_wp2_with (go_at_call 28; refine (ref_valid _ _ _ _ xs _ h1).mono ?_; rintro e w1 ⟨rfl, hb⟩; rw [HV.out]; replace hB := below_step hB hb; replace B1 := B1.step hb; have c0 := B1.c0; have c1 := B1.c1; have c2 := B1.c2; have c3 := B1.c3)
        all_goals
          go_ret
          exact ⟨ret_bool (by first | exact HE.out.symm | (rw [HE.out]; simp; omega)), hB⟩
  · rcases (show (1 ≤ M ∧ M ≤ 512) ∨ M < 1 ∨ (1 ≤ M ∧ 512 < M) by omega) with ⟨hM, hM'⟩ | hM | ⟨hM, hM'⟩
    · have HE := Lib.hid (show validC 2 M xs K = v by unfold validC; rw [hv]; simp [hM, hM'])
      clear hv hI
      cases v
      all_goals
        go_enter Try.func13, Try.ntmps13
        go_wp2_with (go_at_call 28; refine (ref_valid _ _ _ _ xs _ h1).mono ?_; rintro e w1 ⟨rfl, hb⟩; rw [HV.out]; replace hB := below_step hB hb; replace B1 := B1.step hb; have c0 := B1.c0; have c1 := B1.c1; have c2 := B1.c2; have c3 := B1.c3)
        all_goals
          go_ret
          exact ⟨ret_bool (by first | exact HE.out.symm | (rw [HE.out]; simp; omega)), hB⟩
    · have HE := Lib.hid (show validC 2 M xs K = false by unfold validC; simp; omega)
      clear hv hI
      cases v
      all_goals
        go_enter Try.func13, Try.ntmps13
        go_wp2_with (go_at_call 28; refine (ref_valid _ _ _ _ xs _ h1).mono ?_; rintro e w1 ⟨rfl, hb⟩; rw [HV.out]; replace hB := below_step hB hb; replace B1 := B1.step hb; have c0 := B1.c0; have c1 := B1.c1; have c2 := B1.c2; have c3 := B1.c3)
        all_goals
          go_ret
          exact ⟨ret_bool (by first | exact HE.out.symm | (rw [HE.out]; simp; omega)), hB⟩
    · have HE := Lib.hid (show validC 2 M xs K = false by unfold validC; simp; omega)
      clear hv hI
      cases v
      all_goals
        go_enter Try.func13, Try.ntmps13
        go_wp2_with (go_at_call 28; refine (ref_valid _ _ _ _ xs _ h1).mono ?_; rintro e w1 ⟨rfl, hb⟩; rw [HV.out]; replace hB := below_step hB hb; replace B1 := B1.step hb; have c0 := B1.c0; have c1 := B1.c1; have c2 := B1.c2; have c3 := B1.c3)
        all_goals
          go_ret
          exact ⟨ret_bool (by first | exact HE.out.symm | (rw [HE.out]; simp; omega)), hB⟩
  · have HE := Lib.hid (show validC q M xs K = false by unfold validC; simp [g0, g1, g2])
    have q0 : (q == 0) = false := by simpa using g0
    have q1 : (q == 1) = false := by simpa using g1
    have q2 : (q == 2) = false := by simpa using g2
    clear hv hI g0 g1 g2
    cases v
    all_goals
      go_enter Try.func13, Try.ntmps13
      go_wp2_with (go_at_call 28; refine (ref_valid _ _ _ _ xs _ h1).mono ?_; rintro e w1 ⟨rfl, hb⟩; rw [HV.out]; replace hB := below_step hB hb; replace B1 := B1.step hb; have c0 := B1.c0; have c1 := B1.c1; have c2 := B1.c2; have c3 := B1.c3)
      all_goals
        go_ret
        exact ⟨ret_bool (by first | exact HE.out.symm | (rw [HE.out]; simp; omega)), hB⟩
end Go.Proofs.Ytbjkijifpikhkaa
