/-
  Add and Sub of the reference of package lin.
-/
import Derived.Test.YtlahomobecfghaaProg
import Derived.Test.YtlahomobecfghaaLinKit
import Derived.Test.YtlahomobecfghaaLinAt
import Derived.Test.YtlahomobecfghaaLinMix
import Derived.Test.YtlahomobecfghaaLinMake
namespace Go.Proofs.Ytlahomobecfghaa
open Go.RowKit
set_option linter.unusedVariables false
set_option linter.unusedSimpArgs false

def sE (s : Int) (xs : List Int) (K : Int) (ys : List Int) (L : Int) : Int := if pairErr xs K ys L = 0 then (if validB (mixL xs.length 1 xs s ys) (1 * K + s * L) = true then 0 else 3) else pairErr xs K ys L
def sX (s : Int) (xs : List Int) (K : Int) (ys : List Int) (L : Int) : List Int := if pairErr xs K ys L = 0 then (if validB (mixL xs.length 1 xs s ys) (1 * K + s * L) = true then mixL xs.length 1 xs s ys else []) else []
def sK (s : Int) (xs : List Int) (K : Int) (ys : List Int) (L : Int) : Int := if pairErr xs K ys L = 0 then (if validB (mixL xs.length 1 xs s ys) (1 * K + s * L) = true then 1 * K + s * L else 0) else 0
section
variable {s : Int} {xs : List Int} {K : Int} {ys : List Int} {L : Int} {n : Nat}
theorem s_err (h : pairErr xs K ys L ≠ 0) : sE s xs K ys L = pairErr xs K ys L ∧ sX s xs K ys L = [] ∧ sK s xs K ys L = 0 := by
  unfold sE sX sK; rw [if_neg h, if_neg h, if_neg h]; exact ⟨rfl, rfl, rfl⟩
theorem s_bad (h : pairErr xs K ys L = 0) (hn : xs.length = n) (hv : validB (mixL n 1 xs s ys) (1 * K + s * L) = false) : sE s xs K ys L = 3 ∧ sX s xs K ys L = [] ∧ sK s xs K ys L = 0 := by
  unfold sE sX sK; rw [hn, if_pos h, if_pos h, if_pos h, hv]; exact ⟨rfl, rfl, rfl⟩
theorem s_ok (h : pairErr xs K ys L = 0) (hn : xs.length = n) (hv : validB (mixL n 1 xs s ys) (1 * K + s * L) = true) : sE s xs K ys L = 0 ∧ sX s xs K ys L = mixL n 1 xs s ys ∧ sK s xs K ys L = 1 * K + s * L := by
  unfold sE sX sK; rw [hn, if_pos h, if_pos h, if_pos h, hv]; exact ⟨rfl, rfl, rfl⟩
theorem valid_tame (h : validB xs K = true) : Tame xs := valid_at h
theorem valid_k (h : validB xs K = true) : -1048576 ≤ K ∧ K ≤ 1048576 := fitsB_true.1 (validB_true.1 h).2.1
end

set_option maxHeartbeats 1000000 in
theorem ref_Add (A : Option Addr) (n c : Nat) (K : Int) (xs : List Int) (A' : Option Addr) (n' c' : Nat) (L : Int) (ys : List Int) (w : World) (hI : IntsAt w A n xs) (hI' : IntsAt w A' n' ys) :
    Calls Try.prog 43 #[.agg #[.slice A n c, .int .i64 K], .agg #[.slice A' n' c', .int .i64 L]] w fun e w' => LinRet w e w' (sX 1 xs K ys L) (sK 1 xs K ys L) (sE 1 xs K ys L) := by
  have B1 := ((LBox.new w A n c K).alloc (.cells #[.slice A' n' c', .int .i64 L] 38)).alloc (.cells #[.slice none 0 0, .int .i64 0] 38)
  have B2 := (LBox.new (w.alloc (.cells #[.slice A n c, .int .i64 K] 38)) A' n' c' L).alloc (.cells #[.slice none 0 0, .int .i64 0] 38)
  have B3 := LBox.new ((w.alloc (.cells #[.slice A n c, .int .i64 K] 38)).alloc (.cells #[.slice A' n' c', .int .i64 L] 38)) none 0 0 0
  have hB := below_step (below_step (below_alloc w (.cells #[.slice A n c, .int .i64 K] 38)) (below_alloc _ (.cells #[.slice A' n' c', .int .i64 L] 38))) (below_alloc _ (.cells #[.slice none 0 0, .int .i64 0] 38))
  have h1 := hI.step hB
  have h2 := hI'.step hB
  simp only [World.size_alloc] at B2 B3
  by_cases hp : pairErr xs K ys L = 0
  · obtain ⟨hv, hv', hll⟩ := pair_zero hp
    have hnn : n ≤ n' := by have a1 := hI.len; have a2 := hI'.len; omega
    have HV := Lib.hid (And.intro hv hv')
    obtain ⟨kk, hkk⟩ : ∃ kk, 1 * K + 1 * L = kk := ⟨_, rfl⟩
    have HKK := Lib.hid hkk
    cases hr : validB (mixL n 1 xs 1 ys) kk
    · have HE := Lib.hid (s_bad (s := 1) hp hI.len (by rw [hkk]; exact hr))
      clear hkk
      have HP := Lib.hid hp
      clear hp hv hv' hll hI hI'
      go_enter Try.func43, Try.ntmps43
      go_wp2_with (first
        | (go_at_call 65; refine (headlandref02_pair _ _ _ _ xs _ _ _ _ ys _ h1 h2).mono ?_; rintro e w1 ⟨rfl, hb⟩; rw [HP.out]; replace h1 := h1.step hb; replace h2 := h2.step hb; replace B1 := B1.step hb; replace B2 := B2.step hb; replace B3 := B3.step hb; replace hB := below_step hB hb; have c10 := B1.c0; have c11 := B1.c1; have c20 := B2.c0; have c21 := B2.c1)
        | (go_at_call 66; refine (ref_mix 1 1 A n c K xs A' n' c' L ys w1 h1 h2 hnn (by decide) (by decide) (valid_k HV.out.1) (valid_k HV.out.2) (valid_tame HV.out.1) (valid_tame HV.out.2)).mono ?_; rintro e w2 ⟨g5, c5, rfl, hg5, I5, hb2⟩; rw [HKK.out]; have n2 := B3.lt; replace B3 := B3.step hb2; replace hB := below_step hB hb2)
        | (go_at_call 59; refine (headlandref02_fit_bad _ _ _ _ _ _ I5 hr).mono ?_; rintro e w3 ⟨rfl, hb3⟩; replace B3 := B3.step hb3; replace hB := below_step hB hb3; have c30 := B3.c0; have c31 := B3.c1; have f30 := B3.f 0; have f31 := B3.f 1; have c40 := B3.s0 (.slice none 0 0); have c41 := (B3.store none 0 0 0).c1))
      refine bodyPost_ret (v := .tuple #[.agg #[.slice none 0 0, .int .i64 0], .int .i64 3]) (by simp [results, Try.results43, go_sem, c40, c41]) rfl ?_
      rw [HE.out.2.1]
      exact ret_lin HE.out.1 HE.out.2.2 (ints_nil _ _) (below_store2 hB (by omega) _ _)
    · have HE := Lib.hid (show sE 1 xs K ys L = 0 ∧ sX 1 xs K ys L = mixL n 1 xs 1 ys ∧ sK 1 xs K ys L = kk from hkk ▸ s_ok (s := 1) hp hI.len (by rw [hkk]; exact hr))
      clear hkk
      have HP := Lib.hid hp
      clear hp hv hv' hll hI hI'
      go_enter Try.func43, Try.ntmps43
      go_wp2_with (first
        | (go_at_call 65; refine (headlandref02_pair _ _ _ _ xs _ _ _ _ ys _ h1 h2).mono ?_; rintro e w1 ⟨rfl, hb⟩; rw [HP.out]; replace h1 := h1.step hb; replace h2 := h2.step hb; replace B1 := B1.step hb; replace B2 := B2.step hb; replace B3 := B3.step hb; replace hB := below_step hB hb; have c10 := B1.c0; have c11 := B1.c1; have c20 := B2.c0; have c21 := B2.c1)
        | (go_at_call 66; refine (ref_mix 1 1 A n c K xs A' n' c' L ys w1 h1 h2 hnn (by decide) (by decide) (valid_k HV.out.1) (valid_k HV.out.2) (valid_tame HV.out.1) (valid_tame HV.out.2)).mono ?_; rintro e w2 ⟨g5, c5, rfl, hg5, I5, hb2⟩; rw [HKK.out]; have n2 := B3.lt; replace B3 := B3.step hb2; replace hB := below_step hB hb2)
        | (go_at_call 59; refine (headlandref02_fit_ok _ _ _ _ _ _ I5 hr).mono ?_; rintro e w3 ⟨rfl, hb3⟩; replace I5 := I5.step hb3; replace B3 := B3.step hb3; replace hB := below_step hB hb3; have c30 := B3.c0; have c31 := B3.c1; have f30 := B3.f 0; have f31 := B3.f 1; have c40 := B3.s0 (.slice (some ⟨g5, 0, none⟩) n c5); have c41 := (B3.store (some ⟨g5, 0, none⟩) n c5 kk).c1))
      refine bodyPost_ret (v := .tuple #[.agg #[.slice (some ⟨g5, 0, none⟩) n c5, .int .i64 kk], .int .i64 0]) (by simp [results, Try.results43, go_sem, c40, c41]) rfl ?_
      rw [HE.out.2.1]
      exact ret_lin HE.out.1 HE.out.2.2 (ints_store2 I5 rfl (by omega) _ _) (below_store2 hB (by omega) _ _)
  · have HE := Lib.hid (s_err (s := 1) hp)
    have q1 : (pairErr xs K ys L != 0) = true := by simpa using hp
    have q2 : (pairErr xs K ys L == 0) = false := by simpa using hp
    clear hp hI hI'
    go_enter Try.func43, Try.ntmps43
    go_wp2_with (go_at_call 65; refine (headlandref02_pair _ _ _ _ xs _ _ _ _ ys _ h1 h2).mono ?_; rintro e w1 ⟨rfl, hb⟩; replace B3 := B3.step hb; replace hB := below_step hB hb; have c30 := B3.c0; have c31 := B3.c1; have f30 := B3.f 0; have f31 := B3.f 1; have c40 := B3.s0 (.slice none 0 0); have c41 := (B3.store none 0 0 0).c1)
    refine bodyPost_ret (v := .tuple #[.agg #[.slice none 0 0, .int .i64 0], .int .i64 (pairErr xs K ys L)]) (by simp [results, Try.results43, go_sem, c40, c41]) rfl ?_
    rw [HE.out.2.1]
    exact ret_lin HE.out.1 HE.out.2.2 (ints_nil _ _) (below_store2 hB (by omega) _ _)
set_option maxHeartbeats 1000000 in
theorem ref_Sub (A : Option Addr) (n c : Nat) (K : Int) (xs : List Int) (A' : Option Addr) (n' c' : Nat) (L : Int) (ys : List Int) (w : World) (hI : IntsAt w A n xs) (hI' : IntsAt w A' n' ys) :
    Calls Try.prog 45 #[.agg #[.slice A n c, .int .i64 K], .agg #[.slice A' n' c', .int .i64 L]] w fun e w' => LinRet w e w' (sX (-1) xs K ys L) (sK (-1) xs K ys L) (sE (-1) xs K ys L) := by
  have B1 := ((LBox.new w A n c K).alloc (.cells #[.slice A' n' c', .int .i64 L] 38)).alloc (.cells #[.slice none 0 0, .int .i64 0] 38)
  have B2 := (LBox.new (w.alloc (.cells #[.slice A n c, .int .i64 K] 38)) A' n' c' L).alloc (.cells #[.slice none 0 0, .int .i64 0] 38)
  have B3 := LBox.new ((w.alloc (.cells #[.slice A n c, .int .i64 K] 38)).alloc (.cells #[.slice A' n' c', .int .i64 L] 38)) none 0 0 0
  have hB := below_step (below_step (below_alloc w (.cells #[.slice A n c, .int .i64 K] 38)) (below_alloc _ (.cells #[.slice A' n' c', .int .i64 L] 38))) (below_alloc _ (.cells #[.slice none 0 0, .int .i64 0] 38))
  have h1 := hI.step hB
  have h2 := hI'.step hB
  simp only [World.size_alloc] at B2 B3
  by_cases hp : pairErr xs K ys L = 0
  · obtain ⟨hv, hv', hll⟩ := pair_zero hp
    have hnn : n ≤ n' := by have a1 := hI.len; have a2 := hI'.len; omega
    have HV := Lib.hid (And.intro hv hv')
    obtain ⟨kk, hkk⟩ : ∃ kk, 1 * K + (-1) * L = kk := ⟨_, rfl⟩
    have HKK := Lib.hid hkk
    cases hr : validB (mixL n 1 xs (-1) ys) kk
    · have HE := Lib.hid (s_bad (s := (-1)) hp hI.len (by rw [hkk]; exact hr))
      clear hkk
      have HP := Lib.hid hp
      clear hp hv hv' hll hI hI'
      go_enter Try.func45, Try.ntmps45
      go_wp2_with (first
        | (go_at_call 65; refine (headlandref02_pair _ _ _ _ xs _ _ _ _ ys _ h1 h2).mono ?_; rintro e w1 ⟨rfl, hb⟩; rw [HP.out]; replace h1 := h1.step hb; replace h2 := h2.step hb; replace B1 := B1.step hb; replace B2 := B2.step hb; replace B3 := B3.step hb; replace hB := below_step hB hb; have c10 := B1.c0; have c11 := B1.c1; have c20 := B2.c0; have c21 := B2.c1)
        | (go_at_call 66; refine (ref_mix 1 (-1) A n c K xs A' n' c' L ys w1 h1 h2 hnn (by decide) (by decide) (valid_k HV.out.1) (valid_k HV.out.2) (valid_tame HV.out.1) (valid_tame HV.out.2)).mono ?_; rintro e w2 ⟨g5, c5, rfl, hg5, I5, hb2⟩; rw [HKK.out]; have n2 := B3.lt; replace B3 := B3.step hb2; replace hB := below_step hB hb2)
        | (go_at_call 59; refine (headlandref02_fit_bad _ _ _ _ _ _ I5 hr).mono ?_; rintro e w3 ⟨rfl, hb3⟩; replace B3 := B3.step hb3; replace hB := below_step hB hb3; have c30 := B3.c0; have c31 := B3.c1; have f30 := B3.f 0; have f31 := B3.f 1; have c40 := B3.s0 (.slice none 0 0); have c41 := (B3.store none 0 0 0).c1))
      refine bodyPost_ret (v := .tuple #[.agg #[.slice none 0 0, .int .i64 0], .int .i64 3]) (by simp [results, Try.results45, go_sem, c40, c41]) rfl ?_
      rw [HE.out.2.1]
      exact ret_lin HE.out.1 HE.out.2.2 (ints_nil _ _) (below_store2 hB (by omega) _ _)
    · have HE := Lib.hid (show sE (-1) xs K ys L = 0 ∧ sX (-1) xs K ys L = mixL n 1 xs (-1) ys ∧ sK (-1) xs K ys L = kk from hkk ▸ s_ok (s := (-1)) hp hI.len (by rw [hkk]; exact hr))
      clear hkk
      have HP := Lib.hid hp
      clear hp hv hv' hll hI hI'
      go_enter Try.func45, Try.ntmps45
      go_wp2_with (first
        | (go_at_call 65; refine (headlandref02_pair _ _ _ _ xs _ _ _ _ ys _ h1 h2).mono ?_; rintro e w1 ⟨rfl, hb⟩; rw [HP.out]; replace h1 := h1.step hb; replace h2 := h2.step hb; replace B1 := B1.step hb; replace B2 := B2.step hb; replace B3 := B3.step hb; replace hB := below_step hB hb; have c10 := B1.c0; have c11 := B1.c1; have c20 := B2.c0; have c21 := B2.c1)
        | (go_at_call 66; refine (ref_mix 1 (-1) A n c K xs A' n' c' L ys w1 h1 h2 hnn (by decide) (by decide) (valid_k HV.out.1) (valid_k HV.out.2) (valid_tame HV.out.1) (valid_tame HV.out.2)).mono ?_; rintro e w2 ⟨g5, c5, rfl, hg5, I5, hb2⟩; rw [HKK.out]; have n2 := B3.lt; replace B3 := B3.step hb2; replace hB := below_step hB hb2)
        | (go_at_call 59; refine (headlandref02_fit_ok _ _ _ _ _ _ I5 hr).mono ?_; rintro e w3 ⟨rfl, hb3⟩; replace I5 := I5.step hb3; replace B3 := B3.step hb3; replace hB := below_step hB hb3; have c30 := B3.c0; have c31 := B3.c1; have f30 := B3.f 0; have f31 := B3.f 1; have c40 := B3.s0 (.slice (some ⟨g5, 0, none⟩) n c5); have c41 := (B3.store (some ⟨g5, 0, none⟩) n c5 kk).c1))
      refine bodyPost_ret (v := .tuple #[.agg #[.slice (some ⟨g5, 0, none⟩) n c5, .int .i64 kk], .int .i64 0]) (by simp [results, Try.results45, go_sem, c40, c41]) rfl ?_
      rw [HE.out.2.1]
      exact ret_lin HE.out.1 HE.out.2.2 (ints_store2 I5 rfl (by omega) _ _) (below_store2 hB (by omega) _ _)
  · have HE := Lib.hid (s_err (s := (-1)) hp)
    have q1 : (pairErr xs K ys L != 0) = true := by simpa using hp
    have q2 : (pairErr xs K ys L == 0) = false := by simpa using hp
    clear hp hI hI'
    go_enter Try.func45, Try.ntmps45
    go_wp2_with (go_at_call 65; refine (headlandref02_pair _ _ _ _ xs _ _ _ _ ys _ h1 h2).mono ?_; rintro e w1 ⟨rfl, hb⟩; replace B3 := B3.step hb; replace hB := below_step hB hb; have c30 := B3.c0; have c31 := B3.c1; have f30 := B3.f 0; have f31 := B3.f 1; have c40 := B3.s0 (.slice none 0 0); have c41 := (B3.store none 0 0 0).c1)
    refine bodyPost_ret (v := .tuple #[.agg #[.slice none 0 0, .int .i64 0], .int .i64 (pairErr xs K ys L)]) (by simp [results, Try.results45, go_sem, c40, c41]) rfl ?_
    rw [HE.out.2.1]
    exact ret_lin HE.out.1 HE.out.2.2 (ints_nil _ _) (below_store2 hB (by omega) _ _)
end Go.Proofs.Ytlahomobecfghaa
