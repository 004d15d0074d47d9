/-
  The reference of layer 3: Made at every kind; Normal.
-/
import Derived.Test.YtbjkijifpikhkaaCondMade
import Derived.Test.YtbjkijifpikhkaaCondMadeDv
namespace Go.Proofs.Ytbjkijifpikhkaa
open Go.RowKit
set_option linter.unusedVariables false
set_option linter.unusedSimpArgs false

theorem ref_made (q M : Int) (A : Option Addr) (n c : Nat) (hn : n ≤ 1000000) (K : Int) (xs : List Int) (hq : KindOk q M) (hK : -4611686018427387904 ≤ K ∧ K ≤ 4611686018427387904) (hx : ∀ x ∈ xs, -4611686018427387904 ≤ x ∧ x ≤ 4611686018427387904) (w : World) (hI : IntsAt w A n xs) :
    Calls Try.prog 30 #[condV q M A n c K] w fun e w' => NfRet w e w' (nf q M n xs K) := by
  rcases hq with rfl | rfl | ⟨rfl, hM⟩
  · unfold nf
    rw [if_pos rfl]
    by_cases h0 : gcdA 0 xs = 0
    · rw [if_pos h0]; exact made_zero_ge M A n c K xs hx w hI h0
    · rw [if_neg h0]; exact made_open_ge M A n c K xs hK hx w hI h0
  · unfold nf
    rw [if_neg (by decide), if_pos rfl]
    by_cases h0 : gcdA 0 xs = 0
    · rw [if_pos h0]; exact made_zero_eq M A n c K xs hx w hI h0
    · rw [if_neg h0]
      by_cases h1 : K.tmod (gcdA 0 xs : Nat) = 0
      · rw [if_neg (by simpa using h1)]; exact made_open_eq M A n c K xs hK hx w hI h0 h1
      · rw [if_pos h1]; exact made_never_eq M A n c K xs hK hx w hI h0 h1
  · exact made_dv M A n c hn K xs hM hK hx w hI

set_option maxHeartbeats 4000000 in
theorem ref_normal (q M : Int) (A : Option Addr) (n c : Nat) (K : Int) (xs : List Int) (w : World) (hI : IntsAt w A n xs) :
    Calls Try.prog 16 #[condV q M A n c K] w fun e w' => NfRet3 w e w' (nfV q M n xs K) (nfE q M xs K) := by
  have hB := below_step (below_alloc w (.cells #[.int .i64 q, .int .i64 M, .slice A n c, .int .i64 K] 26)) (below_alloc _ (.cells #[.int .i64 0, .int .i64 0, .slice none 0 0, .int .i64 0] 26))
  have h1 := hI.step hB
  have B1 := (CBox.new w q M A n c K).step (below_alloc _ (.cells #[.int .i64 0, .int .i64 0, .slice none 0 0, .int .i64 0] 26))
  have B2 := CBox.new (w.alloc (.cells #[.int .i64 q, .int .i64 M, .slice A n c, .int .i64 K] 26)) 0 0 none 0 0 0
  rw [World.size_alloc] at B2
  cases hv : validC q M xs K
  · have e1 : nfV q M n xs K = (0, 0, [], 0, 0) := by unfold nfV; rw [hv]; rfl
    have e2 : nfE q M xs K = 1 := by unfold nfE; rw [hv]; rfl
    rw [e1, e2]
    have HV := Lib.hid hv
    clear hv e1 e2
    go_enter Try.func16, Try.ntmps16
    go_wp2_with (go_at_call 13; refine (ref_cvalid _ _ _ _ _ _ xs _ h1).mono ?_; rintro e w1 ⟨rfl, hb⟩; rw [HV.out]; replace hB := below_step hB hb; replace B2 := B2.step hb; have d0 := B2.c0; have d1 := B2.c1; have d2 := B2.c2; have d3 := B2.c3; have f0 := B2.f 0; have f1 := B2.f 1; have f2 := B2.f 2; have f3 := B2.f 3)
    obtain ⟨e0, e1, e2, e3⟩ := B2.four 0 0 none 0 0 0
    refine bodyPost_ret (v := .tuple #[condV 0 0 none 0 0 0, .int .i64 0, .int .i64 1]) (by simp [results, Try.results16, go_sem, e0, e1, e2, e3]) rfl ?_
    exact ⟨none, 0, 0, rfl, ints_nil _ _, below_store4 hB (by omega) _ _ _ _, .inl rfl⟩
  · have e1 : nfV q M n xs K = nf q M n xs K := by unfold nfV; rw [hv]; rfl
    have e2 : nfE q M xs K = 0 := by unfold nfE; rw [hv]; rfl
    rw [e1, e2]
    have hB3 := validB_true.1 (validC_kind hv).1
    have HN := Lib.hid (fun W (h : IntsAt W A n xs) => ref_made q M A n c (by have := hB3.1; have := hI.len; omega) K xs (validC_ok hv) (fits_wide hB3.2.1) (fun x hx => fits_wide (hB3.2.2 x hx)) W h)
    obtain ⟨r, hr⟩ : ∃ r, nf q M n xs K = r := ⟨_, rfl⟩
    rw [hr] at HN ⊢
    have HV := Lib.hid hv
    clear hv e1 e2 hr hB3 hI
    go_enter Try.func16, Try.ntmps16
    go_wp2_with (first
      | (go_at_call 13; refine (ref_cvalid _ _ _ _ _ _ xs _ h1).mono ?_; rintro e w1 ⟨rfl, hb⟩; rw [HV.out]; replace hB := below_step hB hb; replace h1 := h1.step hb; replace B1 := B1.step hb; replace B2 := B2.step hb; have c0 := B1.c0; have c1 := B1.c1; have c2 := B1.c2; have c3 := B1.c3)
      | (go_at_call 30; refine (HN.out _ h1).mono ?_; rintro e w4 ⟨A4, n4, c4, rfl, I4, hb4, O4⟩; have l4 := B2.lt; replace hB := below_step hB hb4; replace B2 := B2.step hb4; have l5 := B2.lt; have T0 := B2; have T1 := T0.s0 r.1; have T2 := T1.s1 r.2.1; have T3 := T2.s2 A4 n4 c4; have T4 := T3.s3 r.2.2.2.1; replace T0 := T0.alloc (.cells #[.int .i64 r.1, .int .i64 r.2.1, .slice A4 n4 c4, .int .i64 r.2.2.2.1] 26); replace T1 := T1.alloc (.cells #[.int .i64 r.1, .int .i64 r.2.1, .slice A4 n4 c4, .int .i64 r.2.2.2.1] 26); replace T2 := T2.alloc (.cells #[.int .i64 r.1, .int .i64 r.2.1, .slice A4 n4 c4, .int .i64 r.2.2.2.1] 26); replace T3 := T3.alloc (.cells #[.int .i64 r.1, .int .i64 r.2.1, .slice A4 n4 c4, .int .i64 r.2.2.2.1] 26); replace T4 := T4.alloc (.cells #[.int .i64 r.1, .int .i64 r.2.1, .slice A4 n4 c4, .int .i64 r.2.2.2.1] 26); have d0 := T0.c0; have d1 := T1.c1; have d2 := T2.c2; have d3 := T3.c3; have f0 := T0.f 0; have f1 := T1.f 1; have f2 := T2.f 2; have f3 := T3.f 3; have e0 := T4.c0; have e1 := T4.c1; have e2 := T4.c2; have e3 := T4.c3))
    refine bodyPost_ret (v := .tuple #[condV r.1 r.2.1 A4 n4 c4 r.2.2.2.1, .int .i64 r.2.2.2.2, .int .i64 0]) (by simp [results, Try.results16, go_sem, e0, e1, e2, e3]) rfl ?_
    obtain ⟨A5, n5, c5, h5, I5, b5, O5⟩ := condRet_into (w0 := w) (q := r.1) (M := r.2.1) (K := r.2.2.2.1) (s := r.2.2.2.2) (b := w.heap.size + 1) (c := c4) I4 O4 hB (by omega) l4 (.int .i64 r.1) (.int .i64 r.2.1) (.slice A4 n4 c4) (.int .i64 r.2.2.2.1)
    have hal := below_alloc ((((w4.setCell ⟨w.heap.size + 1, 0, none⟩ (.int .i64 r.1)).setCell ⟨w.heap.size + 1, 1, none⟩ (.int .i64 r.2.1)).setCell ⟨w.heap.size + 1, 2, none⟩ (.slice A4 n4 c4)).setCell ⟨w.heap.size + 1, 3, none⟩ (.int .i64 r.2.2.2.1)) (.cells #[.int .i64 r.1, .int .i64 r.2.1, .slice A4 n4 c4, .int .i64 r.2.2.2.1] 26)
    obtain ⟨rfl, rfl, rfl⟩ : A5 = A4 ∧ n5 = n4 ∧ c5 = c4 := by injection h5 with h; injection h with h; simp at h; exact ⟨h.1.symm, h.2.1.symm, h.2.2.symm⟩
    refine ⟨A5, n5, c5, rfl, I5.step hal, below_step b5 hal, ?_⟩
    rcases O5 with h | ⟨g, hg1, hg2, O⟩
    · exact .inl h
    · exact .inr ⟨g, hg1, hg2, O.step hal⟩
end Go.Proofs.Ytbjkijifpikhkaa
