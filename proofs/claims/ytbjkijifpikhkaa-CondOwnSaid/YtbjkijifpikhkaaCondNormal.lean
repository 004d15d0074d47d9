/-
  wide.Normal at every kind; cond.Normal.
-/
import Derived.Test.YtbjkijifpikhkaaProg
import Derived.Test.YtbjkijifpikhkaaKit
import Derived.Test.YtbjkijifpikhkaaLinKit
import Derived.Test.YtbjkijifpikhkaaLinClone
import Derived.Test.YtbjkijifpikhkaaLinPut
import Derived.Test.YtbjkijifpikhkaaCondKit
import Derived.Test.YtbjkijifpikhkaaCondHolds
import Derived.Test.YtbjkijifpikhkaaWideBase
import Derived.Test.YtbjkijifpikhkaaWideNormal
import Derived.Test.YtbjkijifpikhkaaWideDiv
import Derived.Test.YtbjkijifpikhkaaWideAll
import Derived.Test.YtbjkijifpikhkaaWideGe
import Derived.Test.YtbjkijifpikhkaaWideEq
import Derived.Test.YtbjkijifpikhkaaWideDv
namespace Go.Proofs.Ytbjkijifpikhkaa
open Go.RowKit
set_option linter.unusedVariables false
set_option linter.unusedSimpArgs false

/-- A kind with the modulus that belongs to it. -/
def KindOk (q M : Int) : Prop := q = 0 ∨ q = 1 ∨ (q = 2 ∧ 1 ≤ M ∧ M ≤ 512)
theorem wide_normal (q M : Int) (A : Option Addr) (n c : Nat) (K : Int) (xs : List Int) (hq : KindOk q M) (hK : -4611686018427387904 ≤ K ∧ K ≤ 4611686018427387904) (hx : ∀ x ∈ xs, -4611686018427387904 ≤ x ∧ x ≤ 4611686018427387904) (w : World) (hI : IntsAt w A n xs) :
    Calls Try.prog 29 #[condV q M A n c K] w fun e w' => NfRet w e w' (nf q M n xs K) := by
  rcases hq with rfl | rfl | ⟨rfl, hM⟩
  · exact wide_normal_ge M A n c K xs hK hx w hI
  · exact wide_normal_eq M A n c K xs hK hx w hI
  · exact wide_normal_dv M A n c K xs hM hK hx w hI
theorem validC_ok {q M : Int} {xs : List Int} {K : Int} (h : validC q M xs K = true) : KindOk q M := by
  rcases (validC_kind h).2 with ⟨h, _⟩ | ⟨h, _⟩ | h
  · exact .inl h
  · exact .inr (.inl h)
  · exact .inr (.inr h)
theorem fits_wide {x : Int} (h : fitsB x = true) : -4611686018427387904 ≤ x ∧ x ≤ 4611686018427387904 := by
  unfold fitsB at h; simp at h; omega

/-- The answer is a condition in a row of its own, a state and an error. -/
def CondRet3 (w : World) (e : Ending) (w' : World) (q M : Int) (X : List Int) (K s er : Int) : Prop :=
  ∃ A n c, e = .returned (.tuple #[condV q M A n c K, .int .i64 s, .int .i64 er]) ∧ IntsAt w' A n X ∧ Below w.heap.size w w' ∧ (n = 0 ∨ ∃ g, A = some ⟨g, 0, none⟩ ∧ w.heap.size ≤ g ∧ OwnRow w' g n X)
/-- What cond.Normal answers: the normal form, or the error. -/
def nfV (q M : Int) (n : Nat) (xs : List Int) (K : Int) : Int × Int × List Int × Int × Int := if validC q M xs K then nf q M n xs K else (0, 0, [], 0, 0)
def nfE (q M : Int) (xs : List Int) (K : Int) : Int := if validC q M xs K then 0 else 1
abbrev NfRet3 (w : World) (e : Ending) (w' : World) (r : Int × Int × List Int × Int × Int) (er : Int) : Prop := CondRet3 w e w' r.1 r.2.1 r.2.2.1 r.2.2.2.1 r.2.2.2.2 er

section
variable {w : World} {b : Nat} {q M : Int} {A : Option Addr} {n c : Nat} {K : Int}
theorem CBox.s0 (h : CBox w b q M A n c K) (v : Int) : CBox (w.setCell ⟨b, 0, none⟩ (.int .i64 v)) b v M A n c K := by
  unfold CBox at *; show (Array.modify _ b _)[b]? = _; rw [Array.getElem?_modify, if_pos rfl, h]; rfl
theorem CBox.s1 (h : CBox w b q M A n c K) (v : Int) : CBox (w.setCell ⟨b, 1, none⟩ (.int .i64 v)) b q v A n c K := by
  unfold CBox at *; show (Array.modify _ b _)[b]? = _; rw [Array.getElem?_modify, if_pos rfl, h]; rfl
theorem CBox.s2 (h : CBox w b q M A n c K) (A' : Option Addr) (n' c' : Nat) : CBox (w.setCell ⟨b, 2, none⟩ (.slice A' n' c')) b q M A' n' c' K := by
  unfold CBox at *; show (Array.modify _ b _)[b]? = _; rw [Array.getElem?_modify, if_pos rfl, h]; rfl
theorem CBox.s3 (h : CBox w b q M A n c K) (v : Int) : CBox (w.setCell ⟨b, 3, none⟩ (.int .i64 v)) b q M A n c v := by
  unfold CBox at *; show (Array.modify _ b _)[b]? = _; rw [Array.getElem?_modify, if_pos rfl, h]; rfl
end

set_option maxHeartbeats 4000000 in
theorem cond_normal (q M : Int) (A : Option Addr) (n c : Nat) (K : Int) (xs : List Int) (w : World) (hI : IntsAt w A n xs) :
    Calls Try.prog 15 #[condV q M A n c K] w fun e w' => NfRet3 w e w' (nfV q M n xs K) (nfE q M xs K) := by
  have hB := below_step (below_alloc w (.cells #[.int .i64 q, .int .i64 M, .slice A n c, .int .i64 K] 26)) (below_alloc _ (.cells #[.int .i64 0, .int .i64 0, .slice none 0 0, .int .i64 0] 26))
  have h1 := hI.step hB
  have B1 := (CBox.new w q M A n c K).step (below_alloc _ (.cells #[.int .i64 0, .int .i64 0, .slice none 0 0, .int .i64 0] 26))
  have B2 := CBox.new (w.alloc (.cells #[.int .i64 q, .int .i64 M, .slice A n c, .int .i64 K] 26)) 0 0 none 0 0 0
  rw [World.size_alloc] at B2
  cases hv : validC q M xs K
  · have e1 : nfV q M n xs K = (0, 0, [], 0, 0) := by unfold nfV; rw [hv]; rfl
    have e2 : nfE q M xs K = 1 := by unfold nfE; rw [hv]; rfl
    rw [e1, e2]
    have HV := Lib.hid hv
    clear hv e1 e2
    go_enter Try.func15, Try.ntmps15
    go_wp2_with (go_at_call 12; refine (cond_valid _ _ _ _ _ _ xs _ h1).mono ?_; rintro e w1 ⟨rfl, hb⟩; rw [HV.out]; replace hB := below_step hB hb; replace B2 := B2.step hb; have d0 := B2.c0; have d1 := B2.c1; have d2 := B2.c2; have d3 := B2.c3; have f0 := B2.f 0; have f1 := B2.f 1; have f2 := B2.f 2; have f3 := B2.f 3)
    obtain ⟨e0, e1, e2, e3⟩ := B2.four 0 0 none 0 0 0
    refine bodyPost_ret (v := .tuple #[condV 0 0 none 0 0 0, .int .i64 0, .int .i64 1]) (by simp [results, Try.results15, go_sem, e0, e1, e2, e3]) rfl ?_
    exact ⟨none, 0, 0, rfl, ints_nil _ _, below_store4 hB (by omega) _ _ _ _, .inl rfl⟩
  · have e1 : nfV q M n xs K = nf q M n xs K := by unfold nfV; rw [hv]; rfl
    have e2 : nfE q M xs K = 0 := by unfold nfE; rw [hv]; rfl
    rw [e1, e2]
    have hB3 := validB_true.1 (validC_kind hv).1
    have HN := Lib.hid (fun W (h : IntsAt W A n xs) => wide_normal q M A n c K xs (validC_ok hv) (fits_wide hB3.2.1) (fun x hx => fits_wide (hB3.2.2 x hx)) W h)
    obtain ⟨r, hr⟩ : ∃ r, nf q M n xs K = r := ⟨_, rfl⟩
    rw [hr] at HN ⊢
    have HV := Lib.hid hv
    clear hv e1 e2 hr hB3 hI
    go_enter Try.func15, Try.ntmps15
    go_wp2_with (first
      | (go_at_call 12; refine (cond_valid _ _ _ _ _ _ xs _ h1).mono ?_; rintro e w1 ⟨rfl, hb⟩; rw [HV.out]; replace hB := below_step hB hb; replace h1 := h1.step hb; replace B1 := B1.step hb; replace B2 := B2.step hb; have c0 := B1.c0; have c1 := B1.c1; have c2 := B1.c2; have c3 := B1.c3)
      | (go_at_call 29; refine (HN.out _ h1).mono ?_; rintro e w4 ⟨A4, n4, c4, rfl, I4, hb4, O4⟩; have l4 := B2.lt; replace hB := below_step hB hb4; replace B2 := B2.step hb4; have l5 := B2.lt; have T0 := B2; have T1 := T0.s0 r.1; have T2 := T1.s1 r.2.1; have T3 := T2.s2 A4 n4 c4; have T4 := T3.s3 r.2.2.2.1; replace T0 := T0.alloc (.cells #[.int .i64 r.1, .int .i64 r.2.1, .slice A4 n4 c4, .int .i64 r.2.2.2.1] 26); replace T1 := T1.alloc (.cells #[.int .i64 r.1, .int .i64 r.2.1, .slice A4 n4 c4, .int .i64 r.2.2.2.1] 26); replace T2 := T2.alloc (.cells #[.int .i64 r.1, .int .i64 r.2.1, .slice A4 n4 c4, .int .i64 r.2.2.2.1] 26); replace T3 := T3.alloc (.cells #[.int .i64 r.1, .int .i64 r.2.1, .slice A4 n4 c4, .int .i64 r.2.2.2.1] 26); replace T4 := T4.alloc (.cells #[.int .i64 r.1, .int .i64 r.2.1, .slice A4 n4 c4, .int .i64 r.2.2.2.1] 26); have d0 := T0.c0; have d1 := T1.c1; have d2 := T2.c2; have d3 := T3.c3; have f0 := T0.f 0; have f1 := T1.f 1; have f2 := T2.f 2; have f3 := T3.f 3; have e0 := T4.c0; have e1 := T4.c1; have e2 := T4.c2; have e3 := T4.c3))
    refine bodyPost_ret (v := .tuple #[condV r.1 r.2.1 A4 n4 c4 r.2.2.2.1, .int .i64 r.2.2.2.2, .int .i64 0]) (by simp [results, Try.results15, go_sem, e0, e1, e2, e3]) rfl ?_
    obtain ⟨A5, n5, c5, h5, I5, b5, O5⟩ := condRet_into (w0 := w) (q := r.1) (M := r.2.1) (K := r.2.2.2.1) (s := r.2.2.2.2) (b := w.heap.size + 1) (c := c4) I4 O4 hB (by omega) l4 (.int .i64 r.1) (.int .i64 r.2.1) (.slice A4 n4 c4) (.int .i64 r.2.2.2.1)
    have hal := below_alloc ((((w4.setCell ⟨w.heap.size + 1, 0, none⟩ (.int .i64 r.1)).setCell ⟨w.heap.size + 1, 1, none⟩ (.int .i64 r.2.1)).setCell ⟨w.heap.size + 1, 2, none⟩ (.slice A4 n4 c4)).setCell ⟨w.heap.size + 1, 3, none⟩ (.int .i64 r.2.2.2.1)) (.cells #[.int .i64 r.1, .int .i64 r.2.1, .slice A4 n4 c4, .int .i64 r.2.2.2.1] 26)
    obtain ⟨rfl, rfl, rfl⟩ : A5 = A4 ∧ n5 = n4 ∧ c5 = c4 := by injection h5 with h; injection h with h; simp at h; exact ⟨h.1.symm, h.2.1.symm, h.2.2.symm⟩
    refine ⟨A5, n5, c5, rfl, I5.step hal, below_step b5 hal, ?_⟩
    rcases O5 with h | ⟨g, hg1, hg2, O⟩
    · exact .inl h
    · exact .inr ⟨g, hg1, hg2, O.step hal⟩
end Go.Proofs.Ytbjkijifpikhkaa
