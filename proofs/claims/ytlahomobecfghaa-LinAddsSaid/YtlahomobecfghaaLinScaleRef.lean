/-
  Scale of the reference of package lin.
-/
import Derived.Test.YtlahomobecfghaaProg
import Derived.Test.YtlahomobecfghaaLinKit
import Derived.Test.YtlahomobecfghaaLinBase
import Derived.Test.YtlahomobecfghaaLinAt
import Derived.Test.YtlahomobecfghaaLinMix
import Derived.Test.YtlahomobecfghaaLinMake
import Derived.Test.YtlahomobecfghaaLinSumRef
namespace Go.Proofs.Ytlahomobecfghaa
open Go.RowKit
set_option linter.unusedVariables false
set_option linter.unusedSimpArgs false

def zB (xs : List Int) (K : Int) : Bool := sameB xs K (zeros xs.length) 0
def scL (n : Nat) (k : Int) (xs : List Int) : List Int := mixL n k xs 0 (zeros n)
def scK (k K : Int) : Int := k * K + 0 * 0
def kE (xs : List Int) (K k : Int) : Int := if validB xs K = true then (if zB xs K = true then 0 else if fitsB k = true then (if validB (scL xs.length k xs) (scK k K) = true then 0 else 3) else 3) else 1
def kX (xs : List Int) (K k : Int) : List Int := if validB xs K = true then (if zB xs K = true then zeros xs.length else if fitsB k = true then (if validB (scL xs.length k xs) (scK k K) = true then scL xs.length k xs else []) else []) else []
def kK (xs : List Int) (K k : Int) : Int := if validB xs K = true then (if zB xs K = true then 0 else if fitsB k = true then (if validB (scL xs.length k xs) (scK k K) = true then scK k K else 0) else 0) else 0
section
variable {xs : List Int} {K k : Int} {n : Nat}
theorem k_inv (h : validB xs K = false) : kE xs K k = 1 ∧ kX xs K k = [] ∧ kK xs K k = 0 := by unfold kE kX kK; rw [h]; exact ⟨rfl, rfl, rfl⟩
theorem k_zero (h : validB xs K = true) (hz : zB xs K = true) (hn : xs.length = n) : kE xs K k = 0 ∧ kX xs K k = zeros n ∧ kK xs K k = 0 := by unfold kE kX kK; rw [h, hz, hn]; exact ⟨rfl, rfl, rfl⟩
theorem k_fit (h : validB xs K = true) (hz : zB xs K = false) (hk : fitsB k = false) : kE xs K k = 3 ∧ kX xs K k = [] ∧ kK xs K k = 0 := by unfold kE kX kK; rw [h, hz, hk]; exact ⟨rfl, rfl, rfl⟩
theorem k_bad (h : validB xs K = true) (hz : zB xs K = false) (hk : fitsB k = true) (hn : xs.length = n) (hr : validB (scL n k xs) (scK k K) = false) : kE xs K k = 3 ∧ kX xs K k = [] ∧ kK xs K k = 0 := by
  unfold kE kX kK; rw [h, hz, hk, hn, hr]; exact ⟨rfl, rfl, rfl⟩
theorem k_ok (h : validB xs K = true) (hz : zB xs K = false) (hk : fitsB k = true) (hn : xs.length = n) (hr : validB (scL n k xs) (scK k K) = true) : kE xs K k = 0 ∧ kX xs K k = scL n k xs ∧ kK xs K k = scK k K := by
  unfold kE kX kK; rw [h, hz, hk, hn, hr]; exact ⟨rfl, rfl, rfl⟩
theorem zeros_tame (n : Nat) : Tame (zeros n) := fun j => by
  by_cases h : j < n <;> simp [zeros, h]
end

set_option maxHeartbeats 2000000 in
theorem ref_scale (A : Option Addr) (n c : Nat) (K : Int) (xs : List Int) (k : Int) (w : World) (hI : IntsAt w A n xs) :
    Calls Try.prog 47 #[.agg #[.slice A n c, .int .i64 K], .int .i64 k] w fun e w' => LinRet w e w' (kX xs K k) (kK xs K k) (kE xs K k) := by
  have hsm := hI.small
  have hmk := make_ints n hsm
  have B1 := (LBox.new w A n c K).alloc (.cells #[.slice none 0 0, .int .i64 0] 38)
  have B2 := LBox.new (w.alloc (.cells #[.slice A n c, .int .i64 K] 38)) none 0 0 0
  have hB := below_step (below_alloc w (.cells #[.slice A n c, .int .i64 K] 38)) (below_alloc _ (.cells #[.slice none 0 0, .int .i64 0] 38))
  have h1 := hI.step hB
  have hlen := hI.len
  rw [World.size_alloc] at B2
  clear hI
  cases hv : validB xs K
  · have HE := Lib.hid (k_inv (k := k) hv)
    clear hlen hmk
    go_enter Try.func47, Try.ntmps47
    go_wp2_with (go_at_call 39; refine (ref_valid _ _ _ _ xs _ h1).mono ?_; rintro e w1 ⟨rfl, hb⟩; replace B2 := B2.step hb; replace hB := below_step hB hb; have c20 := B2.c0; have c21 := B2.c1; have f20 := B2.f 0; have f21 := B2.f 1; have c40 := B2.s0 (.slice none 0 0); have c41 := (B2.store none 0 0 0).c1)
    refine bodyPost_ret (v := .tuple #[.agg #[.slice none 0 0, .int .i64 0], .int .i64 1]) (by simp [results, Try.results47, go_sem, c40, c41]) rfl ?_
    rw [HE.out.2.1]
    exact ret_lin HE.out.1 HE.out.2.2 (ints_nil _ _) (below_store2 hB (by omega) _ _)
  · have HV := Lib.hid hv
    cases hz : zB xs K
    · have hz' : sameB xs K (zeros n) 0 = false := by unfold zB at hz; rw [hlen] at hz; exact hz
      have HZ := Lib.hid hz'
      clear hz'
      cases hk : fitsB k
      · have HE := Lib.hid (k_fit hv hz hk)
        clear hlen hz
        go_enter Try.func47, Try.ntmps47
        go_wp2_with (first
          | (go_at_call 39; refine (ref_valid _ _ _ _ xs _ h1).mono ?_; rintro e w1 ⟨rfl, hb⟩; replace h1 := h1.step hb; replace B1 := B1.step hb; replace B2 := B2.step hb; replace hB := below_step hB hb; have c10 := B1.c0; have c11 := B1.c1; have c20 := B2.c0; have c21 := B2.c1; have f20 := B2.f 0; have f21 := B2.f 1; have Z1 := (new_ints w1 (zeros n) n (zeros_len n) hsm (zeros_wf n) w1.heap.size rfl).step (below_alloc _ (.cells #[.slice (some ⟨w1.heap.size, 0, none⟩) n n, .int .i64 0] 38)); have d1 := below_step (below_alloc w1 (.cells ((zeros n).map (Value.int .i64)).toArray 3)) (below_alloc _ (.cells #[.slice (some ⟨w1.heap.size, 0, none⟩) n n, .int .i64 0] 38)); have BZ := LBox.new (w1.alloc (.cells ((zeros n).map (Value.int .i64)).toArray 3)) (some ⟨w1.heap.size, 0, none⟩) n n 0; rw [World.size_alloc] at BZ; have g1 := h1.step d1; have G1 := B1.step d1; have G2 := B2.step d1; have hG := below_step hB d1; have l1 := B1.lt; have l2 := B2.lt)
          | (go_at_call 61; refine (ref_same _ _ _ _ xs _ _ _ _ (zeros n) _ g1 Z1).mono ?_; rintro e w2 ⟨rfl, hb2⟩; rw [HZ.out]; replace Z1 := Z1.step hb2; replace BZ := BZ.step hb2; replace g1 := g1.step hb2; replace G1 := G1.step hb2; replace G2 := G2.step hb2; replace hG := below_step hG hb2; have z0 := BZ.c0; have z1 := BZ.c1; have k10 := G1.c0; have k11 := G1.c1; have k20 := G2.c0; have k21 := G2.c1; have e20 := G2.f 0; have e21 := G2.f 1; have c40 := G2.s0 (.slice none 0 0); have c41 := (G2.store none 0 0 0).c1)
          | (go_at_call 27; refine (headlandref01_fits _ _).mono ?_; rintro e w5 ⟨rfl, rfl⟩))
        refine bodyPost_ret (v := .tuple #[.agg #[.slice none 0 0, .int .i64 0], .int .i64 3]) (by simp [results, Try.results47, go_sem, c40, c41]) rfl ?_
        rw [HE.out.2.1]
        exact ret_lin HE.out.1 HE.out.2.2 (ints_nil _ _) (below_store2 hG (by omega) _ _)
      · have HKb := Lib.hid (fitsB_true.1 hk)
        cases hr : validB (scL n k xs) (scK k K)
        · have HE := Lib.hid (k_bad hv hz hk hlen hr)
          clear hlen hz
          go_enter Try.func47, Try.ntmps47
          go_wp2_with (first
            | (go_at_call 39; refine (ref_valid _ _ _ _ xs _ h1).mono ?_; rintro e w1 ⟨rfl, hb⟩; replace h1 := h1.step hb; replace B1 := B1.step hb; replace B2 := B2.step hb; replace hB := below_step hB hb; have c10 := B1.c0; have c11 := B1.c1; have c20 := B2.c0; have c21 := B2.c1; have f20 := B2.f 0; have f21 := B2.f 1; have Z1 := (new_ints w1 (zeros n) n (zeros_len n) hsm (zeros_wf n) w1.heap.size rfl).step (below_alloc _ (.cells #[.slice (some ⟨w1.heap.size, 0, none⟩) n n, .int .i64 0] 38)); have d1 := below_step (below_alloc w1 (.cells ((zeros n).map (Value.int .i64)).toArray 3)) (below_alloc _ (.cells #[.slice (some ⟨w1.heap.size, 0, none⟩) n n, .int .i64 0] 38)); have BZ := LBox.new (w1.alloc (.cells ((zeros n).map (Value.int .i64)).toArray 3)) (some ⟨w1.heap.size, 0, none⟩) n n 0; rw [World.size_alloc] at BZ; have g1 := h1.step d1; have G1 := B1.step d1; have G2 := B2.step d1; have hG := below_step hB d1; have l1 := B1.lt; have l2 := B2.lt)
            | (go_at_call 61; refine (ref_same _ _ _ _ xs _ _ _ _ (zeros n) _ g1 Z1).mono ?_; rintro e w2 ⟨rfl, hb2⟩; rw [HZ.out]; replace Z1 := Z1.step hb2; replace BZ := BZ.step hb2; replace g1 := g1.step hb2; replace G1 := G1.step hb2; replace G2 := G2.step hb2; replace hG := below_step hG hb2; have z0 := BZ.c0; have z1 := BZ.c1; have k10 := G1.c0; have k11 := G1.c1; have k20 := G2.c0; have k21 := G2.c1; have e20 := G2.f 0; have e21 := G2.f 1)
            | (go_at_call 27; refine (headlandref01_fits _ _).mono ?_; rintro e w5 ⟨rfl, rfl⟩)
            | (go_at_call 66; refine (ref_mix k 0 A n c K xs (some ⟨w1.heap.size, 0, none⟩) n n 0 (zeros n) w2 g1 Z1 (Nat.le_refl _) HKb.out (by decide) (valid_k HV.out) (by decide) (valid_tame HV.out) (zeros_tame n)).mono ?_; rintro e w3 ⟨g5, c5, rfl, hg5, I5, hb3⟩; rw [show k * K + 0 * 0 = scK k K from rfl]; have n2 := G2.lt; replace G2 := G2.step hb3; replace hG := below_step hG hb3)
            | (go_at_call 59; refine (headlandref02_fit_bad _ _ _ _ _ _ I5 hr).mono ?_; rintro e w4 ⟨rfl, hb4⟩; replace I5 := I5.step hb4; replace G2 := G2.step hb4; replace hG := below_step hG hb4; have k20 := G2.c0; have k21 := G2.c1; have e20 := G2.f 0; have e21 := G2.f 1; have c40 := G2.s0 (.slice none 0 0); have c41 := (G2.store none 0 0 0).c1))
          refine bodyPost_ret (v := .tuple #[.agg #[.slice none 0 0, .int .i64 0], .int .i64 3]) (by simp [results, Try.results47, go_sem, c40, c41]) rfl ?_
          rw [HE.out.2.1]
          exact ret_lin HE.out.1 HE.out.2.2 (ints_nil _ _) (below_store2 hG (by omega) _ _)
        · have HE := Lib.hid (k_ok hv hz hk hlen hr)
          clear hlen hz
          go_enter Try.func47, Try.ntmps47
          go_wp2_with (first
            | (go_at_call 39; refine (ref_valid _ _ _ _ xs _ h1).mono ?_; rintro e w1 ⟨rfl, hb⟩; replace h1 := h1.step hb; replace B1 := B1.step hb; replace B2 := B2.step hb; replace hB := below_step hB hb; have c10 := B1.c0; have c11 := B1.c1; have c20 := B2.c0; have c21 := B2.c1; have f20 := B2.f 0; have f21 := B2.f 1; have Z1 := (new_ints w1 (zeros n) n (zeros_len n) hsm (zeros_wf n) w1.heap.size rfl).step (below_alloc _ (.cells #[.slice (some ⟨w1.heap.size, 0, none⟩) n n, .int .i64 0] 38)); have d1 := below_step (below_alloc w1 (.cells ((zeros n).map (Value.int .i64)).toArray 3)) (below_alloc _ (.cells #[.slice (some ⟨w1.heap.size, 0, none⟩) n n, .int .i64 0] 38)); have BZ := LBox.new (w1.alloc (.cells ((zeros n).map (Value.int .i64)).toArray 3)) (some ⟨w1.heap.size, 0, none⟩) n n 0; rw [World.size_alloc] at BZ; have g1 := h1.step d1; have G1 := B1.step d1; have G2 := B2.step d1; have hG := below_step hB d1; have l1 := B1.lt; have l2 := B2.lt)
            | (go_at_call 61; refine (ref_same _ _ _ _ xs _ _ _ _ (zeros n) _ g1 Z1).mono ?_; rintro e w2 ⟨rfl, hb2⟩; rw [HZ.out]; replace Z1 := Z1.step hb2; replace BZ := BZ.step hb2; replace g1 := g1.step hb2; replace G1 := G1.step hb2; replace G2 := G2.step hb2; replace hG := below_step hG hb2; have z0 := BZ.c0; have z1 := BZ.c1; have k10 := G1.c0; have k11 := G1.c1; have k20 := G2.c0; have k21 := G2.c1; have e20 := G2.f 0; have e21 := G2.f 1)
            | (go_at_call 27; refine (headlandref01_fits _ _).mono ?_; rintro e w5 ⟨rfl, rfl⟩)
            | (go_at_call 66; refine (ref_mix k 0 A n c K xs (some ⟨w1.heap.size, 0, none⟩) n n 0 (zeros n) w2 g1 Z1 (Nat.le_refl _) HKb.out (by decide) (valid_k HV.out) (by decide) (valid_tame HV.out) (zeros_tame n)).mono ?_; rintro e w3 ⟨g5, c5, rfl, hg5, I5, hb3⟩; rw [show k * K + 0 * 0 = scK k K from rfl]; have n2 := G2.lt; replace G2 := G2.step hb3; replace hG := below_step hG hb3)
            | (go_at_call 59; refine (headlandref02_fit_ok _ _ _ _ _ _ I5 hr).mono ?_; rintro e w4 ⟨rfl, hb4⟩; replace I5 := I5.step hb4; replace G2 := G2.step hb4; replace hG := below_step hG hb4; have k20 := G2.c0; have k21 := G2.c1; have e20 := G2.f 0; have e21 := G2.f 1; have c40 := G2.s0 (.slice (some ⟨g5, 0, none⟩) n c5); have c41 := (G2.store (some ⟨g5, 0, none⟩) n c5 (scK k K)).c1))
          refine bodyPost_ret (v := .tuple #[.agg #[.slice (some ⟨g5, 0, none⟩) n c5, .int .i64 (scK k K)], .int .i64 0]) (by simp [results, Try.results47, go_sem, c40, c41]) rfl ?_
          rw [HE.out.2.1]
          exact ret_lin HE.out.1 HE.out.2.2 (ints_store2 I5 rfl (by omega) _ _) (below_store2 hG (by omega) _ _)
    · have hz' : sameB xs K (zeros n) 0 = true := by unfold zB at hz; rw [hlen] at hz; exact hz
      have HZ := Lib.hid hz'
      have HE := Lib.hid (k_zero (k := k) hv hz hlen)
      clear hz' hz hlen
      go_enter Try.func47, Try.ntmps47
      go_wp2_with (first
        | (go_at_call 39; refine (ref_valid _ _ _ _ xs _ h1).mono ?_; rintro e w1 ⟨rfl, hb⟩; replace h1 := h1.step hb; replace B1 := B1.step hb; replace B2 := B2.step hb; replace hB := below_step hB hb; have c10 := B1.c0; have c11 := B1.c1; have c20 := B2.c0; have c21 := B2.c1; have f20 := B2.f 0; have f21 := B2.f 1; have Z1 := (new_ints w1 (zeros n) n (zeros_len n) hsm (zeros_wf n) w1.heap.size rfl).step (below_alloc _ (.cells #[.slice (some ⟨w1.heap.size, 0, none⟩) n n, .int .i64 0] 38)); have d1 := below_step (below_alloc w1 (.cells ((zeros n).map (Value.int .i64)).toArray 3)) (below_alloc _ (.cells #[.slice (some ⟨w1.heap.size, 0, none⟩) n n, .int .i64 0] 38)); have BZ := LBox.new (w1.alloc (.cells ((zeros n).map (Value.int .i64)).toArray 3)) (some ⟨w1.heap.size, 0, none⟩) n n 0; rw [World.size_alloc] at BZ; have g1 := h1.step d1; have G1 := B1.step d1; have G2 := B2.step d1; have hG := below_step hB d1; have l1 := B1.lt; have l2 := B2.lt)
        | (go_at_call 61; refine (ref_same _ _ _ _ xs _ _ _ _ (zeros n) _ g1 Z1).mono ?_; rintro e w2 ⟨rfl, hb2⟩; rw [HZ.out]; replace Z1 := Z1.step hb2; replace BZ := BZ.step hb2; replace g1 := g1.step hb2; replace G1 := G1.step hb2; replace G2 := G2.step hb2; replace hG := below_step hG hb2; have z0 := BZ.c0; have z1 := BZ.c1; have k10 := G1.c0; have k11 := G1.c1; have k20 := G2.c0; have k21 := G2.c1; have e20 := G2.f 0; have e21 := G2.f 1; have c40 := G2.s0 (.slice (some ⟨w1.heap.size, 0, none⟩) n n); have c41 := (G2.store (some ⟨w1.heap.size, 0, none⟩) n n 0).c1; have n2 := B2.lt))
      refine bodyPost_ret (v := .tuple #[.agg #[.slice (some ⟨w1.heap.size, 0, none⟩) n n, .int .i64 0], .int .i64 0]) (by simp [results, Try.results47, go_sem, c40, c41]) rfl ?_
      rw [HE.out.2.1]
      exact ret_lin HE.out.1 HE.out.2.2 (ints_store2 Z1 rfl (by omega) _ _) (below_store2 hG (by omega) _ _)
end Go.Proofs.Ytlahomobecfghaa
