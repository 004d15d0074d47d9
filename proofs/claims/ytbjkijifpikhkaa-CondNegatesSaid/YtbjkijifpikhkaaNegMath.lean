/-
  Negation as mathematics: at each point exactly one holds of a condition and what its negation answers.
-/
import Derived.Test.YtbjkijifpikhkaaCondNeg
import Derived.Test.YtbjkijifpikhkaaNfMath
import Derived.Test.YtbjkijifpikhkaaValMath
namespace Go.Proofs.Ytbjkijifpikhkaa
open Go.RowKit
set_option linter.unusedVariables false
set_option linter.unusedSimpArgs false

def holdD (n : Nat) (ps : List Int) (d : CD) : Bool := holdB d.q d.M (d.K + dotSum d.xs ps n)

theorem zeros_get (n j : Nat) : (zeros n)[j]?.getD 0 = 0 := by simp [zeros, List.getElem?_replicate]; split <;> rfl
theorem one_count {n : Nat} {ps : List Int} {d : CD} (h : OppOk n d) : (negOne n d).countP (holdD n ps) = [d].countP (holdD n ps) := by
  have hh := nf_holds (K := d.K) h.2.2.2 h.1 ps
  have hst := nf_state (K := d.K) h.2.2.2 h.1
  have hd : holdD n ps d = holdB d.q d.M (d.K + dotSum d.xs ps n) := rfl
  unfold negOne
  show List.countP _ (if (nf d.q d.M n d.xs d.K).2.2.2.2 = 0 then _ else if (nf d.q d.M n d.xs d.K).2.2.2.2 = 1 then _ else _) = _
  rw [List.countP_singleton, hd, hh]
  rcases hst with ⟨hs, _, _⟩ | hs | hs
  · rw [if_pos hs, if_pos hs, List.countP_singleton]
    rfl
  · have z : ¬ (nf d.q d.M n d.xs d.K).2.2.2.2 = 0 := by rw [hs]; decide
    rw [if_neg z, if_pos hs, if_neg z, hs, List.countP_singleton]
    have : holdD n ps ⟨0, 0, zeros n, 0⟩ = true := by
      show holdB 0 0 (0 + dotSum (zeros n) ps n) = true
      rw [dot_zero n fun j _ => zeros_get n j]
      rfl
    rw [this]; rfl
  · have z : ¬ (nf d.q d.M n d.xs d.K).2.2.2.2 = 0 := by rw [hs]; decide
    have z1 : ¬ (nf d.q d.M n d.xs d.K).2.2.2.2 = 1 := by rw [hs]; decide
    rw [if_neg z, if_neg z1, if_neg z, hs]
    rfl
theorem out_count {n : Nat} {ps : List Int} : ∀ ds : List CD, (∀ d ∈ ds, OppOk n d) → (negOut n ds).countP (holdD n ps) = ds.countP (holdD n ps)
  | [], _ => rfl
  | d :: ds, h => by
    have ih := out_count (ps := ps) ds fun d' hd' => h d' (List.mem_cons_of_mem _ hd')
    unfold negOut at ih ⊢
    rw [List.flatMap_cons, List.countP_append, ih, one_count (h d List.mem_cons_self)]
    simp only [List.countP_cons, List.countP_nil]
    omega

theorem count_shift (t : Int) : ∀ N : Nat, (List.range N).countP (fun (r : Nat) => decide ((r : Int) + 1 = t)) = if 1 ≤ t ∧ t ≤ N then 1 else 0
  | 0 => by rw [if_neg (by omega)]; rfl
  | N + 1 => by
    rw [List.range_succ, List.countP_append, count_shift t N, List.countP_singleton]
    by_cases h : (N : Int) + 1 = t
    · rw [if_neg (by omega), if_pos (by simpa using h), if_pos (by omega)]
    · rw [if_neg (show ¬ (decide ((N : Int) + 1 = t) = true) by simpa using h)]
      by_cases h2 : 1 ≤ t ∧ t ≤ N
      · rw [if_pos h2, if_pos (by omega)]
      · rw [if_neg h2, if_neg (by omega)]
theorem mul_dot {n : Nat} {s : Int} {xs ps : List Int} : dotSum (mulL n s xs) ps n = s * dotSum xs ps n :=
  dot_scale n fun j hj => by unfold mulL; rw [tab_get _ hj]

/-- Of a condition and the conditions of its negation exactly one holds. -/
theorem opp_count {q M : Int} {n : Nat} {xs : List Int} {K : Int} (hq : (q = 0 ∧ M = 0) ∨ (q = 1 ∧ M = 0) ∨ (q = 2 ∧ 1 ≤ M ∧ M ≤ 512)) (ps : List Int) :
    (oppL q M n xs K).countP (holdD n ps) + (if holdB q M (K + dotSum xs ps n) = true then 1 else 0) = 1 := by
  generalize hv : K + dotSum xs ps n = v
  have ev : ∀ k s : Int, s * K + k + dotSum (mulL n s xs) ps n = s * v + k := fun k s => by
    rw [mul_dot, ← hv, Int.mul_add]; omega
  unfold oppL
  rcases hq with ⟨rfl, rfl⟩ | ⟨rfl, rfl⟩ | ⟨rfl, hM⟩
  · rw [if_pos rfl, List.countP_singleton]
    have e : holdD n ps ⟨0, 0, mulL n (-1) xs, -1 * K + -1⟩ = decide (0 ≤ -1 * v + -1) := by
      show holdB 0 0 (-1 * K + -1 + dotSum (mulL n (-1) xs) ps n) = _
      rw [ev]; rfl
    have e2 : holdB 0 0 v = decide (0 ≤ v) := rfl
    rw [e, e2]
    by_cases h : 0 ≤ v
    · rw [if_neg (by simp; omega), if_pos (by simpa using h)]
    · rw [if_pos (by simp; omega), if_neg (by simpa using h)]
  · rw [if_neg (by decide), if_pos rfl, List.countP_cons, List.countP_singleton]
    have e : holdD n ps ⟨0, 0, mulL n (-1) xs, -1 * K + -1⟩ = decide (0 ≤ -1 * v + -1) := by
      show holdB 0 0 (-1 * K + -1 + dotSum (mulL n (-1) xs) ps n) = _
      rw [ev]; rfl
    have e' : holdD n ps ⟨0, 0, mulL n 1 xs, 1 * K + -1⟩ = decide (0 ≤ 1 * v + -1) := by
      show holdB 0 0 (1 * K + -1 + dotSum (mulL n 1 xs) ps n) = _
      rw [ev]; rfl
    have e2 : holdB 1 0 v = decide (v = 0) := rfl
    rw [e, e', e2]
    by_cases h0 : v = 0
    · rw [if_neg (by simp; omega), if_neg (by simp; omega), if_pos (by simpa using h0)]
    · by_cases h1 : 0 < v
      · rw [if_neg (by simp; omega), if_pos (by simp; omega), if_neg (by simpa using h0)]
      · rw [if_pos (by simp; omega), if_neg (by simp; omega), if_neg (by simpa using h0)]
  · rw [if_neg (by decide), if_neg (by decide), List.countP_map]
    have e2 : holdB 2 M v = decide (v % M = 0) := rfl
    have m0 := Int.emod_nonneg v (show M ≠ 0 by omega)
    have m1 := Int.emod_lt_of_pos v (show 0 < M by omega)
    have hcong : (List.range (M.toNat - 1)).countP (holdD n ps ∘ fun (r : Nat) => (⟨2, M, mulL n 1 xs, 1 * K + -((r : Int) + 1)⟩ : CD)) = (List.range (M.toNat - 1)).countP (fun (r : Nat) => decide ((r : Int) + 1 = v % M)) := by
      refine List.countP_congr fun r hr => ?_
      have hr := List.mem_range.1 hr
      show holdB 2 M (1 * K + -((r : Int) + 1) + dotSum (mulL n 1 xs) ps n) = true ↔ _
      rw [ev]
      show decide ((1 * v + -((r : Int) + 1)) % M = 0) = true ↔ decide ((r : Int) + 1 = v % M) = true
      rw [decide_eq_true_iff, decide_eq_true_iff]
      have e3 := Int.mul_ediv_add_emod v M
      constructor
      · intro h
        obtain ⟨y, hy⟩ := Int.dvd_of_emod_eq_zero h
        have h4 : M * (y - v / M) = v % M - ((r : Int) + 1) := by rw [Int.mul_sub]; omega
        rcases Int.lt_trichotomy (y - v / M) 0 with h5 | h5 | h5
        · have : M * (y - v / M) ≤ M * (-1) := Int.mul_le_mul_of_nonneg_left (by omega) (by omega)
          omega
        · rw [h5, Int.mul_zero] at h4; omega
        · have : M * 1 ≤ M * (y - v / M) := Int.mul_le_mul_of_nonneg_left (by omega) (by omega)
          omega
      · intro h
        rw [h, show 1 * v + -(v % M) = M * (v / M) by omega]
        exact Int.mul_emod_right _ _
    rw [hcong, count_shift, e2]
    by_cases h : v % M = 0
    · rw [if_neg (by omega), if_pos (by simpa using h)]
    · rw [if_pos (by omega), if_neg (by simpa using h)]

/-- What Negate answers is valid. -/
theorem out_valid {n : Nat} {ds : List CD} (hn : n ≤ 12) (h : ∀ d ∈ ds, OppOk n d) (hb : ds.any (negBad n) = false) : ∀ d ∈ negOut n ds, validC d.q d.M d.xs d.K = true ∧ d.xs.length = n := by
  intro d hd
  obtain ⟨d0, hd0, hd⟩ := List.mem_flatMap.1 hd
  obtain ⟨h1, h2, h3, h4⟩ := h d0 hd0
  have hbad : negBad n d0 = false := by
    rw [List.any_eq_false] at hb
    simpa using hb d0 hd0
  unfold negOne at hd
  split at hd
  · rename_i hs
    rw [List.mem_singleton.1 hd]
    have hs' : (nf d0.q d0.M n d0.xs d0.K).2.2.2.2 = 0 := hs
    have hi := (nf_idem h4 h1 hs').1
    have hvb : validB (nf d0.q d0.M n d0.xs d0.K).2.2.1 (nf d0.q d0.M n d0.xs d0.K).2.2.2.1 = true := by
      unfold negBad at hbad
      rw [show decide ((nfD n d0).2.2.2.2 = 0) = true by simpa using hs, Bool.true_and] at hbad
      simpa [nfD] using hbad
    refine ⟨?_, hi⟩
    show validC (nf d0.q d0.M n d0.xs d0.K).1 (nf d0.q d0.M n d0.xs d0.K).2.1 (nf d0.q d0.M n d0.xs d0.K).2.2.1 (nf d0.q d0.M n d0.xs d0.K).2.2.2.1 = true
    unfold validC
    rw [hvb, Bool.true_and]
    rcases nf_case (K := d0.K) h4 h1 with ⟨s, hs'', h, hh⟩ | ⟨g, _, hg, h, _, _⟩ | ⟨D, _, hD, h, _, _, _, _⟩ | ⟨h, hq, h0, hM, hne, e, _, _, _⟩
    · rw [h] at hs'; exfalso; rcases hs'' with rfl | rfl <;> cases hs'
    · rw [h]; rfl
    · rw [h]; rfl
    · rw [e]
      rcases h1 with h1 | h1 | ⟨_, h1, h2⟩
      · rw [hq] at h1; cases h1
      · rw [hq] at h1; cases h1
      · have hM' := Int.ediv_mul_cancel hM
        have m3 := Int.ediv_le_self (h : Int) (show 0 ≤ d0.M by omega)
        have hm : 1 ≤ d0.M / (h : Int) := by
          rcases Int.lt_or_le (d0.M / (h : Int)) 1 with hlt | hge
          · have m4 := Int.ediv_nonneg (show 0 ≤ d0.M by omega) (show (0 : Int) ≤ h by omega)
            have : d0.M / (h : Int) = 0 := by omega
            rw [this] at hM'; omega
          · exact hge
        simp; omega
  · split at hd
    · rw [List.mem_singleton.1 hd]
      refine ⟨?_, zeros_len n⟩
      show validC 0 0 (zeros n) 0 = true
      unfold validC
      rw [validB_true.2 ⟨by rw [zeros_len]; exact hn, by decide, fun x hx => by rw [List.eq_of_mem_replicate hx]; decide⟩]
      rfl
    · cases hd
end Go.Proofs.Ytbjkijifpikhkaa
