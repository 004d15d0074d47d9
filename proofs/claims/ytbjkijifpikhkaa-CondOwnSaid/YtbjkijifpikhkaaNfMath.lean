/-
  The normal form as mathematics: it holds where its condition holds, and is its own normal form.
-/
import Derived.Test.YtbjkijifpikhkaaProg
import Derived.Test.YtbjkijifpikhkaaNumMath
import Derived.Test.YtbjkijifpikhkaaNumDot
import Derived.Test.YtbjkijifpikhkaaCondKit
import Derived.Test.YtbjkijifpikhkaaCondHolds
import Derived.Test.YtbjkijifpikhkaaWideBase
import Derived.Test.YtbjkijifpikhkaaWideNormal
import Derived.Test.YtbjkijifpikhkaaWideDiv
import Derived.Test.YtbjkijifpikhkaaWideAll
import Derived.Test.YtbjkijifpikhkaaCondNormal
namespace Go.Proofs.Ytbjkijifpikhkaa
open Go.RowKit
set_option linter.unusedVariables false
set_option linter.unusedSimpArgs false

theorem gcdA_scale (D : Int) : ∀ (xs : List Int) (g : Nat), gcdA (g * D.natAbs) (xs.map (· * D)) = gcdA g xs * D.natAbs
  | [], g => rfl
  | x :: xs, g => by
    show gcdA (Nat.gcd (g * D.natAbs) (x * D).natAbs) (xs.map (· * D)) = gcdA (Nat.gcd g x.natAbs) xs * D.natAbs
    rw [Int.natAbs_mul, Nat.gcd_mul_right]
    exact gcdA_scale D xs _
theorem gcdA_mem {g : Nat} {xs : List Int} {x : Int} (h : x ∈ xs) : ((gcdA g xs : Nat) : Int) ∣ x := Int.ofNat_dvd_left.2 ((gcd_fold xs g).2.1 x h)
theorem quo_back {n : Nat} {xs : List Int} {D : Int} (hl : xs.length = n) (hd : ∀ x ∈ xs, D ∣ x) : (quoL n xs D).map (· * D) = xs := by
  apply List.ext_getElem (by simp [quoL, hl])
  intro j h1 h2
  simp only [quoL, List.getElem_map, List.getElem_range]
  have e : xs[j]?.getD 0 = xs[j] := by simp [h2]
  rw [e, Int.tdiv_mul_cancel (hd _ (List.getElem_mem h2))]
theorem quo_len (n : Nat) (xs : List Int) (D : Int) : (quoL n xs D).length = n := by simp [quoL]
theorem quo_get {n j : Nat} {xs : List Int} {D : Int} (hj : j < n) : (quoL n xs D)[j]?.getD 0 = (xs[j]?.getD 0).tdiv D := by unfold quoL; exact tab_get _ hj
theorem quo_gcd {n : Nat} {xs : List Int} {D : Int} (hl : xs.length = n) (h0 : gcdA 0 xs ≠ 0) (hD : D.natAbs = gcdA 0 xs) : gcdA 0 (quoL n xs D) = 1 := by
  have hd : ∀ x ∈ xs, D ∣ x := fun x hx => by
    have := gcdA_mem (g := 0) hx
    rw [← hD] at this
    exact Int.natAbs_dvd.1 this
  have h := gcdA_scale D (quoL n xs D) 0
  rw [quo_back hl hd, Nat.zero_mul, hD] at h
  have h2 : gcdA 0 (quoL n xs D) * gcdA 0 xs = 1 * gcdA 0 xs := by rw [← h, Nat.one_mul]
  exact Nat.eq_of_mul_eq_mul_right (Nat.pos_of_ne_zero h0) h2
theorem quo_one {n : Nat} {xs : List Int} (hl : xs.length = n) : quoL n xs 1 = xs := by
  have := quo_back (D := 1) hl (fun x _ => Int.one_dvd x)
  simpa using this
theorem dot_scale {xs ys ps : List Int} {D : Int} : ∀ i, (∀ j, j < i → xs[j]?.getD 0 = D * ys[j]?.getD 0) → dotSum xs ps i = D * dotSum ys ps i
  | 0, _ => by simp [dotSum]
  | i + 1, h => by
    have := dot_scale (ps := ps) i fun j hj => h j (by omega)
    simp only [dotSum, this, h i (by omega), Int.mul_add, Int.mul_assoc]
theorem dot_quo {n : Nat} {xs ps : List Int} {D : Int} (hl : xs.length = n) (hd : ∀ x ∈ xs, D ∣ x) : dotSum xs ps n = D * dotSum (quoL n xs D) ps n := by
  refine dot_scale n fun j hj => ?_
  rw [quo_get hj, Int.mul_comm, Int.tdiv_mul_cancel (hd _ (getD_mem (by omega)))]
theorem dot_zero {xs ps : List Int} : ∀ i, (∀ j, j < i → xs[j]?.getD 0 = 0) → dotSum xs ps i = 0
  | 0, _ => rfl
  | i + 1, h => by
    have := dot_zero (ps := ps) i fun j hj => h j (by omega)
    simp only [dotSum, this, h i (by omega), Int.zero_mul]; rfl
theorem dot_mod {xs ys ps : List Int} {M : Int} : ∀ i, (∀ j, j < i → M ∣ xs[j]?.getD 0 - ys[j]?.getD 0) → M ∣ dotSum xs ps i - dotSum ys ps i
  | 0, _ => by simp [dotSum]
  | i + 1, h => by
    have h1 := dot_mod (ps := ps) i fun j hj => h j (by omega)
    have h2 := h i (by omega)
    simp only [dotSum]
    obtain ⟨a, ha⟩ := h1
    obtain ⟨b, hb⟩ := h2
    refine ⟨a + b * ps[i]?.getD 0, ?_⟩
    rw [Int.mul_add, ← Int.mul_assoc, ← ha, ← hb, Int.sub_mul]
    omega
theorem all_zero {xs : List Int} (h : gcdA 0 xs = 0) (j : Nat) : xs[j]?.getD 0 = 0 := by
  by_cases hj : j < xs.length
  · have := gcdA_mem (g := 0) (getD_mem hj)
    rw [h] at this
    exact Int.zero_dvd.1 this
  · simp [hj]

theorem lead_quo {n : Nat} {xs : List Int} {D : Int} (hl : xs.length = n) (hD : D ≠ 0) (hd : ∀ x ∈ xs, D ∣ x) : leadI xs = leadI (quoL n xs D) * D := by
  have key : ∀ ys : List Int, leadI (ys.map (· * D)) = leadI ys * D := by
    intro ys
    induction ys with
    | nil => simp [leadI]
    | cons y ys ih =>
      simp only [List.map_cons, leadI]
      by_cases h : y = 0
      · subst h; simp [ih]
      · rw [if_neg h, if_neg (by simp [h, hD])]
  have h := key (quoL n xs D)
  rw [quo_back hl hd] at h
  exact h
theorem leadBy_one {n : Nat} {xs : List Int} {G : Nat} (hl : xs.length = n) (h0 : G ≠ 0) (hd : ∀ x ∈ xs, (G : Int) ∣ x) : leadBy (quoL n xs (leadBy xs G)) 1 = 1 := by
  have hd2 : ∀ x ∈ xs, leadBy xs G ∣ x := fun x hx => by
    unfold leadBy; split
    · exact Int.neg_dvd.2 (hd x hx)
    · exact hd x hx
  have hne : leadBy xs G ≠ 0 := by unfold leadBy; split <;> omega
  have h := lead_quo hl hne hd2
  have h3 : leadBy xs G = if leadI xs < 0 then -(G : Int) else G := rfl
  generalize quoL n xs (leadBy xs G) = ys at *
  show (if leadI ys < 0 then -((1 : Nat) : Int) else (1 : Nat)) = 1
  rw [if_neg]
  · rfl
  · intro hn
    by_cases hx : leadI xs < 0
    · rw [if_pos hx] at h3
      rw [h3] at h
      have : leadI ys * -(G : Int) > 0 := Int.mul_pos_of_neg_of_neg hn (by omega)
      omega
    · rw [if_neg hx] at h3
      rw [h3] at h
      have : leadI ys * (G : Int) < 0 := Int.mul_neg_of_neg_of_pos hn (by omega)
      omega

/-- The four shapes of a normal form. -/
inductive NfCase (q M : Int) (n : Nat) (xs : List Int) (K : Int) : Prop
  | fixed (s : Int) (hs : s = 1 ∨ s = -1) (h : nf q M n xs K = (0, 0, [], 0, s)) (hh : ∀ ps, holdB q M (K + dotSum xs ps n) = decide (s = 1))
  | ge (g : Int) (hq : q = 0) (hg : 1 ≤ g) (h : nf q M n xs K = (0, 0, quoL n xs g, K / g, 0)) (h1 : gcdA 0 (quoL n xs g) = 1) (hd : ∀ x ∈ xs, g ∣ x)
  | eq (D : Int) (hq : q = 1) (hD : D ≠ 0) (h : nf q M n xs K = (1, 0, quoL n xs D, K.tdiv D, 0)) (h1 : gcdA 0 (quoL n xs D) = 1) (h2 : leadBy (quoL n xs D) 1 = 1) (hd : ∀ x ∈ xs, D ∣ x) (hK : D ∣ K)
  | dv (h : Nat) (hq : q = 2) (h0 : 1 ≤ h) (hM : (h : Int) ∣ M) (hne : (h : Int) ≠ M) (e : nf q M n xs K = (2, M / h, remL n xs M h, (K % M) / h, 0)) (hd : ∀ x ∈ xs, (h : Int) ∣ x) (hK : (h : Int) ∣ K) (hg : gcdA M.natAbs xs = h)

theorem nf_case {q M : Int} {n : Nat} {xs : List Int} {K : Int} (hl : xs.length = n) (hq : KindOk q M) : NfCase q M n xs K := by
  rcases hq with rfl | rfl | ⟨rfl, hM⟩
  · by_cases h0 : gcdA 0 xs = 0
    · refine .fixed (if 0 ≤ K then 1 else -1) (by split <;> simp) (by unfold nf; rw [if_pos rfl, if_pos h0]) fun ps => ?_
      rw [dot_zero n fun j _ => all_zero h0 j]
      unfold holdB; rw [if_pos rfl, Int.add_zero]
      split <;> simp_all
    · refine .ge (gcdA 0 xs : Nat) rfl (by omega) (by unfold nf; rw [if_pos rfl, if_neg h0]) (quo_gcd hl h0 (by simp)) fun x hx => gcdA_mem hx
  · by_cases h0 : gcdA 0 xs = 0
    · refine .fixed (if K = 0 then 1 else -1) (by split <;> simp) (by unfold nf; rw [if_neg (by decide), if_pos rfl, if_pos h0]) fun ps => ?_
      rw [dot_zero n fun j _ => all_zero h0 j]
      unfold holdB; rw [if_neg (by decide), if_pos rfl, Int.add_zero]
      split <;> simp_all
    · have hd : ∀ x ∈ xs, ((gcdA 0 xs : Nat) : Int) ∣ x := fun x hx => gcdA_mem hx
      by_cases h1 : K.tmod (gcdA 0 xs : Nat) = 0
      · have hK : ((gcdA 0 xs : Nat) : Int) ∣ K := Int.dvd_of_tmod_eq_zero h1
        have hv : ∀ z : Int, ((gcdA 0 xs : Nat) : Int) ∣ z → leadBy xs (gcdA 0 xs) ∣ z := fun z hz => by
          unfold leadBy; split
          · exact Int.neg_dvd.2 hz
          · exact hz
        refine .eq (leadBy xs (gcdA 0 xs)) rfl (by unfold leadBy; split <;> omega) (by unfold nf; rw [if_neg (by decide), if_pos rfl, if_neg h0, if_neg (by simpa using h1)]) (quo_gcd hl h0 (by unfold leadBy; split <;> omega)) (leadBy_one hl h0 hd) (fun x hx => hv x (hd x hx)) (hv K hK)
      · refine .fixed (-1) (.inr rfl) (by unfold nf; rw [if_neg (by decide), if_pos rfl, if_neg h0, if_pos h1]) fun ps => ?_
        unfold holdB
        rw [if_neg (by decide), if_pos rfl, dot_quo hl hd]
        have : K + ((gcdA 0 xs : Nat) : Int) * dotSum (quoL n xs (gcdA 0 xs : Nat)) ps n ≠ 0 := by
          intro e
          apply h1
          have : K = ((gcdA 0 xs : Nat) : Int) * -dotSum (quoL n xs (gcdA 0 xs : Nat)) ps n := by rw [Int.mul_neg]; omega
          rw [this]; exact Int.mul_tmod_right _ _
        simp [this]
  · have hgM : ((gcdA M.natAbs xs : Nat) : Int) ∣ M := Int.ofNat_dvd_left.2 (gcdA_dvd xs M.natAbs)
    have hpos := (gcdA_le (xs := xs) (show 0 < M.natAbs by omega)).1
    have hd : ∀ x ∈ xs, ((gcdA M.natAbs xs : Nat) : Int) ∣ x := fun x hx => gcdA_mem hx
    have hKK : (K % M) % ((gcdA M.natAbs xs : Nat) : Int) = K % ((gcdA M.natAbs xs : Nat) : Int) := Int.emod_emod_of_dvd K hgM
    by_cases h1 : (K % M) % ((gcdA M.natAbs xs : Nat) : Int) = 0
    · have hK : ((gcdA M.natAbs xs : Nat) : Int) ∣ K := by rw [hKK] at h1; exact Int.dvd_of_emod_eq_zero h1
      by_cases h2 : ((gcdA M.natAbs xs : Nat) : Int) = M
      · refine .fixed 1 (.inl rfl) (by unfold nf; rw [if_neg (by decide), if_neg (by decide), if_neg (by simpa using h1), if_pos h2]) fun ps => ?_
        unfold holdB
        rw [if_neg (by decide), if_neg (by decide), dot_quo hl hd, h2]
        rw [h2] at hK
        have : (K + M * dotSum (quoL n xs M) ps n) % M = 0 := by rw [Int.add_mul_emod_self_left]; exact Int.emod_eq_zero_of_dvd hK
        simp [this]
      · exact .dv (gcdA M.natAbs xs) rfl hpos hgM h2 (by unfold nf; rw [if_neg (by decide), if_neg (by decide), if_neg (by simpa using h1), if_neg h2]) hd hK rfl
    · refine .fixed (-1) (.inr rfl) (by unfold nf; rw [if_neg (by decide), if_neg (by decide), if_pos h1]) fun ps => ?_
      unfold holdB
      rw [if_neg (by decide), if_neg (by decide), dot_quo hl hd]
      have : ¬ (K + ((gcdA M.natAbs xs : Nat) : Int) * dotSum (quoL n xs (gcdA M.natAbs xs : Nat)) ps n) % M = 0 := by
        intro e
        apply h1
        rw [hKK]
        have h3 := Int.dvd_trans hgM (Int.dvd_of_emod_eq_zero e)
        have h4 := Int.dvd_sub h3 (Int.dvd_mul_right ((gcdA M.natAbs xs : Nat) : Int) (dotSum (quoL n xs (gcdA M.natAbs xs : Nat)) ps n))
        rw [Int.add_sub_cancel] at h4
        exact Int.emod_eq_zero_of_dvd h4
      simp [this]

theorem rem_len (n : Nat) (xs : List Int) (M h : Int) : (remL n xs M h).length = n := by simp [remL]
theorem rem_get {n j : Nat} {xs : List Int} {M h : Int} (hj : j < n) : (remL n xs M h)[j]?.getD 0 = (xs[j]?.getD 0 % M) / h := by unfold remL; exact tab_get _ hj

/-- A condition and its normal form hold at the same points. -/
theorem nf_holds {q M : Int} {n : Nat} {xs : List Int} {K : Int} (hl : xs.length = n) (hq : KindOk q M) (ps : List Int) :
    holdB q M (K + dotSum xs ps n) = if (nf q M n xs K).2.2.2.2 = 0 then holdB (nf q M n xs K).1 (nf q M n xs K).2.1 ((nf q M n xs K).2.2.2.1 + dotSum (nf q M n xs K).2.2.1 ps n) else decide ((nf q M n xs K).2.2.2.2 = 1) := by
  rcases nf_case (K := K) hl hq with ⟨s, hs, h, hh⟩ | ⟨g, rfl, hg, h, h1, hd⟩ | ⟨D, rfl, hD, h, h1, h2, hd, hK⟩ | ⟨h, rfl, h0, hM, hne, e, hd, hK, hg⟩
  · rw [h, hh ps, if_neg (by rcases hs with rfl | rfl <;> decide)]
  · rw [h, if_pos rfl, dot_quo hl hd]
    unfold holdB
    rw [if_pos rfl, if_pos rfl]
    apply decide_eq_decide.2
    have hgp : 0 < g := by omega
    rw [← Int.add_mul_ediv_left K _ (show g ≠ 0 by omega)]
    exact (Int.ediv_nonneg_iff_of_pos hgp).symm
  · rw [h, if_pos rfl, dot_quo hl hd]
    unfold holdB
    rw [if_neg (by decide), if_pos rfl, if_neg (show ¬ ((1, 0, quoL n xs D, K.tdiv D, 0) : Int × Int × List Int × Int × Int).1 = 0 from (by decide : ¬ (1 : Int) = 0)), if_pos (show ((1, 0, quoL n xs D, K.tdiv D, 0) : Int × Int × List Int × Int × Int).1 = 1 by rfl)]
    apply decide_eq_decide.2
    show K + D * dotSum (quoL n xs D) ps n = 0 ↔ K.tdiv D + dotSum (quoL n xs D) ps n = 0
    have hk : K = D * K.tdiv D := (Int.mul_tdiv_cancel' hK).symm
    generalize dotSum (quoL n xs D) ps n = y at *
    generalize K.tdiv D = k at *
    subst hk
    rw [← Int.mul_add]
    constructor
    · intro e
      rcases Int.mul_eq_zero.1 e with h | h
      · exact absurd h hD
      · exact h
    · intro e; rw [e, Int.mul_zero]
  · rw [e, if_pos rfl]
    unfold holdB
    rw [if_neg (by decide), if_neg (by decide), if_neg (show ¬ ((2, M / (h : Int), remL n xs M h, K % M / (h : Int), 0) : Int × Int × List Int × Int × Int).1 = 0 from (by decide : ¬ (2 : Int) = 0)), if_neg (show ¬ ((2, M / (h : Int), remL n xs M h, K % M / (h : Int), 0) : Int × Int × List Int × Int × Int).1 = 1 from (by decide : ¬ (2 : Int) = 1))]
    apply decide_eq_decide.2
    show (K + dotSum xs ps n) % M = 0 ↔ (K % M / (h : Int) + dotSum (remL n xs M h) ps n) % (M / (h : Int)) = 0
    have hh0 : (h : Int) ≠ 0 := by omega
    have hdr : dotSum ((List.range n).map fun j => (h : Int) * ((xs[j]?.getD 0 % M) / (h : Int))) ps n = h * dotSum (remL n xs M h) ps n := dot_scale n fun j hj => by rw [tab_get _ hj, rem_get hj]
    have hem : ∀ z : Int, (h : Int) ∣ z → (h : Int) * (z % M / (h : Int)) = z % M := fun z hz => Int.mul_ediv_cancel' (by
      have := Int.dvd_sub hz (Int.dvd_trans hM (Int.dvd_mul_right M (z / M)))
      have e2 := Int.mul_ediv_add_emod z M
      rwa [show z - M * (z / M) = z % M by omega] at this)
    have hdm := dot_mod (M := M) (xs := xs) (ys := (List.range n).map fun j => (h : Int) * ((xs[j]?.getD 0 % M) / (h : Int))) (ps := ps) n fun j hj => by
      rw [tab_get _ hj, hem _ (hd _ (getD_mem (by omega)))]
      have e2 := Int.mul_ediv_add_emod (xs[j]?.getD 0) M
      exact ⟨xs[j]?.getD 0 / M, by omega⟩
    rw [hdr] at hdm
    have hkm : M ∣ K - h * (K % M / (h : Int)) := by
      rw [hem K hK]
      have e2 := Int.mul_ediv_add_emod K M
      exact ⟨K / M, by omega⟩
    generalize dotSum (remL n xs M h) ps n = y at *
    generalize K % M / (h : Int) = k at *
    generalize dotSum xs ps n = d at *
    obtain ⟨m, rfl⟩ := hM
    rw [Int.mul_ediv_cancel_left _ hh0]
    have hsum := Int.dvd_add hkm hdm
    rw [show K - h * k + (d - h * y) = (K + d) - h * (k + y) by rw [Int.mul_add]; omega] at hsum
    constructor
    · intro e0
      have h5 := Int.dvd_sub (Int.dvd_of_emod_eq_zero e0) hsum
      rw [show K + d - (K + d - ↑h * (k + y)) = ↑h * (k + y) by omega] at h5
      exact Int.emod_eq_zero_of_dvd (Int.dvd_of_mul_dvd_mul_left hh0 h5)
    · intro e0
      have h5 := Int.dvd_add hsum (Int.mul_dvd_mul_left (h : Int) (Int.dvd_of_emod_eq_zero e0))
      rw [show K + d - ↑h * (k + y) + ↑h * (k + y) = K + d by omega] at h5
      exact Int.emod_eq_zero_of_dvd h5

def modL0 (n : Nat) (xs : List Int) (M : Int) : List Int := (List.range n).map fun j => xs[j]?.getD 0 % M
theorem rem_gcd {n : Nat} {xs : List Int} {M : Int} {h : Nat} (hl : xs.length = n) (h0 : 1 ≤ h) (hM : (h : Int) ∣ M) (hd : ∀ x ∈ xs, (h : Int) ∣ x) (hg : gcdA M.natAbs xs = h) : gcdA (M / (h : Int)).natAbs (remL n xs M h) = 1 := by
  have h1 := gcdA_scale (h : Int) (remL n xs M h) (M / (h : Int)).natAbs
  have hh0 : (h : Int) ≠ 0 := by omega
  have e1 : (M / (h : Int)).natAbs * (h : Int).natAbs = M.natAbs := by rw [← Int.natAbs_mul, Int.ediv_mul_cancel hM]
  have e2 : (remL n xs M h).map (· * (h : Int)) = modL0 n xs M := by
    unfold remL modL0
    rw [List.map_map]
    apply List.map_congr_left
    intro j hj
    show xs[j]?.getD 0 % M / (h : Int) * h = xs[j]?.getD 0 % M
    refine Int.ediv_mul_cancel ?_
    have hz := hd _ (getD_mem (xs := xs) (j := j) (by rw [hl]; exact List.mem_range.1 hj))
    have h3 := Int.dvd_sub hz (Int.dvd_trans hM (Int.dvd_mul_right M (xs[j]?.getD 0 / M)))
    have e3 := Int.mul_ediv_add_emod (xs[j]?.getD 0) M
    rwa [show xs[j]?.getD 0 - M * (xs[j]?.getD 0 / M) = xs[j]?.getD 0 % M by omega] at h3
  rw [e1, e2] at h1
  have e4 : gcdA M.natAbs (modL0 n xs M) = gcdA M.natAbs xs := by
    obtain ⟨a1, a2, a3⟩ := gcd_fold (modL0 n xs M) M.natAbs
    obtain ⟨b1, b2, b3⟩ := gcd_fold xs M.natAbs
    have key : ∀ (d : Nat) (x : Int), d ∣ M.natAbs → (d ∣ (x % M).natAbs ↔ d ∣ x.natAbs) := by
      intro d x hdM
      rw [← Int.ofNat_dvd_left, ← Int.ofNat_dvd_left]
      rw [← Int.ofNat_dvd_left] at hdM
      have e5 := Int.mul_ediv_add_emod x M
      have h6 := Int.dvd_trans hdM (Int.dvd_mul_right M (x / M))
      constructor
      · intro h7; rw [← e5]; exact Int.dvd_add h6 h7
      · intro h7; have := Int.dvd_sub h7 h6; rwa [show x - M * (x / M) = x % M by omega] at this
    apply Nat.dvd_antisymm
    · refine b3 _ a1 fun x hx => ?_
      obtain ⟨j, hj, rfl⟩ := List.getElem_of_mem hx
      exact (key _ _ a1).1 (a2 _ (List.mem_map.2 ⟨j, List.mem_range.2 (by omega), by simp [hj]⟩))
    · refine a3 _ b1 fun y hy => ?_
      obtain ⟨j, hj, rfl⟩ := List.mem_map.1 hy
      exact (key _ _ b1).2 (b2 _ (getD_mem (by rw [hl]; exact List.mem_range.1 hj)))
  rw [e4, hg] at h1
  have h7 : gcdA (M / (h : Int)).natAbs (remL n xs M h) * h = 1 * h := by rw [Nat.one_mul]; exact h1.symm
  exact Nat.eq_of_mul_eq_mul_right h0 h7

/-- The normal form of a normal form. -/
theorem nf_idem {q M : Int} {n : Nat} {xs : List Int} {K : Int} (hl : xs.length = n) (hq : KindOk q M) (hs : (nf q M n xs K).2.2.2.2 = 0) :
    (nf q M n xs K).2.2.1.length = n ∧ nf (nf q M n xs K).1 (nf q M n xs K).2.1 n (nf q M n xs K).2.2.1 (nf q M n xs K).2.2.2.1 = nf q M n xs K := by
  rcases nf_case (K := K) hl hq with ⟨s, hs', h, hh⟩ | ⟨g, rfl, hg, h, h1, hd⟩ | ⟨D, rfl, hD, h, h1, h2, hd, hK⟩ | ⟨h, rfl, h0, hM, hne, e, hd, hK, hg⟩
  · rw [h] at hs; exfalso; rcases hs' with rfl | rfl <;> cases hs
  · rw [h]
    refine ⟨quo_len _ _ _, ?_⟩
    show nf 0 0 n (quoL n xs g) (K / g) = _
    unfold nf
    rw [if_pos rfl, h1, if_neg (by decide), show ((1 : Nat) : Int) = 1 from rfl, quo_one (quo_len _ _ _), Int.ediv_one]
  · rw [h]
    refine ⟨quo_len _ _ _, ?_⟩
    show nf 1 0 n (quoL n xs D) (K.tdiv D) = _
    unfold nf
    rw [if_neg (by decide), if_pos rfl, h1, if_neg (by decide), show ((1 : Nat) : Int) = 1 from rfl, if_neg (by simp), h2, quo_one (quo_len _ _ _), Int.tdiv_one]
  · rw [e]
    refine ⟨rem_len _ _ _ _, ?_⟩
    show nf 2 (M / (h : Int)) n (remL n xs M h) (K % M / (h : Int)) = _
    have hM2 : 1 ≤ M := by
      rcases hq with h | h | ⟨_, h, _⟩
      · cases h
      · cases h
      · exact h
    have hh0 : (h : Int) ≠ 0 := by omega
    obtain ⟨m, rfl⟩ := hM
    have hm : 1 ≤ m := by
      rcases Int.lt_or_le m 1 with hlt | hge
      · have : (h : Int) * m ≤ (h : Int) * 0 := Int.mul_le_mul_of_nonneg_left (by omega) (by omega)
        omega
      · exact hge
    have hg2 := rem_gcd hl h0 ⟨m, rfl⟩ hd hg
    rw [Int.mul_ediv_cancel_left _ hh0] at hg2 ⊢
    have small : ∀ z : Int, (z % (h * m)) / (h : Int) % m = (z % (h * m)) / (h : Int) := fun z => by
      have m0 := Int.emod_nonneg z (show (h : Int) * m ≠ 0 by omega)
      have m1 := Int.emod_lt_of_pos z (show 0 < (h : Int) * m by omega)
      refine Int.emod_eq_of_lt (Int.ediv_nonneg m0 (by omega)) ?_
      exact Int.ediv_lt_of_lt_mul (by omega) (by rw [Int.mul_comm m]; exact m1)
    have hm1 : ¬ (1 : Int) = m := fun e => by subst e; rw [Int.mul_one] at hne; exact hne rfl
    unfold nf
    rw [if_neg (by decide), if_neg (by decide), hg2, small K, show ((1 : Nat) : Int) = 1 from rfl, if_neg (by simp [Int.emod_one]), if_neg hm1, Int.ediv_one, Int.ediv_one]
    congr 3
    apply List.map_congr_left
    intro j hj
    rw [rem_get (List.mem_range.1 hj), Int.ediv_one, small]

theorem fits_abs {x y : Int} (hx : fitsB x = true) (h : y.natAbs ≤ x.natAbs) : fitsB y = true := by
  rw [fitsB_true] at *; omega
theorem floor_abs (K g : Int) (hg : 1 ≤ g) : (K / g).natAbs ≤ K.natAbs := by
  rcases Int.lt_or_le K 0 with h | h
  · have h1 : K / g < 0 := Int.ediv_neg_of_neg_of_pos h (by omega)
    have h2 := Int.mul_ediv_add_emod K g
    have h3 := Int.emod_lt_of_pos K (show 0 < g by omega)
    have h4 : K ≤ K / g := by
      rcases Int.lt_or_le (K / g) K with h5 | h5
      · have h6 : K / g + 1 ≤ K := h5
        have h7 : g * (K / g + 1) ≤ 1 * (K / g + 1) := Int.mul_le_mul_of_nonpos_right hg (by omega)
        rw [Int.mul_add] at h7
        omega
      · exact h5
    omega
  · have h1 := Int.ediv_nonneg h (show 0 ≤ g by omega)
    have h2 := Int.ediv_le_self g h
    omega

/-- The normal form of a valid condition is valid. -/
theorem nf_valid {q M : Int} {n : Nat} {xs : List Int} {K : Int} (hl : xs.length = n) (hv : validC q M xs K = true) (hs : (nf q M n xs K).2.2.2.2 = 0) :
    validC (nf q M n xs K).1 (nf q M n xs K).2.1 (nf q M n xs K).2.2.1 (nf q M n xs K).2.2.2.1 = true := by
  obtain ⟨hvb, hk⟩ := validC_kind hv
  obtain ⟨v1, v2, v3⟩ := validB_true.1 hvb
  have quo : ∀ D : Int, ∀ z ∈ quoL n xs D, fitsB z = true := by
    intro D z hz
    obtain ⟨j, hj, rfl⟩ := List.mem_map.1 hz
    have h := v3 _ (getD_mem (xs := xs) (j := j) (by rw [hl]; exact List.mem_range.1 hj))
    exact fits_abs h (by rw [Int.natAbs_tdiv]; exact Nat.div_le_self _ _)
  rcases nf_case (K := K) hl (validC_ok hv) with ⟨s, hs', h, hh⟩ | ⟨g, rfl, hg, h, h1, hd⟩ | ⟨D, rfl, hD, h, h1, h2, hd, hK⟩ | ⟨h, rfl, h0, hM, hne, e, hd, hK, hg⟩
  · rw [h] at hs; exfalso; rcases hs' with rfl | rfl <;> cases hs
  · rw [h]
    show validC 0 0 (quoL n xs g) (K / g) = true
    unfold validC
    rw [validB_true.2 ⟨by rw [quo_len]; omega, fits_abs v2 (floor_abs K g hg), quo g⟩]
    rfl
  · rw [h]
    show validC 1 0 (quoL n xs D) (K.tdiv D) = true
    unfold validC
    rw [validB_true.2 ⟨by rw [quo_len]; omega, fits_abs v2 (by rw [Int.natAbs_tdiv]; exact Nat.div_le_self _ _), quo D⟩]
    rfl
  · rw [e]
    show validC 2 (M / (h : Int)) (remL n xs M h) (K % M / (h : Int)) = true
    have hMb : 1 ≤ M ∧ M ≤ 512 := by
      rcases hk with ⟨h, _⟩ | ⟨h, _⟩ | ⟨_, h⟩
      · cases h
      · cases h
      · exact h
    have sm : ∀ z : Int, fitsB (z % M / (h : Int)) = true := fun z => by
      have m0 := Int.emod_nonneg z (show M ≠ 0 by omega)
      have m1 := Int.emod_lt_of_pos z (show 0 < M by omega)
      have m2 := Int.ediv_nonneg m0 (show (0 : Int) ≤ h by omega)
      have m3 := Int.ediv_le_self (h : Int) m0
      rw [fitsB_true]; omega
    have hm : 1 ≤ M / (h : Int) ∧ M / (h : Int) ≤ 512 := by
      have hM' := Int.ediv_mul_cancel hM
      have m3 := Int.ediv_le_self (h : Int) (show 0 ≤ M by omega)
      refine ⟨?_, by omega⟩
      rcases Int.lt_or_le (M / (h : Int)) 1 with hlt | hge
      · have m4 := Int.ediv_nonneg (show 0 ≤ M by omega) (show (0 : Int) ≤ h by omega)
        have : M / (h : Int) = 0 := by omega
        rw [this] at hM'; omega
      · exact hge
    unfold validC
    rw [validB_true.2 ⟨by rw [rem_len]; omega, sm K, fun z hz => by obtain ⟨j, _, rfl⟩ := List.mem_map.1 hz; exact sm _⟩]
    simp [hm]
end Go.Proofs.Ytbjkijifpikhkaa
