/-
  Part 2 of the texts that the laws stand on.
-/
import Derived.Test.YtkgnlloioaobiaaGreatJa
set_option linter.unusedVariables false
set_option linter.unusedSimpArgs false
set_option maxRecDepth 100000
set_option linter.unusedSectionVars false
namespace Go.Proofs.YtkgnlloioaobiaaGreat
open Go.RowKit
theorem gcdA_scale (D : Int) : ∀ (xs : List Int) (g : Nat), gcdA (g * D.natAbs) (xs.map (· * D)) = gcdA g xs * D.natAbs
  | [], g => rfl
  | x :: xs, g => by
    show gcdA (Nat.gcd (g * D.natAbs) (x * D).natAbs) (xs.map (· * D)) = gcdA (Nat.gcd g x.natAbs) xs * D.natAbs
    rw [Int.natAbs_mul, Nat.gcd_mul_right]
    exact gcdA_scale D xs _
theorem gcdA_mem {g : Nat} {xs : List Int} {x : Int} (h : x ∈ xs) : ((gcdA g xs : Nat) : Int) ∣ x := Int.ofNat_dvd_left.2 ((gcd_fold xs g).2.1 x h)
theorem quo_back {n : Nat} {xs : List Int} {D : Int} (hl : xs.length = n) (hd : ∀ x ∈ xs, D ∣ x) : (quoL n xs D).map (· * D) = xs := by
  apply List.ext_getElem (by simp [quoL, hl])
  intro j h1 h2
  simp only [quoL, List.getElem_map, List.getElem_range]
  have e : xs[j]?.getD 0 = xs[j] := by simp [h2]
  rw [e, Int.tdiv_mul_cancel (hd _ (List.getElem_mem h2))]
theorem quo_len (n : Nat) (xs : List Int) (D : Int) : (quoL n xs D).length = n := by simp [quoL]
theorem quo_get {n j : Nat} {xs : List Int} {D : Int} (hj : j < n) : (quoL n xs D)[j]?.getD 0 = (xs[j]?.getD 0).tdiv D := by unfold quoL; exact tab_get _ hj
theorem quo_gcd {n : Nat} {xs : List Int} {D : Int} (hl : xs.length = n) (h0 : gcdA 0 xs ≠ 0) (hD : D.natAbs = gcdA 0 xs) : gcdA 0 (quoL n xs D) = 1 := by
  have hd : ∀ x ∈ xs, D ∣ x := fun x hx => by
    have := gcdA_mem (g := 0) hx
    rw [← hD] at this
    exact Int.natAbs_dvd.1 this
  have h := gcdA_scale D (quoL n xs D) 0
  rw [quo_back hl hd, Nat.zero_mul, hD] at h
  have h2 : gcdA 0 (quoL n xs D) * gcdA 0 xs = 1 * gcdA 0 xs := by rw [← h, Nat.one_mul]
  exact Nat.eq_of_mul_eq_mul_right (Nat.pos_of_ne_zero h0) h2
theorem quo_one {n : Nat} {xs : List Int} (hl : xs.length = n) : quoL n xs 1 = xs := by
  have := quo_back (D := 1) hl (fun x _ => Int.one_dvd x)
  simpa using this
theorem dot_scale {xs ys ps : List Int} {D : Int} : ∀ i, (∀ j, j < i → xs[j]?.getD 0 = D * ys[j]?.getD 0) → dotSum xs ps i = D * dotSum ys ps i
  | 0, _ => by simp [dotSum]
  | i + 1, h => by
    have := dot_scale (ps := ps) i fun j hj => h j (by omega)
    simp only [dotSum, this, h i (by omega), Int.mul_add, Int.mul_assoc]
theorem dot_quo {n : Nat} {xs ps : List Int} {D : Int} (hl : xs.length = n) (hd : ∀ x ∈ xs, D ∣ x) : dotSum xs ps n = D * dotSum (quoL n xs D) ps n := by
  refine dot_scale n fun j hj => ?_
  rw [quo_get hj, Int.mul_comm, Int.tdiv_mul_cancel (hd _ (getD_mem (by omega)))]
theorem dot_zero {xs ps : List Int} : ∀ i, (∀ j, j < i → xs[j]?.getD 0 = 0) → dotSum xs ps i = 0
  | 0, _ => rfl
  | i + 1, h => by
    have := dot_zero (ps := ps) i fun j hj => h j (by omega)
    simp only [dotSum, this, h i (by omega), Int.zero_mul]; rfl
theorem all_zero {xs : List Int} (h : gcdA 0 xs = 0) (j : Nat) : xs[j]?.getD 0 = 0 := by
  by_cases hj : j < xs.length
  · have := gcdA_mem (g := 0) (getD_mem hj)
    rw [h] at this
    exact Int.zero_dvd.1 this
  · simp [hj]
theorem lead_quo {n : Nat} {xs : List Int} {D : Int} (hl : xs.length = n) (hD : D ≠ 0) (hd : ∀ x ∈ xs, D ∣ x) : leadI xs = leadI (quoL n xs D) * D := by
  have key : ∀ ys : List Int, leadI (ys.map (· * D)) = leadI ys * D := by
    intro ys
    induction ys with
    | nil => simp [leadI]
    | cons y ys ih =>
      simp only [List.map_cons, leadI]
      by_cases h : y = 0
      · subst h; simp [ih]
      · rw [if_neg h, if_neg (by simp [h, hD])]
  have h := key (quoL n xs D)
  rw [quo_back hl hd] at h
  exact h
theorem leadBy_one {n : Nat} {xs : List Int} {G : Nat} (hl : xs.length = n) (h0 : G ≠ 0) (hd : ∀ x ∈ xs, (G : Int) ∣ x) : leadBy (quoL n xs (leadBy xs G)) 1 = 1 := by
  have hd2 : ∀ x ∈ xs, leadBy xs G ∣ x := fun x hx => by
    unfold leadBy; split
    · exact Int.neg_dvd.2 (hd x hx)
    · exact hd x hx
  have hne : leadBy xs G ≠ 0 := by unfold leadBy; split <;> omega
  have h := lead_quo hl hne hd2
  have h3 : leadBy xs G = if leadI xs < 0 then -(G : Int) else G := rfl
  generalize quoL n xs (leadBy xs G) = ys at *
  show (if leadI ys < 0 then -((1 : Nat) : Int) else (1 : Nat)) = 1
  rw [if_neg]
  · rfl
  · intro hn
    by_cases hx : leadI xs < 0
    · rw [if_pos hx] at h3
      rw [h3] at h
      have : leadI ys * -(G : Int) > 0 := Int.mul_pos_of_neg_of_neg hn (by omega)
      omega
    · rw [if_neg hx] at h3
      rw [h3] at h
      have : leadI ys * (G : Int) < 0 := Int.mul_neg_of_neg_of_pos hn (by omega)
      omega
inductive NfCase (q M : Int) (n : Nat) (xs : List Int) (K : Int) : Prop
  | fixed (s : Int) (hs : s = 1 ∨ s = -1) (h : nf q M n xs K = (0, 0, [], 0, s)) (hh : ∀ ps, holdB q M (K + dotSum xs ps n) = decide (s = 1))
  | ge (g : Int) (hq : q = 0) (hg : 1 ≤ g) (h : nf q M n xs K = (0, 0, quoL n xs g, K / g, 0)) (h1 : gcdA 0 (quoL n xs g) = 1) (hd : ∀ x ∈ xs, g ∣ x)
  | eq (D : Int) (hq : q = 1) (hD : D ≠ 0) (h : nf q M n xs K = (1, 0, quoL n xs D, K.tdiv D, 0)) (h1 : gcdA 0 (quoL n xs D) = 1) (h2 : leadBy (quoL n xs D) 1 = 1) (hd : ∀ x ∈ xs, D ∣ x) (hK : D ∣ K)
  | dv (h : Nat) (hq : q = 2) (h0 : 1 ≤ h) (hM : (h : Int) ∣ M) (hne : (h : Int) ≠ M) (e : nf q M n xs K = (2, M / h, remL n xs M h, (K % M) / h, 0)) (hd : ∀ x ∈ xs, (h : Int) ∣ x) (hK : (h : Int) ∣ K) (hg : gcdA M.natAbs xs = h)
theorem nf_case {q M : Int} {n : Nat} {xs : List Int} {K : Int} (hl : xs.length = n) (hq : KindOk q M) : NfCase q M n xs K := by
  rcases hq with rfl | rfl | ⟨rfl, hM⟩
  · by_cases h0 : gcdA 0 xs = 0
    · refine .fixed (if 0 ≤ K then 1 else -1) (by split <;> simp) (by unfold nf; rw [if_pos rfl, if_pos h0]) fun ps => ?_
      rw [dot_zero n fun j _ => all_zero h0 j]
      unfold holdB; rw [if_pos rfl, Int.add_zero]
      split <;> simp_all
    · refine .ge (gcdA 0 xs : Nat) rfl (by omega) (by unfold nf; rw [if_pos rfl, if_neg h0]) (quo_gcd hl h0 (by simp)) fun x hx => gcdA_mem hx
  · by_cases h0 : gcdA 0 xs = 0
    · refine .fixed (if K = 0 then 1 else -1) (by split <;> simp) (by unfold nf; rw [if_neg (by decide), if_pos rfl, if_pos h0]) fun ps => ?_
      rw [dot_zero n fun j _ => all_zero h0 j]
      unfold holdB; rw [if_neg (by decide), if_pos rfl, Int.add_zero]
      split <;> simp_all
    · have hd : ∀ x ∈ xs, ((gcdA 0 xs : Nat) : Int) ∣ x := fun x hx => gcdA_mem hx
      by_cases h1 : K.tmod (gcdA 0 xs : Nat) = 0
      · have hK : ((gcdA 0 xs : Nat) : Int) ∣ K := Int.dvd_of_tmod_eq_zero h1
        have hv : ∀ z : Int, ((gcdA 0 xs : Nat) : Int) ∣ z → leadBy xs (gcdA 0 xs) ∣ z := fun z hz => by
          unfold leadBy; split
          · exact Int.neg_dvd.2 hz
          · exact hz
        refine .eq (leadBy xs (gcdA 0 xs)) rfl (by unfold leadBy; split <;> omega) (by unfold nf; rw [if_neg (by decide), if_pos rfl, if_neg h0, if_neg (by simpa using h1)]) (quo_gcd hl h0 (by unfold leadBy; split <;> omega)) (leadBy_one hl h0 hd) (fun x hx => hv x (hd x hx)) (hv K hK)
      · refine .fixed (-1) (.inr rfl) (by unfold nf; rw [if_neg (by decide), if_pos rfl, if_neg h0, if_pos h1]) fun ps => ?_
        unfold holdB
        rw [if_neg (by decide), if_pos rfl, dot_quo hl hd]
        have : K + ((gcdA 0 xs : Nat) : Int) * dotSum (quoL n xs (gcdA 0 xs : Nat)) ps n ≠ 0 := by
          intro e
          apply h1
          have : K = ((gcdA 0 xs : Nat) : Int) * -dotSum (quoL n xs (gcdA 0 xs : Nat)) ps n := by rw [Int.mul_neg]; omega
          rw [this]; exact Int.mul_tmod_right _ _
        simp [this]
  · have hgM : ((gcdA M.natAbs xs : Nat) : Int) ∣ M := Int.ofNat_dvd_left.2 (gcdA_dvd xs M.natAbs)
    have hpos := (gcdA_le (xs := xs) (show 0 < M.natAbs by omega)).1
    have hd : ∀ x ∈ xs, ((gcdA M.natAbs xs : Nat) : Int) ∣ x := fun x hx => gcdA_mem hx
    have hKK : (K % M) % ((gcdA M.natAbs xs : Nat) : Int) = K % ((gcdA M.natAbs xs : Nat) : Int) := Int.emod_emod_of_dvd K hgM
    by_cases h1 : (K % M) % ((gcdA M.natAbs xs : Nat) : Int) = 0
    · have hK : ((gcdA M.natAbs xs : Nat) : Int) ∣ K := by rw [hKK] at h1; exact Int.dvd_of_emod_eq_zero h1
      by_cases h2 : ((gcdA M.natAbs xs : Nat) : Int) = M
      · refine .fixed 1 (.inl rfl) (by unfold nf; rw [if_neg (by decide), if_neg (by decide), if_neg (by simpa using h1), if_pos h2]) fun ps => ?_
        unfold holdB
        rw [if_neg (by decide), if_neg (by decide), dot_quo hl hd, h2]
        rw [h2] at hK
        have : (K + M * dotSum (quoL n xs M) ps n) % M = 0 := by rw [Int.add_mul_emod_self_left]; exact Int.emod_eq_zero_of_dvd hK
        simp [this]
      · exact .dv (gcdA M.natAbs xs) rfl hpos hgM h2 (by unfold nf; rw [if_neg (by decide), if_neg (by decide), if_neg (by simpa using h1), if_neg h2]) hd hK rfl
    · refine .fixed (-1) (.inr rfl) (by unfold nf; rw [if_neg (by decide), if_neg (by decide), if_pos h1]) fun ps => ?_
      unfold holdB
      rw [if_neg (by decide), if_neg (by decide), dot_quo hl hd]
      have : ¬ (K + ((gcdA M.natAbs xs : Nat) : Int) * dotSum (quoL n xs (gcdA M.natAbs xs : Nat)) ps n) % M = 0 := by
        intro e
        apply h1
        rw [hKK]
        have h3 := Int.dvd_trans hgM (Int.dvd_of_emod_eq_zero e)
        have h4 := Int.dvd_sub h3 (Int.dvd_mul_right ((gcdA M.natAbs xs : Nat) : Int) (dotSum (quoL n xs (gcdA M.natAbs xs : Nat)) ps n))
        rw [Int.add_sub_cancel] at h4
        exact Int.emod_eq_zero_of_dvd h4
      simp [this]
theorem rem_len (n : Nat) (xs : List Int) (M h : Int) : (remL n xs M h).length = n := by simp [remL]
theorem rem_get {n j : Nat} {xs : List Int} {M h : Int} (hj : j < n) : (remL n xs M h)[j]?.getD 0 = (xs[j]?.getD 0 % M) / h := by unfold remL; exact tab_get _ hj
def modL0 (n : Nat) (xs : List Int) (M : Int) : List Int := (List.range n).map fun j => xs[j]?.getD 0 % M
theorem rem_gcd {n : Nat} {xs : List Int} {M : Int} {h : Nat} (hl : xs.length = n) (h0 : 1 ≤ h) (hM : (h : Int) ∣ M) (hd : ∀ x ∈ xs, (h : Int) ∣ x) (hg : gcdA M.natAbs xs = h) : gcdA (M / (h : Int)).natAbs (remL n xs M h) = 1 := by
  have h1 := gcdA_scale (h : Int) (remL n xs M h) (M / (h : Int)).natAbs
  have hh0 : (h : Int) ≠ 0 := by omega
  have e1 : (M / (h : Int)).natAbs * (h : Int).natAbs = M.natAbs := by rw [← Int.natAbs_mul, Int.ediv_mul_cancel hM]
  have e2 : (remL n xs M h).map (· * (h : Int)) = modL0 n xs M := by
    unfold remL modL0
    rw [List.map_map]
    apply List.map_congr_left
    intro j hj
    show xs[j]?.getD 0 % M / (h : Int) * h = xs[j]?.getD 0 % M
    refine Int.ediv_mul_cancel ?_
    have hz := hd _ (getD_mem (xs := xs) (j := j) (by rw [hl]; exact List.mem_range.1 hj))
    have h3 := Int.dvd_sub hz (Int.dvd_trans hM (Int.dvd_mul_right M (xs[j]?.getD 0 / M)))
    have e3 := Int.mul_ediv_add_emod (xs[j]?.getD 0) M
    rwa [show xs[j]?.getD 0 - M * (xs[j]?.getD 0 / M) = xs[j]?.getD 0 % M by omega] at h3
  rw [e1, e2] at h1
  have e4 : gcdA M.natAbs (modL0 n xs M) = gcdA M.natAbs xs := by
    obtain ⟨a1, a2, a3⟩ := gcd_fold (modL0 n xs M) M.natAbs
    obtain ⟨b1, b2, b3⟩ := gcd_fold xs M.natAbs
    have key : ∀ (d : Nat) (x : Int), d ∣ M.natAbs → (d ∣ (x % M).natAbs ↔ d ∣ x.natAbs) := by
      intro d x hdM
      rw [← Int.ofNat_dvd_left, ← Int.ofNat_dvd_left]
      rw [← Int.ofNat_dvd_left] at hdM
      have e5 := Int.mul_ediv_add_emod x M
      have h6 := Int.dvd_trans hdM (Int.dvd_mul_right M (x / M))
      constructor
      · intro h7; rw [← e5]; exact Int.dvd_add h6 h7
      · intro h7; have := Int.dvd_sub h7 h6; rwa [show x - M * (x / M) = x % M by omega] at this
    apply Nat.dvd_antisymm
    · refine b3 _ a1 fun x hx => ?_
      obtain ⟨j, hj, rfl⟩ := List.getElem_of_mem hx
      exact (key _ _ a1).1 (a2 _ (List.mem_map.2 ⟨j, List.mem_range.2 (by omega), by simp [hj]⟩))
    · refine a3 _ b1 fun y hy => ?_
      obtain ⟨j, hj, rfl⟩ := List.mem_map.1 hy
      exact (key _ _ b1).2 (b2 _ (getD_mem (by rw [hl]; exact List.mem_range.1 hj)))
  rw [e4, hg] at h1
  have h7 : gcdA (M / (h : Int)).natAbs (remL n xs M h) * h = 1 * h := by rw [Nat.one_mul]; exact h1.symm
  exact Nat.eq_of_mul_eq_mul_right h0 h7
theorem nf_idem {q M : Int} {n : Nat} {xs : List Int} {K : Int} (hl : xs.length = n) (hq : KindOk q M) (hs : (nf q M n xs K).2.2.2.2 = 0) :
    (nf q M n xs K).2.2.1.length = n ∧ nf (nf q M n xs K).1 (nf q M n xs K).2.1 n (nf q M n xs K).2.2.1 (nf q M n xs K).2.2.2.1 = nf q M n xs K := by
  rcases nf_case (K := K) hl hq with ⟨s, hs', h, hh⟩ | ⟨g, rfl, hg, h, h1, hd⟩ | ⟨D, rfl, hD, h, h1, h2, hd, hK⟩ | ⟨h, rfl, h0, hM, hne, e, hd, hK, hg⟩
  · rw [h] at hs; exfalso; rcases hs' with rfl | rfl <;> cases hs
  · rw [h]
    refine ⟨quo_len _ _ _, ?_⟩
    show nf 0 0 n (quoL n xs g) (K / g) = _
    unfold nf
    rw [if_pos rfl, h1, if_neg (by decide), show ((1 : Nat) : Int) = 1 from rfl, quo_one (quo_len _ _ _), Int.ediv_one]
  · rw [h]
    refine ⟨quo_len _ _ _, ?_⟩
    show nf 1 0 n (quoL n xs D) (K.tdiv D) = _
    unfold nf
    rw [if_neg (by decide), if_pos rfl, h1, if_neg (by decide), show ((1 : Nat) : Int) = 1 from rfl, if_neg (by simp), h2, quo_one (quo_len _ _ _), Int.tdiv_one]
  · rw [e]
    refine ⟨rem_len _ _ _ _, ?_⟩
    show nf 2 (M / (h : Int)) n (remL n xs M h) (K % M / (h : Int)) = _
    have hM2 : 1 ≤ M := by
      rcases hq with h | h | ⟨_, h, _⟩
      · cases h
      · cases h
      · exact h
    have hh0 : (h : Int) ≠ 0 := by omega
    obtain ⟨m, rfl⟩ := hM
    have hm : 1 ≤ m := by
      rcases Int.lt_or_le m 1 with hlt | hge
      · have : (h : Int) * m ≤ (h : Int) * 0 := Int.mul_le_mul_of_nonneg_left (by omega) (by omega)
        omega
      · exact hge
    have hg2 := rem_gcd hl h0 ⟨m, rfl⟩ hd hg
    rw [Int.mul_ediv_cancel_left _ hh0] at hg2 ⊢
    have small : ∀ z : Int, (z % (h * m)) / (h : Int) % m = (z % (h * m)) / (h : Int) := fun z => by
      have m0 := Int.emod_nonneg z (show (h : Int) * m ≠ 0 by omega)
      have m1 := Int.emod_lt_of_pos z (show 0 < (h : Int) * m by omega)
      refine Int.emod_eq_of_lt (Int.ediv_nonneg m0 (by omega)) ?_
      exact Int.ediv_lt_of_lt_mul (by omega) (by rw [Int.mul_comm m]; exact m1)
    have hm1 : ¬ (1 : Int) = m := fun e => by subst e; rw [Int.mul_one] at hne; exact hne rfl
    unfold nf
    rw [if_neg (by decide), if_neg (by decide), hg2, small K, show ((1 : Nat) : Int) = 1 from rfl, if_neg (by simp [Int.emod_one]), if_neg hm1, Int.ediv_one, Int.ediv_one]
    congr 3
    apply List.map_congr_left
    intro j hj
    rw [rem_get (List.mem_range.1 hj), Int.ediv_one, small]
theorem floor_abs (K g : Int) (hg : 1 ≤ g) : (K / g).natAbs ≤ K.natAbs := by
  rcases Int.lt_or_le K 0 with h | h
  · have h1 : K / g < 0 := Int.ediv_neg_of_neg_of_pos h (by omega)
    have h2 := Int.mul_ediv_add_emod K g
    have h3 := Int.emod_lt_of_pos K (show 0 < g by omega)
    have h4 : K ≤ K / g := by
      rcases Int.lt_or_le (K / g) K with h5 | h5
      · have h6 : K / g + 1 ≤ K := h5
        have h7 : g * (K / g + 1) ≤ 1 * (K / g + 1) := Int.mul_le_mul_of_nonpos_right hg (by omega)
        rw [Int.mul_add] at h7
        omega
      · exact h5
    omega
  · have h1 := Int.ediv_nonneg h (show 0 ≤ g by omega)
    have h2 := Int.ediv_le_self g h
    omega
end Go.Proofs.YtkgnlloioaobiaaGreat
namespace Go.Proofs.YtkgnlloioaobiaaGreat
open Go.RowKit
def nfD (n : Nat) (d : CD) : Int × Int × List Int × Int × Int := nf d.q d.M n d.xs d.K
def negBad (n : Nat) (d : CD) : Bool := decide ((nfD n d).2.2.2.2 = 0) && !validB (nfD n d).2.2.1 (nfD n d).2.2.2.1
def negOne (n : Nat) (d : CD) : List CD := if (nfD n d).2.2.2.2 = 0 then [⟨(nfD n d).1, (nfD n d).2.1, (nfD n d).2.2.1, (nfD n d).2.2.2.1⟩] else if (nfD n d).2.2.2.2 = 1 then [⟨0, 0, zeros n, 0⟩] else []
def negOut (n : Nat) (ds : List CD) : List CD := ds.flatMap (negOne n)
def negFull (n : Nat) (ds : List CD) : Bool := ds.any (negBad n) || decide (400 < (negOut n ds).length)
def negL (q M : Int) (n : Nat) (xs : List Int) (K : Int) : List CD := if validC q M xs K = true then (if negFull n (oppL q M n xs K) = true then [] else negOut n (oppL q M n xs K)) else []
def negE (q M : Int) (n : Nat) (xs : List Int) (K : Int) : Int := if validC q M xs K = true then (if negFull n (oppL q M n xs K) = true then 3 else 0) else 1
def NegRet (w : World) (e : Ending) (w' : World) (n : Nat) (out : List CD) (er : Int) : Prop :=
  ∃ u els, e = .returned (.tuple #[u, .int .i64 er]) ∧ CL w.heap.size w' u els ∧ els.map CEl.d = out ∧ (∀ e ∈ els, e.n = n) ∧ Below w.heap.size w w'
theorem CL2.mono {N0 N N0' N' : Nat} {W : World} {u : Value} {els : List CEl} (h : CL2 N0 N W u els) (hN0 : N0' ≤ N0) (hN : N' ≤ N) : CL2 N0' N' W u els :=
  ⟨⟨h.own.1, h.own.2.imp id fun ⟨g, cap, cur, hv, hg, r⟩ => ⟨g, cap, cur, hv, Nat.le_trans hN hg, r⟩⟩, h.few, h.ints, fun e he => (h.rows e he).mono hN0⟩
def OppOk (n : Nat) (d : CD) : Prop := KindOk d.q d.M ∧ (-4611686018427387904 ≤ d.K ∧ d.K ≤ 4611686018427387904) ∧ (∀ x ∈ d.xs, -4611686018427387904 ≤ x ∧ x ≤ 4611686018427387904) ∧ d.xs.length = n
theorem opp_ok {q M : Int} {n : Nat} {xs : List Int} {K : Int} (hv : validC q M xs K = true) : (∀ d ∈ oppL q M n xs K, OppOk n d) ∧ (oppL q M n xs K).length ≤ 511 := by
  obtain ⟨hvb, hk⟩ := validC_kind hv
  obtain ⟨v1, v2, v3⟩ := validB_true.1 hvb
  have hx : Tame xs := fun j => valid_at hvb j
  have hK := fitsB_true.1 v2
  have hm : ∀ s : Int, s = 1 ∨ s = -1 → (∀ x ∈ mulL n s xs, -4611686018427387904 ≤ x ∧ x ≤ 4611686018427387904) ∧ (mulL n s xs).length = n := fun s hs =>
    ⟨fun x h => by have := mulL_bd hs hx x h; omega, by simp [mulL]⟩
  unfold oppL
  rcases hk with ⟨rfl, rfl⟩ | ⟨rfl, rfl⟩ | ⟨rfl, hM⟩
  · rw [if_pos rfl]
    refine ⟨fun d hd => ?_, by simp⟩
    rw [List.mem_singleton.1 hd]
    exact ⟨.inl rfl, (by dsimp only; omega), (hm (-1) (.inr rfl)).1, (hm (-1) (.inr rfl)).2⟩
  · rw [if_neg (by decide), if_pos rfl]
    refine ⟨fun d hd => ?_, by simp⟩
    rcases List.mem_cons.1 hd with rfl | hd
    · exact ⟨.inl rfl, (by dsimp only; omega), (hm 1 (.inl rfl)).1, (hm 1 (.inl rfl)).2⟩
    · rw [List.mem_singleton.1 hd]
      exact ⟨.inl rfl, (by dsimp only; omega), (hm (-1) (.inr rfl)).1, (hm (-1) (.inr rfl)).2⟩
  · rw [if_neg (by decide), if_neg (by decide)]
    refine ⟨fun d hd => ?_, by simp; omega⟩
    obtain ⟨r, hr, rfl⟩ := List.mem_map.1 hd
    have := List.mem_range.1 hr
    exact ⟨.inr (.inr ⟨rfl, hM⟩), (by dsimp only; omega), (hm 1 (.inl rfl)).1, (hm 1 (.inl rfl)).2⟩
theorem cond_opp {q M : Int} {A : Option Addr} {n c : Nat} {K : Int} {xs : List Int} (hv : validC q M xs K = true) (w : World) (hI : IntsAt w A n xs) :
    Calls Tryz.prog 99 #[condV q M A n c K] w fun e w' => CondsRet w e w' n (oppL q M n xs K) := by
  obtain ⟨hvb, hk⟩ := validC_kind hv
  have hx : Tame xs := fun j => valid_at hvb j
  have hK := fitsB_true.1 (validB_true.1 hvb).2.1
  rcases hk with ⟨rfl, rfl⟩ | ⟨rfl, rfl⟩ | ⟨rfl, hM⟩
  · exact opp_ge 0 A n c K xs hK hx w hI
  · exact opp_eq 0 A n c K xs hK hx w hI
  · exact opp_dv M A n c K xs hK hx w hI hM
theorem nf_state {q M : Int} {n : Nat} {xs : List Int} {K : Int} (hl : xs.length = n) (hq : KindOk q M) : ((nf q M n xs K).2.2.2.2 = 0 ∧ (nf q M n xs K).2.2.1.length = n ∧ (nf q M n xs K).2.1 ≤ 512) ∨ (nf q M n xs K).2.2.2.2 = 1 ∨ (nf q M n xs K).2.2.2.2 = -1 := by
  rcases nf_case (K := K) hl hq with ⟨s, hs', h, hh⟩ | ⟨g, rfl, hg, h, h1, hd⟩ | ⟨D, rfl, hD, h, h1, h2, hd, hK⟩ | ⟨h, rfl, h0, hM, hne, e, hd, hK, hg⟩
  · rw [h]; exact .inr hs'
  · rw [h]; exact .inl ⟨rfl, quo_len _ _ _, (by decide : (0 : Int) ≤ 512)⟩
  · rw [h]; exact .inl ⟨rfl, quo_len _ _ _, (by decide : (0 : Int) ≤ 512)⟩
  · rw [e]
    refine .inl ⟨rfl, rem_len _ _ _ _, ?_⟩
    rcases hq with h | h | ⟨_, h1, h2⟩
    · cases h
    · cases h
    · have := Int.ediv_le_self (h : Int) (show 0 ≤ M by omega)
      show M / (h : Int) ≤ 512
      omega
theorem out_snoc {n i : Nat} {ds : List CD} {d : CD} (h : ds[i]? = some d) : negOut n (ds.take (i + 1)) = negOut n (ds.take i) ++ negOne n d := by
  obtain ⟨hi, e⟩ := List.getElem?_eq_some_iff.1 h
  unfold negOut
  rw [List.take_succ_eq_append_getElem hi, List.flatMap_append, e]
  simp
theorem out_len (n : Nat) : ∀ ds : List CD, (negOut n ds).length ≤ ds.length
  | [] => by simp [negOut]
  | d :: ds => by
    have := out_len n ds
    unfold negOut at this ⊢
    rw [List.flatMap_cons, List.length_append]
    have h1 : (negOne n d).length ≤ 1 := by unfold negOne; split <;> (try split) <;> simp
    simp only [List.length_cons]
    omega
theorem any_take {p : CD → Bool} {ds : List CD} {i : Nat} {d : CD} (h : ds[i]? = some d) (hp : p d = true) : ds.any p = true := by
  obtain ⟨hi, e⟩ := List.getElem?_eq_some_iff.1 h
  exact List.any_eq_true.2 ⟨d, e ▸ List.getElem_mem hi, hp⟩
theorem any_none {p : CD → Bool} {ds : List CD} (h : ∀ j d, j < ds.length → ds[j]? = some d → p d = false) : ds.any p = false := by
  rw [List.any_eq_false]
  intro d hd
  obtain ⟨j, hj, rfl⟩ := List.getElem_of_mem hd
  rw [h j _ hj (List.getElem?_eq_getElem hj)]
  simp
theorem cond_neg_bad (q M : Int) (A : Option Addr) (n c : Nat) (K : Int) (xs : List Int) (hv : validC q M xs K = false) (w : World) (hI : IntsAt w A n xs) :
    Calls Tryz.prog 80 #[condV q M A n c K] w fun e w' => NegRet w e w' n [] 1 := by
  have hB := below_alloc w (.cells #[.int .i64 q, .int .i64 M, .slice A n c, .int .i64 K] 56)
  have h1 := hI.step hB
  have HV := Lib.hid hv
  clear hv
  go_enter Tryz.func80, Tryz.ntmps80
  go_wp2_with (go_at_call 84; refine (cond_valid _ _ _ _ _ _ xs _ h1).mono ?_; rintro e w1 ⟨rfl, hb⟩; rw [HV.out]; replace hB := below_step hB hb)
  go_ret2
  exact ⟨_, [], rfl, CL.nil _ _, rfl, (fun e h => nomatch h), hB⟩
set_option maxHeartbeats 8000000 in
set_option maxRecDepth 100000 in
theorem cond_neg_ok (q M : Int) (A : Option Addr) (n c : Nat) (K : Int) (xs : List Int) (hv : validC q M xs K = true) (w : World) (hI : IntsAt w A n xs) :
    Calls Tryz.prog 80 #[condV q M A n c K] w fun e w' => NegRet w e w' n (if negFull n (oppL q M n xs K) = true then [] else negOut n (oppL q M n xs K)) (if negFull n (oppL q M n xs K) = true then 3 else 0) := by
  have hB := below_alloc w (.cells #[.int .i64 q, .int .i64 M, .slice A n c, .int .i64 K] 56)
  have h1 := hI.step hB
  have B1 := CBox.new w q M A n c K
  have HO := Lib.hid (fun W (h : IntsAt W A n xs) => cond_opp (c := c) hv W h)
  obtain ⟨hok, hlen⟩ := opp_ok (n := n) hv
  obtain ⟨ds, hds⟩ : ∃ ds, oppL q M n xs K = ds := ⟨_, rfl⟩
  rw [hds] at HO hok hlen ⊢
  have HV := Lib.hid hv
  have hsm := hI.small
  have hmk := make_ints n hsm
  have HOK := Lib.hid hok
  have HLEN := Lib.hid hlen
  obtain ⟨out, hout⟩ : ∃ o, (if negFull n ds = true then [] else negOut n ds) = o := ⟨_, rfl⟩
  obtain ⟨er, her⟩ : ∃ o : Int, (if negFull n ds = true then 3 else 0) = o := ⟨_, rfl⟩
  rw [hout, her]
  have HP := Lib.hid (And.intro hout.symm her.symm)
  clear hv hI hds hok hlen hout her
  go_enter Tryz.func80, Tryz.ntmps80
  go_wp2_with (first
    | (go_at_call 84; refine (cond_valid _ _ _ _ _ _ xs _ h1).mono ?_; rintro e w1 ⟨rfl, hb⟩; rw [HV.out]; replace hB := below_step hB hb; replace h1 := h1.step hb; replace B1 := B1.step hb; have c0 := B1.c0; have c1 := B1.c1; have c2 := B1.c2; have c3 := B1.c3)
    | (go_at_call 99; refine (HO.out _ h1).mono ?_; rintro e w2 ⟨A0, k0, els0, rfl, C0, hd0, hn0, hb⟩; replace hB := below_step hB hb; replace B1 := B1.step hb; generalize hm : els0.length = m at C0 ⊢))
  clear hb h1 c0 c1 c2 c3
  have HD0 := Lib.hid (And.intro hd0 hn0)
  have l1 := B1.lt
  have HM := Lib.hid (show ds.length = m by rw [← hd0, List.length_map]; exact hm)
  have hm1 : m ≤ 511 := by have := HM.out; have := HLEN.out; omega
  clear hd0 hn0 hm
  go_loopw [4, 15] (fun u v wr => ∃ (i : Nat) (els : List CEl), i ≤ m ∧ v = .int .i64 i ∧ CL w2.heap.size wr u els ∧ els.map CEl.d = negOut n (ds.take i) ∧ (∀ e ∈ els, e.n = n) ∧ (∀ j d, j < i → ds[j]? = some d → negBad n d = false) ∧ Below w2.heap.size w2 wr) (fun _ v _ => m - (intOf v).toNat)
  case atStart => exact ⟨0, [], Nat.zero_le _, rfl, CL.nil _ _, rfl, (fun e h => nomatch h), (fun j d h => absurd h (by omega)), Below.refl _ _⟩
  case round =>
    obtain ⟨i, els, hi, rfl, hL, hd, hn, hbad, hbr⟩ := hrel
    have hlen2 : els.length ≤ i := by
      have h3 := congrArg List.length hd
      rw [List.length_map] at h3
      have h4 := out_len n (ds.take i)
      have h5 := List.length_take_le i ds
      omega
    have HD := Lib.hid (And.intro hd (And.intro hn hbad))
    have S1 := B1.below hbr l1
    have c2 := S1.c2
    have C1 := C0.step hbr
    have hNs := hbr.size
    clear hd hn hbad
    obtain ⟨A9, k9, rfl⟩ := hL.slice
    by_cases hlt : i < m
    · obtain ⟨b, off, e, rfl, hblt, hej, hmem, hcs, hin⟩ := C1.at hlt
      obtain ⟨x0, x1, x2, x3⟩ := hcs
      obtain ⟨eq, eM, eA, en, ec, eK, exs⟩ := e
      simp only at x0 x1 x2 x3 hin
      have hdj : ds[i]? = some ⟨eq, eM, exs, eK⟩ := by rw [← HD0.out.1, List.getElem?_map, hej]; rfl
      have hdm : (⟨eq, eM, exs, eK⟩ : CD) ∈ ds := by obtain ⟨h8, h9⟩ := List.getElem?_eq_some_iff.1 hdj; exact h9 ▸ List.getElem_mem h8
      obtain ⟨ok1, ok2, ok3, ok4⟩ := HOK.out _ hdm
      obtain rfl : en = n := HD0.out.2 _ hmem
      have hq1 : (i : Int) < m := by omega
      have HN := Lib.hid (fun W (h : IntsAt W eA en exs) => wide_normal eq eM eA en ec eK exs ok1 ok2 ok3 W h)
      have hst := nf_state (K := eK) ok4 ok1
      have hbd : negBad en ⟨eq, eM, exs, eK⟩ = (decide ((nf eq eM en exs eK).2.2.2.2 = 0) && !validB (nf eq eM en exs eK).2.2.1 (nf eq eM en exs eK).2.2.2.1) := rfl
      have hone : negOne en ⟨eq, eM, exs, eK⟩ = if (nf eq eM en exs eK).2.2.2.2 = 0 then [⟨(nf eq eM en exs eK).1, (nf eq eM en exs eK).2.1, (nf eq eM en exs eK).2.2.1, (nf eq eM en exs eK).2.2.2.1⟩] else if (nf eq eM en exs eK).2.2.2.2 = 1 then [⟨0, 0, zeros en, 0⟩] else [] := rfl
      obtain ⟨r, hr⟩ : ∃ r, nf eq eM en exs eK = r := ⟨_, rfl⟩
      rw [hr] at HN hst hbd hone
      have HJ := Lib.hid hdj
      have y1 := hin.step (below_alloc wr (.cells #[.int .i64 eq, .int .i64 eM, .slice eA en ec, .int .i64 eK] 56))
      have L1 := hL.step (below_alloc wr (.cells #[.int .i64 eq, .int .i64 eM, .slice eA en ec, .int .i64 eK] 56))
      have S2 := S1.alloc (.cells #[.int .i64 eq, .int .i64 eM, .slice eA en ec, .int .i64 eK] 56)
      have hbr1 := hbr.trans ((below_alloc wr (.cells #[.int .i64 eq, .int .i64 eM, .slice eA en ec, .int .i64 eK] 56)).mono hNs)
      clear hdj hdm hr ok1 ok2 ok3 ok4 hej hmem hin c2
      rcases hst with ⟨hs, hX, hM5⟩ | hs | hs
      · rw [if_pos hs] at hone
        cases hvb : validB r.2.2.1 r.2.2.2.1
        · rw [hvb, hs] at hbd
          have HF := Lib.hid (show negFull en ds = true by unfold negFull; rw [any_take HJ.out hbd]; rfl)
          have HV5 := Lib.hid hvb
          clear hone hbd hvb
          go_wp2_with (first
            | (go_at_call 100; refine (HN.out _ y1).mono ?_; rintro e w4 ⟨A4, n4, c4, rfl, I4, hb4, O4⟩; have b5 := below_alloc w4 (.cells #[.int .i64 r.1, .int .i64 r.2.1, .slice A4 n4 c4, .int .i64 r.2.2.2.1] 56); replace I4 := I4.step b5; have X7 := CBox.new w4 r.1 r.2.1 A4 n4 c4 r.2.2.2.1; have d0 := X7.c0; have d1 := X7.c1; have d2 := X7.c2; have d3 := X7.c3; have hbr5 := (hbr1.trans (hb4.mono hbr1.size)).trans (b5.mono (Nat.le_trans hbr1.size hb4.size)))
            | (go_at_call 101; refine (wide_fits _ _ _ _ _ _ _ hM5 _ I4).mono ?_; rintro e w5 ⟨rfl, hb6⟩; rw [HV5.out]; replace hbr5 := hbr5.trans (hb6.mono hbr5.size)))
          have hEnd := below_step hB hbr5
          go_ret2
          rw [HP.out.1, HP.out.2, HF.out]
          exact ⟨_, [], rfl, CL.nil _ _, rfl, (fun e h => nomatch h), hEnd⟩
        · rw [hvb, hs] at hbd
          have HB := Lib.hid (And.intro hone hbd)
          have HV5 := Lib.hid hvb
          clear hone hbd hvb
          go_wp2_with (first
            | (go_at_call 100; refine (HN.out _ y1).mono ?_; rintro e w4 ⟨A4, n4, c4, rfl, I4, hb4, O4⟩; obtain rfl : n4 = en := I4.len.symm.trans hX; have b5 := below_alloc w4 (.cells #[.int .i64 r.1, .int .i64 r.2.1, .slice A4 n4 c4, .int .i64 r.2.2.2.1] 56); have R4 := ((FreshRow.ok O4 hbr1.size).step b5); replace I4 := I4.step b5; have X7 := CBox.new w4 r.1 r.2.1 A4 n4 c4 r.2.2.2.1; have d0 := X7.c0; have d1 := X7.c1; have d2 := X7.c2; have d3 := X7.c3; have L5 := (L1.step hb4).step b5; have hbr5 := (hbr1.trans (hb4.mono hbr1.size)).trans (b5.mono (Nat.le_trans hbr1.size hb4.size)))
            | (go_at_call 101; refine (wide_fits _ _ _ _ _ _ _ hM5 _ I4).mono ?_; rintro e w5 ⟨rfl, hb6⟩; rw [HV5.out]; have b7 := below_alloc w5 (.cells #[.int .i64 r.1, .int .i64 r.2.1, .slice A4 n4 c4, .int .i64 r.2.2.2.1] 56); have G7 := heap_alloc_new w5 (.cells #[.int .i64 r.1, .int .i64 r.2.1, .slice A4 n4 c4, .int .i64 r.2.2.2.1] 56); replace hbr5 := hbr5.trans (hb6.mono hbr5.size); replace hbr5 := hbr5.trans (b7.mono hbr5.size); have L7 := (L5.step hb6).step b7; have I7 := (I4.step hb6).step b7; have R7 := (R4.step hb6).step b7; replace X7 := X7.step hb6; have d0 := X7.c0; have d1 := X7.c1; have d2 := X7.c2; have d3 := X7.c3)
            | (at_builtin; refine wpList_append_cond rfl _ _ 34 rfl rfl rfl L7 w5.heap.size ⟨r.1, r.2.1, A4, n4, c4, r.2.2.2.1, r.2.2.1⟩ rfl G7 I7 R7 (by omega) hbr5.size ?_; intro g8 cap8 w8 L8 gr8 hb8; replace hbr5 := hbr5.trans hb8))
          go_roundw
          case rel => exact ⟨i + 1, els ++ [⟨r.1, r.2.1, A4, n4, c4, r.2.2.2.1, r.2.2.1⟩], by omega, by go_num, L8, by rw [out_snoc HJ.out, HB.out.1, List.map_append, HD.out.1]; rfl, (fun e he => by
            rcases List.mem_append.1 he with h | h
            · exact HD.out.2.1 e h
            · rw [List.mem_singleton.1 h]), (fun j d hj hjd => by
            rcases Nat.lt_or_eq_of_le (Nat.le_of_lt_succ hj) with h | rfl
            · exact HD.out.2.2 j d h hjd
            · rw [HJ.out] at hjd; cases hjd; exact HB.out.2), hbr5⟩
          case measure => simp [intOf]; omega
      · rw [if_neg (by rw [hs]; decide), if_pos hs] at hone
        rw [hs] at hbd
        have HB := Lib.hid (And.intro hone hbd)
        clear hone hbd
        go_wp2_with (first
          | (go_at_call 100; refine (HN.out _ y1).mono ?_; rintro e w4 ⟨A4, n4, c4, rfl, I4, hb4, O4⟩; have b5 := below_alloc w4 (.cells #[.int .i64 r.1, .int .i64 r.2.1, .slice A4 n4 c4, .int .i64 r.2.2.2.1] 56); have X7 := CBox.new w4 r.1 r.2.1 A4 n4 c4 r.2.2.2.1; have L5 := (L1.step hb4).step b5; have hbr5 := (hbr1.trans (hb4.mono hbr1.size)).trans (b5.mono (Nat.le_trans hbr1.size hb4.size)); have S5 := (S2.step hb4).step b5; have c2 := S5.c2; have b1 := below_alloc w4 (.cells #[.int .i64 0, .int .i64 0, .slice (some ⟨w4.heap.size + 1, 0, none⟩) en en, .int .i64 0] 56); have b2 := below_alloc (w4.alloc (.cells #[.int .i64 0, .int .i64 0, .slice (some ⟨w4.heap.size + 1, 0, none⟩) en en, .int .i64 0] 56)) (.cells ((zeros en).map (Value.int .i64)).toArray 3); have b3 := below_alloc ((w4.alloc (.cells #[.int .i64 0, .int .i64 0, .slice (some ⟨w4.heap.size + 1, 0, none⟩) en en, .int .i64 0] 56)).alloc (.cells ((zeros en).map (Value.int .i64)).toArray 3)) (.cells #[.int .i64 0, .int .i64 0, .slice (some ⟨w4.heap.size + 1, 0, none⟩) en en, .int .i64 0] 56); have L7 := (((L1.step hb4).step b1).step b2).step b3; have OZ := (OwnRow.new (w4.alloc (.cells #[.int .i64 0, .int .i64 0, .slice (some ⟨w4.heap.size + 1, 0, none⟩) en en, .int .i64 0] 56)) (zeros en) en (zeros_len en)).step b3; rw [World.size_alloc] at OZ; have hbr7 := hbr1.trans (hb4.mono hbr1.size); replace hbr7 := hbr7.trans (b1.mono hbr7.size); replace hbr7 := hbr7.trans (b2.mono hbr7.size); replace hbr7 := hbr7.trans (b3.mono hbr7.size); have I7 := OZ.ints hsm (zeros_wf en); have hN4 := Nat.le_trans hbr1.size hb4.size; have R7 := FreshRow.ok (N := w4.heap.size + 1) (N' := w2.heap.size) (.inr ⟨_, rfl, Nat.le_refl _, OZ⟩) (Nat.le_trans hN4 (Nat.le_succ _)); have G7 := heap_alloc_new ((w4.alloc (.cells #[.int .i64 0, .int .i64 0, .slice (some ⟨w4.heap.size + 1, 0, none⟩) en en, .int .i64 0] 56)).alloc (.cells ((zeros en).map (Value.int .i64)).toArray 3)) (.cells #[.int .i64 0, .int .i64 0, .slice (some ⟨w4.heap.size + 1, 0, none⟩) en en, .int .i64 0] 56); simp only [World.size_alloc] at G7; have hN7 := hbr7.size)
          | (at_builtin; refine wpList_append_cond rfl _ _ 34 rfl rfl rfl L7 (w4.heap.size + 1 + 1) ⟨0, 0, some ⟨w4.heap.size + 1, 0, none⟩, en, en, 0, zeros en⟩ rfl G7 I7 R7 (by omega) hN7 ?_; intro g8 cap8 w8 L8 gr8 hb8; replace hbr7 := hbr7.trans hb8))
        go_roundw
        case rel => exact ⟨i + 1, els ++ [⟨0, 0, some ⟨w4.heap.size + 1, 0, none⟩, en, en, 0, zeros en⟩], by omega, by go_num, L8, by rw [out_snoc HJ.out, HB.out.1, List.map_append, HD.out.1]; rfl, (fun e he => by
          rcases List.mem_append.1 he with h | h
          · exact HD.out.2.1 e h
          · rw [List.mem_singleton.1 h]), (fun j d hj hjd => by
          rcases Nat.lt_or_eq_of_le (Nat.le_of_lt_succ hj) with h | rfl
          · exact HD.out.2.2 j d h hjd
          · rw [HJ.out] at hjd; cases hjd; exact HB.out.2), hbr7⟩
        case measure => simp [intOf]; omega
      · rw [if_neg (by rw [hs]; decide), if_neg (by rw [hs]; decide)] at hone
        rw [hs] at hbd
        have HB := Lib.hid (And.intro hone hbd)
        clear hone hbd
        go_wp2_with (go_at_call 100; refine (HN.out _ y1).mono ?_; rintro e w4 ⟨A4, n4, c4, rfl, I4, hb4, O4⟩; have b5 := below_alloc w4 (.cells #[.int .i64 r.1, .int .i64 r.2.1, .slice A4 n4 c4, .int .i64 r.2.2.2.1] 56); have L5 := (L1.step hb4).step b5; have hbr5 := (hbr1.trans (hb4.mono hbr1.size)).trans (b5.mono (Nat.le_trans hbr1.size hb4.size)))
        go_roundw
        case rel => exact ⟨i + 1, els, by omega, by go_num, L5, by rw [out_snoc HJ.out, HB.out.1, List.append_nil]; exact HD.out.1, HD.out.2.1, (fun j d hj hjd => by
          rcases Nat.lt_or_eq_of_le (Nat.le_of_lt_succ hj) with h | rfl
          · exact HD.out.2.2 j d h hjd
          · rw [HJ.out] at hjd; cases hjd; exact HB.out.2), hbr5⟩
        case measure => simp [intOf]; omega
    · obtain rfl : i = m := by omega
      have hC := hL.conds.2
      have hall : negOut n (ds.take i) = negOut n ds := by rw [List.take_of_length_le (by rw [HM.out]; exact Nat.le_refl _)]
      have HA := Lib.hid (And.intro (show ds.any (negBad n) = false from any_none fun j d hj => HD.out.2.2 j d (by rw [← HM.out]; exact hj)) (show els.length = (negOut n ds).length by rw [← hall, ← HD.out.1, List.length_map]))
      have hge : ¬ ((i : Int) < i) := by omega
      have hEnd := below_step hB hbr
      have HALL := Lib.hid hall
      clear hall
      by_cases h4 : 400 < els.length
      · have HF := Lib.hid (show negFull n ds = true by unfold negFull; rw [HA.out.1, ← HA.out.2]; simpa using h4)
        have h4i : (400 : Int) < (els.length : Int) := by omega
        go_wp2
        go_ret2
        rw [HP.out.1, HP.out.2, HF.out]
        exact ⟨_, [], rfl, CL.nil _ _, rfl, (fun e h => nomatch h), hEnd⟩
      · have HF := Lib.hid (show negFull n ds = false by unfold negFull; rw [HA.out.1, ← HA.out.2]; simpa using h4)
        have h4i : ¬ (400 : Int) < (els.length : Int) := by omega
        have hL2 := hL.mono (show w.heap.size ≤ w2.heap.size by omega) (show w.heap.size ≤ w2.heap.size by omega)
        go_wp2
        go_ret2
        rw [HP.out.1, HP.out.2, HF.out]
        exact ⟨_, els, rfl, hL2, by rw [HD.out.1, HALL.out]; rfl, HD.out.2.1, hEnd⟩
theorem cond_neg (q M : Int) (A : Option Addr) (n c : Nat) (K : Int) (xs : List Int) (w : World) (hI : IntsAt w A n xs) :
    Calls Tryz.prog 80 #[condV q M A n c K] w fun e w' => NegRet w e w' n (negL q M n xs K) (negE q M n xs K) := by
  unfold negL negE
  cases hv : validC q M xs K
  · exact cond_neg_bad q M A n c K xs hv w hI
  · exact cond_neg_ok q M A n c K xs hv w hI
end Go.Proofs.YtkgnlloioaobiaaGreat
namespace Go.Proofs.YtkgnlloioaobiaaGreat
open Go.RowKit
def cmpI (x y : Int) : Int := if x < y then -1 else if y < x then 1 else 0
def ordL : List Int → List Int → Int
  | x :: xs, y :: ys => if x < y then -1 else if y < x then 1 else ordL xs ys
  | _, _ => 0
theorem ord_skip : ∀ (i : Nat) (xs ys : List Int), xs.length = ys.length → i ≤ xs.length → (∀ j, j < i → xs[j]?.getD 0 = ys[j]?.getD 0) → ordL xs ys = ordL (xs.drop i) (ys.drop i)
  | 0, _, _, _, _, _ => rfl
  | i + 1, [], _, _, hi, _ => by simp at hi
  | i + 1, _ :: _, [], hl, _, _ => by simp at hl
  | i + 1, x :: xs, y :: ys, hl, hi, h => by
    have h0 := h 0 (by omega)
    simp at h0
    subst h0
    have := ord_skip i xs ys (by simpa using hl) (by simpa using hi) (fun j hj => by have := h (j + 1) (by omega); simpa using this)
    simpa [ordL] using this
theorem ord_at {n i : Nat} {xs ys : List Int} (hl : xs.length = n) (hl' : ys.length = n) (hi : i < n) (h : ∀ j, j < i → xs[j]?.getD 0 = ys[j]?.getD 0) :
    ordL xs ys = if xs[i]?.getD 0 < ys[i]?.getD 0 then -1 else if ys[i]?.getD 0 < xs[i]?.getD 0 then 1 else ordL (xs.drop (i + 1)) (ys.drop (i + 1)) := by
  rw [ord_skip i xs ys (by omega) (by omega) h, List.drop_eq_getElem_cons (by omega : i < xs.length), List.drop_eq_getElem_cons (by omega : i < ys.length)]
  simp [ordL, show i < xs.length by omega, show i < ys.length by omega]
theorem ord_end {n : Nat} {xs ys : List Int} (hl : xs.length = n) (hl' : ys.length = n) (h : ∀ j, j < n → xs[j]?.getD 0 = ys[j]?.getD 0) : ordL xs ys = 0 := by
  rw [ord_skip n xs ys (by omega) (by omega) h, List.drop_eq_nil_of_le (by omega)]; rfl
theorem ret_i64 {a b : Int} (h : a = b) : Ending.returned (.int .i64 a) = .returned (.int .i64 b) := by rw [h]
theorem is_nan (x : Int) (w : World) : Calls Tryz.prog 144 #[.int .i64 x] w fun e w' => e = .returned (.bool false) ∧ w = w' := by
  go_enter Tryz.func144, Tryz.ntmps144
  go_wp2
  go_ret
  exact ⟨ret_bool (by simp), rfl⟩
theorem cmp_compare (x y : Int) (w : World) : Calls Tryz.prog 115 #[.int .i64 x, .int .i64 y] w fun e w' => e = .returned (.int .i64 (cmpI x y)) ∧ w = w' := by
  rcases (show x < y ∨ (¬ x < y ∧ y < x) ∨ (¬ x < y ∧ ¬ y < x) by omega) with h | ⟨h1, h⟩ | ⟨h1, h⟩
  all_goals
    go_enter Tryz.func115, Tryz.ntmps115
    go_wp2_with (go_at_call 144; refine (is_nan _ _).mono ?_; rintro e w' ⟨rfl, rfl⟩)
    go_ret
    exact ⟨ret_i64 (by unfold cmpI; (repeat' split) <;> omega), rfl⟩
theorem slices_compare (w : World) (A A' : Option Addr) (n c c' : Nat) (xs ys : List Int) (h : IntsAt w A n xs) (h' : IntsAt w A' n ys) :
    Calls Tryz.prog 117 #[.slice A n c, .slice A' n c'] w fun e w' => e = .returned (.int .i64 (ordL xs ys)) ∧ w = w' := by
  have HL := Lib.hid h.len
  have HL' := Lib.hid h'.len
  have hsm := h.small
  go_enter Tryz.func117, Tryz.ntmps117
  go_wp2
  go_loop [11] (fun v => ∃ i : Nat, i ≤ n ∧ v = .int .i64 i ∧ ∀ j, j < i → xs[j]?.getD 0 = ys[j]?.getD 0) (fun v => n - (intOf v).toNat)
  case atStart => exact ⟨0, Nat.zero_le _, rfl, fun j hj => absurd hj (by omega)⟩
  case round =>
    obtain ⟨i, hi, rfl, hg⟩ := hrel
    have HG := Lib.hid hg
    clear hg
    by_cases hlt : i < n
    · obtain ⟨b, off, rfl, hb, hc⟩ := h.cells (by omega)
      obtain ⟨b', off', rfl, hb', hc'⟩ := h'.cells (by omega)
      have hcell := hc i hlt
      have hcell' := hc' i hlt
      clear hc hc'
      have HO := Lib.hid (ord_at HL.out HL'.out hlt HG.out)
      rcases (show xs[i]?.getD 0 < ys[i]?.getD 0 ∨ ys[i]?.getD 0 < xs[i]?.getD 0 ∨ xs[i]?.getD 0 = ys[i]?.getD 0 by omega) with hx | hx | hx
      · have HX : RowKit.Hid (cmpI (xs[i]?.getD 0) (ys[i]?.getD 0) = -1) := Lib.hid (by unfold cmpI; rw [if_pos hx])
        have HV := Lib.hid (show ordL xs ys = -1 by rw [HO.out, if_pos hx])
        clear hx
        go_wp2_with (go_at_call 115; refine (cmp_compare _ _ _).mono ?_; rintro e w' ⟨rfl, rfl⟩; rw [HX.out])
        go_ret
        exact ⟨ret_i64 HV.out.symm, rfl⟩
      · have HX : RowKit.Hid (cmpI (xs[i]?.getD 0) (ys[i]?.getD 0) = 1) := Lib.hid (by unfold cmpI; rw [if_neg (by omega), if_pos hx])
        have HV := Lib.hid (show ordL xs ys = 1 by rw [HO.out, if_neg (by omega), if_pos hx])
        clear hx
        go_wp2_with (go_at_call 115; refine (cmp_compare _ _ _).mono ?_; rintro e w' ⟨rfl, rfl⟩; rw [HX.out])
        go_ret
        exact ⟨ret_i64 HV.out.symm, rfl⟩
      · have HE := Lib.hid hx
        have HX : RowKit.Hid (cmpI (xs[i]?.getD 0) (ys[i]?.getD 0) = 0) := Lib.hid (by unfold cmpI; rw [if_neg (by omega), if_neg (by omega)])
        clear hx
        go_wp2_with (go_at_call 115; refine (cmp_compare _ _ _).mono ?_; rintro e w' ⟨rfl, rfl⟩; rw [HX.out])
        go_round
        case rel => exact ⟨i + 1, by omega, by go_num, fun j hj => by
          rcases Nat.lt_or_eq_of_le (Nat.le_of_lt_succ hj) with h1 | h1
          · exact HG.out j h1
          · exact h1 ▸ HE.out⟩
        case measure => simp [intOf]; omega
    · obtain rfl : i = n := by omega
      have HV := Lib.hid (ord_end HL.out HL'.out HG.out)
      go_wp2
      go_ret
      exact ⟨ret_i64 HV.out.symm, rfl⟩
end Go.Proofs.YtkgnlloioaobiaaGreat
namespace Go.Proofs.YtkgnlloioaobiaaGreat
open Go.RowKit
theorem ref_order (w : World) (A A' : Option Addr) (n c c' : Nat) (xs ys : List Int) (h : IntsAt w A n xs) (h' : IntsAt w A' n ys) :
    Calls Tryz.prog 130 #[.slice A n c, .slice A' n c'] w fun e w' => e = .returned (.int .i64 (ordL xs ys)) ∧ ∃ k, w' = w.drewN k := by
  have HL := Lib.hid h.len
  have HL' := Lib.hid h'.len
  have hsm := h.small
  go_enter Tryz.func130, Tryz.ntmps130
  go_wp2
  go_loopw [8] (fun v wr => ∃ i k : Nat, i ≤ n ∧ v = .int .i64 i ∧ (∀ j, j < i → xs[j]?.getD 0 = ys[j]?.getD 0) ∧ wr = w.drewN k) (fun v _ => n - (intOf v).toNat)
  case atStart => exact ⟨0, 0, Nat.zero_le _, rfl, fun j hj => absurd hj (by omega), rfl⟩
  case round =>
    obtain ⟨i, k, hi, rfl, hg, rfl⟩ := hrel
    have HG := Lib.hid hg
    clear hg
    by_cases hlt : i < n
    · obtain ⟨b, off, rfl, hb, hc⟩ := h.cells (by omega)
      obtain ⟨b', off', rfl, hb', hc'⟩ := h'.cells (by omega)
      have hcell := hc i hlt
      have hcell' := hc' i hlt
      clear hc hc'
      have HO := Lib.hid (ord_at HL.out HL'.out hlt HG.out)
      rcases (show xs[i]?.getD 0 < ys[i]?.getD 0 ∨ ys[i]?.getD 0 < xs[i]?.getD 0 ∨ xs[i]?.getD 0 = ys[i]?.getD 0 by omega) with hx | hx | hx
      · have HV := Lib.hid (show ordL xs ys = -1 by rw [HO.out, if_pos hx])
        go_wp2
        go_quiet (fail)
        go_wp2
        go_ret
        exact ⟨ret_i64 HV.out.symm, by first | exact ⟨_, rfl⟩ | (simp only [World.drewN_drewN]; exact ⟨_, rfl⟩)⟩
      · have HV := Lib.hid (show ordL xs ys = 1 by rw [HO.out, if_neg (by omega), if_pos hx])
        have hx1 : ys[i]?.getD 0 ≤ xs[i]?.getD 0 := by omega
        go_wp2
        go_quiet (fail)
        go_wp2
        go_quiet (fail)
        go_wp2
        go_ret
        exact ⟨ret_i64 HV.out.symm, by first | exact ⟨_, rfl⟩ | (simp only [World.drewN_drewN]; exact ⟨_, rfl⟩)⟩
      · have HE := Lib.hid hx
        rw [hx] at hcell
        clear hx
        go_wp2
        go_quiet (fail)
        go_wp2
        go_quiet (fail)
        go_wp2
        go_roundw
        case rel => exact ⟨i + 1, _, by omega, by go_num, (fun j hj => by
          rcases Nat.lt_or_eq_of_le (Nat.le_of_lt_succ hj) with h1 | h1
          · exact HG.out j h1
          · exact h1 ▸ HE.out), by first | rfl | (simp only [World.drewN_drewN]; rfl)⟩
        case measure => simp [intOf]; omega
    · obtain rfl : i = n := by omega
      have HV := Lib.hid (ord_end HL.out HL'.out HG.out)
      go_wp2
      go_ret
      exact ⟨ret_i64 HV.out.symm, k, rfl⟩
end Go.Proofs.YtkgnlloioaobiaaGreat
namespace Go.Proofs.YtkgnlloioaobiaaGreat
open Go.RowKit
def RetF (w : World) (e : Ending) (w' : World) (ys : List Int) (K err : Int) : Prop :=
  ∃ A n c, e = .returned (.tuple #[.agg #[.slice A n c, .int .i64 K], .int .i64 err]) ∧ IntsAt w' A n ys ∧ Below w.heap.size w w' ∧ (n = 0 ∨ ∃ g, A = some ⟨g, 0, none⟩ ∧ w.heap.size ≤ g)
theorem RetO.f {w : World} {e : Ending} {w' : World} {ys : List Int} {K err : Int} (h : RetO w e w' ys K err) : RetF w e w' ys K err := by
  obtain ⟨A, n, c, h1, h2, h3, h4⟩ := h
  exact ⟨A, n, c, h1, h2, h3, h4.imp id fun ⟨g, a, b, _⟩ => ⟨g, a, b⟩⟩
end Go.Proofs.YtkgnlloioaobiaaGreat
namespace Go.Proofs.YtkgnlloioaobiaaGreat
open Go.RowKit
def ordE (xs : List Int) (K : Int) (ys : List Int) (L : Int) : Int := if ordL xs ys = 0 then cmpI K L else ordL xs ys
end Go.Proofs.YtkgnlloioaobiaaGreat
namespace Go.Proofs.YtkgnlloioaobiaaGreat
open Go.RowKit
def vals (xs : List Int) : List Value := xs.map (Value.int .i64)
theorem vals_len (xs : List Int) : (vals xs).length = xs.length := by simp [vals]
theorem vals_app (xs ys : List Int) : vals (xs ++ ys) = vals xs ++ vals ys := by simp [vals]
theorem append_none_any (w : World) (base : Nat) (t ty e : TypeId) (i : TypeInfo) (size : Nat) (ht : Tryz.prog.underlying t = some (.slice e)) (hi : Tryz.prog.info? e = some i)
    (v : Value) (n : Nat) (xs : List Value) (c : Nat) (hown : w.ownsRow base e size v n xs) :
    (Builtin.append_ #[t, t] ty #[v, .slice none 0 c]).run Tryz.prog w = .ok v w := by
  rcases hown.2 with ⟨rfl, rfl⟩ | ⟨g, cap, cur, rfl, _, _, hnc, _⟩
  · simp [Builtin.append_, run_underlying ht, sizeOf, typeInfo, hi, Builtin.lenOf, Builtin.firstCells]
  · simp [Builtin.append_, run_underlying ht, sizeOf, typeInfo, hi, Builtin.lenOf, Builtin.firstCells, hnc, storeCells]
theorem append_ints (w : World) (B : Nat) (ty : TypeId) (v : Value) (n : Nat) (xs : List Value) (hown : w.ownsRow B 3 1 v n xs) (A : Option Addr) (m c : Nat) (ys : List Int) (hI : IntsAt w A m ys) (hnm : n + m ≤ 17592186044416) (hB : B ≤ w.heap.size) :
    ∃ v' w', (Builtin.append_ #[38, 38] ty #[v, .slice A m c]).run Tryz.prog w = .ok v' w' ∧ w'.ownsRow B 3 1 v' (n + m) (xs ++ vals ys) ∧ w.grownBy w' v.ownBlock ∧ (v'.ownBlock = v.ownBlock ∨ v'.ownBlock = some w.heap.size ∨ v'.ownBlock = none) := by
  obtain ⟨i0, hi0, hz0, hz1, hz2⟩ := info_parts infoInt
  have hlen := hI.len
  cases A with
  | none =>
    have hm0 : m = 0 := by
      rcases Nat.eq_zero_or_pos m with h | h
      · exact h
      · obtain ⟨b, off, e, _⟩ := hI.cells h
        cases e
    subst hm0
    have hy : ys = [] := List.eq_nil_of_length_eq_zero hlen
    subst hy
    refine ⟨v, w, append_none_any w B 38 ty 3 i0 1 Tryz.underlying38 hi0 v n xs c hown, by simpa [vals] using hown, ⟨rfl, rfl, rfl, Nat.le_refl _, fun _ _ _ => rfl⟩, .inl rfl⟩
  | some ad =>
    have hnews : ∀ j u, (vals ys)[j]? = some u → w.cell? (ad.add j) = some u := by
      intro j u hu
      unfold vals at hu
      simp only [List.getElem?_map, Option.map_eq_some_iff] at hu
      obtain ⟨x, hx, rfl⟩ := hu
      have hj : j < m := by have := (List.getElem?_eq_some_iff.1 hx).1; omega
      obtain ⟨b, off, e, _, hc⟩ := hI.cells (by omega)
      cases e
      have add_pl : (⟨b, off, none⟩ : Addr).add j = ⟨b, off + j, none⟩ := by unfold Addr.add; split <;> simp_all
      rw [add_pl, hc j hj, hx]; rfl
    obtain ⟨v', w', h1, h2, h3, _, h5⟩ := run_append_own_at (P := Tryz.prog) w B 38 ty 3 i0 (.int .i64 0) 1 8 Tryz.underlying38 hi0 hz0 hz1 hz2 rfl (by decide) v n xs hown ad m c (vals ys) (by rw [vals_len]; omega) hnews
      (by intro u hu; simp [vals] at hu; obtain ⟨_, _, rfl⟩ := hu; rfl) (by unfold maxLen; omega) (by omega) hB
    exact ⟨v', w', h1, h2, h3, h5.imp id .inl⟩
theorem own_ints {w : World} {B : Nat} {v : Value} {n : Nat} {xs : List Int} (h : w.ownsRow B 3 1 v n (vals xs)) (hs : n ≤ 17592186044416) (hw : ∀ x ∈ xs, -9223372036854775808 ≤ x ∧ x ≤ 9223372036854775807) :
    ∃ A c, v = .slice A n c ∧ IntsAt w A n xs := by
  have hl := h.1
  rw [vals_len] at hl
  rcases h.2 with ⟨rfl, rfl⟩ | ⟨g, cap, cur, rfl, hb, hg, _⟩
  · have : xs = [] := List.eq_nil_of_length_eq_zero (by omega)
    subst this
    exact ⟨none, 0, rfl, ints_nil w none⟩
  · refine ⟨some ⟨g, 0, none⟩, cap, rfl, by omega, hs, hw, fun _ => ⟨g, 0, rfl, (Array.getElem?_eq_some_iff.1 hg).1, fun j hj => ?_⟩⟩
    have := World.ownsRow.cellAt h j (by omega)
    rw [Nat.zero_add, this]
    have hj' : j < xs.length := by omega
    simp [vals, hj']
section
variable {ops : Array Oper} {o : Oper} {a : Act} {w : World} {Q : Exit → Act → World → Prop}
end
end Go.Proofs.YtkgnlloioaobiaaGreat
namespace Go.Proofs.YtkgnlloioaobiaaGreat
open Go.RowKit
def cmpFacts (n : Nat) (b1 : Nat) (A : Option Addr) (c : Nat) (K : Int) (xs : List Int) (b2 : Nat) (A' : Option Addr) (c' : Nat) (L : Int) (ys : List Int) (B : Nat) : Nat → Fact B
  | 0 => .own 3 0 []
  | 1 => .val (.pointer (some ⟨b1, 0, none⟩))
  | 2 => .val (.slice A n c)
  | 3 => .own 3 (0 + n) ([] ++ vals xs)
  | 4 => .val (.pointer (some ⟨b1, 1, none⟩))
  | 5 => .val (.int .i64 K)
  | 6 => .own 3 1 (vals [K])
  | 7 => .own 3 ((0 + n) + 1) (([] ++ vals xs) ++ vals [K])
  | 8 => .own 3 0 []
  | 9 => .val (.pointer (some ⟨b2, 0, none⟩))
  | 10 => .val (.slice A' n c')
  | 11 => .own 3 (0 + n) ([] ++ vals ys)
  | 12 => .val (.pointer (some ⟨b2, 1, none⟩))
  | 13 => .val (.int .i64 L)
  | 14 => .own 3 1 (vals [L])
  | 15 => .own 3 ((0 + n) + 1) (([] ++ vals ys) ++ vals [L])
  | 16 => .val (.int .i64 (ordL (xs ++ [K]) (ys ++ [L])))
  | 17 => .val (.int .i64 (ordL (xs ++ [K]) (ys ++ [L])))
  | _ => .any
def cmpPlan : Plan where
  slots := [5, 6, 7, 8, 9, 10, 11, 12, 13, 14, 15, 16, 17, 18, 19, 20, 21, 4]
  kill := [[], [], [], [0], [], [], [], [3], [], [], [], [8], [], [], [], [11], [], []]
  need := [[], [], [1], [0, 2], [], [4], [5], [3, 6], [], [], [9], [8, 10], [], [12], [13], [11, 14], [7, 15], [16]]
theorem ref_cmp (A : Option Addr) (n c : Nat) (K : Int) (xs : List Int) (A' : Option Addr) (c' : Nat) (L : Int) (ys : List Int) (w : World) (hI : IntsAt w A n xs) (hI' : IntsAt w A' n ys) (hn12 : n ≤ 12) (hK : -9223372036854775808 ≤ K ∧ K ≤ 9223372036854775807) (hL : -9223372036854775808 ≤ L ∧ L ≤ 9223372036854775807) :
    Calls Tryz.prog 132 #[.agg #[.slice A n c, .int .i64 K], .agg #[.slice A' n c', .int .i64 L]] w fun e w' => e = .returned (.int .i64 (ordL (xs ++ [K]) (ys ++ [L]))) ∧ Below w.heap.size w w' := by
  have B1 := (LBox.new w A n c K).alloc (.cells #[.slice A' n c', .int .i64 L] 54)
  have B2 := LBox.new (w.alloc (.cells #[.slice A n c, .int .i64 K] 54)) A' n c' L
  have hB := below_step (below_alloc w (.cells #[.slice A n c, .int .i64 K] 54)) (below_alloc _ (.cells #[.slice A' n c', .int .i64 L] 54))
  have h1 := hI.step hB
  have h2 := hI'.step hB
  simp only [World.size_alloc] at B2
  have HKs := Lib.hid (show ∀ x ∈ xs ++ [K], -9223372036854775808 ≤ x ∧ x ≤ 9223372036854775807 by
    intro x hx
    rcases List.mem_append.1 hx with h | h
    · exact hI.wf x h
    · rw [List.mem_singleton.1 h]; exact hK)
  have HLs := Lib.hid (show ∀ x ∈ ys ++ [L], -9223372036854775808 ≤ x ∧ x ≤ 9223372036854775807 by
    intro x hx
    rcases List.mem_append.1 hx with h | h
    · exact hI'.wf x h
    · rw [List.mem_singleton.1 h]; exact hL)
  have HK : ∀ x ∈ [K], -9223372036854775808 ≤ x ∧ x ≤ 9223372036854775807 := fun x hx => by rw [List.mem_singleton.1 hx]; exact hK
  have HL : ∀ x ∈ [L], -9223372036854775808 ≤ x ∧ x ≤ 9223372036854775807 := fun x hx => by rw [List.mem_singleton.1 hx]; exact hL
  clear hI hI' hK hL
  go_enter Tryz.func132, Tryz.ntmps132
  go_wp2
  generalize hw1 : ((w.alloc (.cells #[.slice A n c, .int .i64 K] 54)).alloc (.cells #[.slice A' n c', .int .i64 L] 54)) = w1 at *
  rename_i hwalk
  refine wp_region_plan (by rfl) cmpPlan (cmpFacts n w.heap.size A c K xs (w.heap.size + 1) A' c' L ys w1.heap.size) (fun W => Below w1.heap.size w1 W) (by kernel_rfl) rfl (Below.refl _ _).drew ?_ ?_
  case refine_2 =>
    intro a W hS hsz hdf hold hf
    have e1 := getd (show a.tmps.getD 4 undef = _ from hf 17 (by decide) (by decide))
    refine hwalk a W ?_
    go_wp2
    refine bodyPost_ret (v := .int .i64 (ordL (xs ++ [K]) (ys ++ [L]))) ?_ hdf ⟨rfl, below_step hB hS⟩
    simp [results, Tryz.results132, go_sem, e1]
  have hsm := h1.small
  refine ⟨?_, ?_, ?_, ?_, ?_, ?_, ?_, ?_, ?_, ?_, ?_, ?_, ?_, ?_, ?_, ?_, ?_, ?_, trivial⟩ <;> intro a W hS hold hn _ hsz0 <;> have hsz : Hid (a.tmps.size = 22) := Lib.hid hsz0 <;> clear hsz0
  · refine step_lit (cs := #[]) rfl rfl (slot_lt hsz (by kernel_rfl)) rfl (by decide) hS.size ?_ (hS.alloc hS.size _)
    go_simp
  · have e2 := getd (hold 2 rfl)
    refine step_val rfl rfl (slot_lt hsz (by kernel_rfl)) ?_ hS
    go_simp
  · obtain ⟨f1, _⟩ := hn
    have e1 := getd (show a.tmps.getD 6 undef = _ from f1)
    have c1 := (B1.below hS B1.lt).c0
    refine step_val rfl rfl (slot_lt hsz (by kernel_rfl)) ?_ hS
    go_simp
  · obtain ⟨f1, f2, _⟩ := hn
    have f1 : W.ownsRow w1.heap.size 3 1 (a.tmps.getD 5 undef) 0 ([]) := f1
    have f2 : a.tmps.getD 7 undef = _ := f2
    refine step_more rfl rfl (slot_lt hsz (by kernel_rfl)) rfl rfl ?_ (fun w' hg => hS.grown hg hS.size fun k hk => (f1.lt k hk).1)
    obtain ⟨v', w', r1, r2, r3, r4⟩ := append_ints W w1.heap.size 38 _ _ _ f1 _ _ _ _ (h1.step hS) (by omega) hS.size
    exact ⟨v', w', exec_append rfl rfl f2 r1, r2, r3, r4⟩
  · have e2 := getd (hold 2 rfl)
    refine step_val rfl rfl (slot_lt hsz (by kernel_rfl)) ?_ hS
    go_simp
  · obtain ⟨f1, _⟩ := hn
    have e1 := getd (show a.tmps.getD 9 undef = _ from f1)
    have c1 := (B1.below hS B1.lt).c1
    refine step_val rfl rfl (slot_lt hsz (by kernel_rfl)) ?_ hS
    go_simp
  · obtain ⟨f1, _⟩ := hn
    have e1 := getd (show a.tmps.getD 10 undef = _ from f1)
    refine step_lit (cs := #[.int .i64 K]) rfl rfl (slot_lt hsz (by kernel_rfl)) rfl (by decide) hS.size ?_ (hS.alloc hS.size _)
    go_simp
  · obtain ⟨f1, f2, _⟩ := hn
    have f1 : W.ownsRow w1.heap.size 3 1 (a.tmps.getD 8 undef) (0 + n) ([] ++ vals xs) := f1
    have f2 : W.ownsRow w1.heap.size 3 1 (a.tmps.getD 11 undef) 1 (vals [K]) := f2
    obtain ⟨A2, c2, e2, i2⟩ := own_ints f2 (by omega) (HK)
    refine step_more rfl rfl (slot_lt hsz (by kernel_rfl)) rfl rfl ?_ (fun w' hg => hS.grown hg hS.size fun k hk => (f1.lt k hk).1)
    obtain ⟨v', w', r1, r2, r3, r4⟩ := append_ints W w1.heap.size 38 _ _ _ f1 _ _ _ _ i2 (by omega) hS.size
    exact ⟨v', w', exec_append rfl rfl e2 r1, r2, r3, r4⟩
  · refine step_lit (cs := #[]) rfl rfl (slot_lt hsz (by kernel_rfl)) rfl (by decide) hS.size ?_ (hS.alloc hS.size _)
    go_simp
  · have e2 := getd (hold 3 rfl)
    refine step_val rfl rfl (slot_lt hsz (by kernel_rfl)) ?_ hS
    go_simp
  · obtain ⟨f1, _⟩ := hn
    have e1 := getd (show a.tmps.getD 14 undef = _ from f1)
    have c1 := (B2.below hS B2.lt).c0
    refine step_val rfl rfl (slot_lt hsz (by kernel_rfl)) ?_ hS
    go_simp
  · obtain ⟨f1, f2, _⟩ := hn
    have f1 : W.ownsRow w1.heap.size 3 1 (a.tmps.getD 13 undef) 0 ([]) := f1
    have f2 : a.tmps.getD 15 undef = _ := f2
    refine step_more rfl rfl (slot_lt hsz (by kernel_rfl)) rfl rfl ?_ (fun w' hg => hS.grown hg hS.size fun k hk => (f1.lt k hk).1)
    obtain ⟨v', w', r1, r2, r3, r4⟩ := append_ints W w1.heap.size 38 _ _ _ f1 _ _ _ _ (h2.step hS) (by omega) hS.size
    exact ⟨v', w', exec_append rfl rfl f2 r1, r2, r3, r4⟩
  · have e2 := getd (hold 3 rfl)
    refine step_val rfl rfl (slot_lt hsz (by kernel_rfl)) ?_ hS
    go_simp
  · obtain ⟨f1, _⟩ := hn
    have e1 := getd (show a.tmps.getD 17 undef = _ from f1)
    have c1 := (B2.below hS B2.lt).c1
    refine step_val rfl rfl (slot_lt hsz (by kernel_rfl)) ?_ hS
    go_simp
  · obtain ⟨f1, _⟩ := hn
    have e1 := getd (show a.tmps.getD 18 undef = _ from f1)
    refine step_lit (cs := #[.int .i64 L]) rfl rfl (slot_lt hsz (by kernel_rfl)) rfl (by decide) hS.size ?_ (hS.alloc hS.size _)
    go_simp
  · obtain ⟨f1, f2, _⟩ := hn
    have f1 : W.ownsRow w1.heap.size 3 1 (a.tmps.getD 16 undef) (0 + n) ([] ++ vals ys) := f1
    have f2 : W.ownsRow w1.heap.size 3 1 (a.tmps.getD 19 undef) 1 (vals [L]) := f2
    obtain ⟨A2, c2, e2, i2⟩ := own_ints f2 (by omega) (HL)
    refine step_more rfl rfl (slot_lt hsz (by kernel_rfl)) rfl rfl ?_ (fun w' hg => hS.grown hg hS.size fun k hk => (f1.lt k hk).1)
    obtain ⟨v', w', r1, r2, r3, r4⟩ := append_ints W w1.heap.size 38 _ _ _ f1 _ _ _ _ i2 (by omega) hS.size
    exact ⟨v', w', exec_append rfl rfl e2 r1, r2, r3, r4⟩
  · obtain ⟨f1, f2, _⟩ := hn
    have f1 : W.ownsRow w1.heap.size 3 1 (a.tmps.getD 12 undef) ((0 + n) + 1) (([] ++ vals xs) ++ vals [K]) := f1
    have f2 : W.ownsRow w1.heap.size 3 1 (a.tmps.getD 20 undef) ((0 + n) + 1) (([] ++ vals ys) ++ vals [L]) := f2
    rw [List.nil_append, ← vals_app, Nat.zero_add] at f1 f2
    obtain ⟨A1, c1, e1, i1⟩ := own_ints f1 (by omega) (HKs.out)
    obtain ⟨A2, c2, e2, i2⟩ := own_ints f2 (by omega) (HLs.out)
    have e1 := getd e1
    have e2 := getd e2
    refine step_call (f := 130) (args := #[.slice A1 (n + 1) c1, .slice A2 (n + 1) c2]) rfl rfl (slot_lt hsz (by kernel_rfl)) ?_ ((ref_order W A1 A2 (n + 1) c1 c2 _ _ i1 i2).mono ?_)
    · go_simp
    · rintro e w' ⟨rfl, k, rfl⟩
      exact ⟨rfl, hS.trans ((below_of_drewN k).mono hS.size), ⟨rfl, rfl, rfl, Nat.le_refl _, fun _ _ _ => rfl⟩⟩
  · obtain ⟨f1, _⟩ := hn
    have e1 := getd (show a.tmps.getD 21 undef = _ from f1)
    refine step_val rfl rfl (slot_lt hsz (by kernel_rfl)) ?_ hS
    go_simp
theorem ordL_snoc : ∀ (xs ys : List Int) (K L : Int), xs.length = ys.length → ordL (xs ++ [K]) (ys ++ [L]) = ordE xs K ys L := by
  intro xs
  induction xs with
  | nil => intro ys K L h; cases ys with
    | nil => simp [ordE, ordL, cmpI]
    | cons y ys => simp at h
  | cons x xs ih => intro ys K L h; cases ys with
    | nil => simp at h
    | cons y ys =>
      have := ih ys K L (by simpa using h)
      unfold ordE at this ⊢
      simp only [List.cons_append, ordL] at this ⊢
      split
      · simp
      · split
        · simp
        · exact this
end Go.Proofs.YtkgnlloioaobiaaGreat
namespace Go.Proofs.YtkgnlloioaobiaaGreat
open Go.RowKit
def rankI (q : Int) : Int := if q = 1 then 0 else if q = 0 then 1 else 2
theorem ref_rank (q : Int) (w : World) : Calls Tryz.prog 131 #[.int .i64 q] w fun e w' => e = .returned (.int .i64 (rankI q)) ∧ w = w' := by
  by_cases h1 : q = 1
  · subst h1
    go_enter Tryz.func131, Tryz.ntmps131
    go_wp2
    go_ret
    exact ⟨rfl, rfl⟩
  · by_cases h0 : q = 0
    · subst h0
      go_enter Tryz.func131, Tryz.ntmps131
      go_wp2
      go_ret
      exact ⟨rfl, rfl⟩
    · have HR := Lib.hid (show rankI q = 2 by unfold rankI; rw [if_neg h1, if_neg h0])
      have q1 : (q == 1) = false := by simpa using h1
      have q0 : (q == 0) = false := by simpa using h0
      clear h1 h0
      go_enter Tryz.func131, Tryz.ntmps131
      go_wp2
      go_ret
      exact ⟨ret1 (vint HR.out.symm), rfl⟩
end Go.Proofs.YtkgnlloioaobiaaGreat
namespace Go.Proofs.YtkgnlloioaobiaaGreat
open Go.RowKit
def ordC (q M : Int) (xs : List Int) (K : Int) (q' M' : Int) (ys : List Int) (L : Int) : Int := leadI [cmpI (rankI q) (rankI q'), cmpI M M', ordE xs K ys L]
theorem rank_bd (q : Int) : 0 ≤ rankI q ∧ rankI q ≤ 2 := by unfold rankI; split <;> (try split) <;> omega
theorem ordL_two (a b c d : Int) : ordL [a, b] [c, d] = if cmpI a c = 0 then cmpI b d else cmpI a c := by
  unfold cmpI ordL ordL ordL
  split <;> (try split) <;> (try split) <;> (try split) <;> simp_all
def rcFacts (b1 b2 : Nat) (q M q' M' : Int) (B : Nat) : Nat → Fact B
  | 0 => .val (.pointer (some ⟨b1, 0, none⟩))
  | 1 => .val (.int .i64 q)
  | 2 => .val (.int .i64 (rankI q))
  | 3 => .val (.pointer (some ⟨b1, 1, none⟩))
  | 4 => .val (.int .i64 M)
  | 5 => .own 3 2 (vals [rankI q, M])
  | 6 => .val (.pointer (some ⟨b2, 0, none⟩))
  | 7 => .val (.int .i64 q')
  | 8 => .val (.int .i64 (rankI q'))
  | 9 => .val (.pointer (some ⟨b2, 1, none⟩))
  | 10 => .val (.int .i64 M')
  | 11 => .own 3 2 (vals [rankI q', M'])
  | 12 => .val (.int .i64 (ordL [rankI q, M] [rankI q', M']))
  | 13 => .val (.int .i64 (ordL [rankI q, M] [rankI q', M']))
  | _ => .any
def rcPlan : Plan where
  slots := [6, 7, 8, 9, 10, 11, 12, 13, 14, 15, 16, 17, 18, 5]
  kill := [[], [], [], [], [], [], [], [], [], [], [], [], [], []]
  need := [[], [0], [1], [], [3], [2, 4], [], [6], [7], [], [9], [8, 10], [5, 11], [12]]
section
variable (q M : Int) (A : Option Addr) (n c : Nat) (K : Int) (xs : List Int) (q' M' : Int) (A' : Option Addr) (n' c' : Nat) (L : Int) (ys : List Int) (w : World) (hI : IntsAt w A n xs) (hI' : IntsAt w A' n' ys)
include hI hI'
set_option maxHeartbeats 4000000 in
theorem rcond_cmp (hnn : n = n') (hn12 : n ≤ 12) (hM : -9223372036854775808 ≤ M ∧ M ≤ 9223372036854775807) (hM' : -9223372036854775808 ≤ M' ∧ M' ≤ 9223372036854775807) (hK : -9223372036854775808 ≤ K ∧ K ≤ 9223372036854775807) (hL : -9223372036854775808 ≤ L ∧ L ≤ 9223372036854775807) : Calls Tryz.prog 107 #[condV q M A n c K, condV q' M' A' n' c' L] w fun e w' => e = .returned (.int .i64 (ordC q M xs K q' M' ys L)) ∧ Below w.heap.size w w' := by
  have hll : xs.length = ys.length := by rw [hI.len, hI'.len, hnn]
  have hB := below_step (below_alloc w (.cells #[.int .i64 q, .int .i64 M, .slice A n c, .int .i64 K] 56)) (below_alloc _ (.cells #[.int .i64 q', .int .i64 M', .slice A' n' c', .int .i64 L] 56)); have h1 := hI.step hB; have h2 := hI'.step hB; have B1 := (CBox.new w q M A n c K).alloc (.cells #[.int .i64 q', .int .i64 M', .slice A' n' c', .int .i64 L] 56); have B2 := CBox.new (w.alloc (.cells #[.int .i64 q, .int .i64 M, .slice A n c, .int .i64 K] 56)) q' M' A' n' c' L; simp only [World.size_alloc] at B2; have c0 := B1.c0; have c1 := B1.c1; have c2 := B1.c2; have c3 := B1.c3; have d0 := B2.c0; have d1 := B2.c1; have d2 := B2.c2; have d3 := B2.c3; clear hI hI'
  subst hnn
  have HW1 := Lib.hid (show ∀ x ∈ [rankI q, M], -9223372036854775808 ≤ x ∧ x ≤ 9223372036854775807 by
    intro x hx
    have k1 := rank_bd q
    simp only [List.mem_cons, List.not_mem_nil, or_false] at hx
    rcases hx with rfl | rfl <;> omega)
  have HW2 := Lib.hid (show ∀ x ∈ [rankI q', M'], -9223372036854775808 ≤ x ∧ x ≤ 9223372036854775807 by
    intro x hx
    have k1 := rank_bd q'
    simp only [List.mem_cons, List.not_mem_nil, or_false] at hx
    rcases hx with rfl | rfl <;> omega)
  have HO := Lib.hid (ordL_snoc xs ys K L hll)
  have hOC : ordC q M xs K q' M' ys L = if ordL [rankI q, M] [rankI q', M'] = 0 then ordE xs K ys L else ordL [rankI q, M] [rankI q', M'] := by
    rw [ordL_two]
    unfold ordC leadI leadI leadI leadI
    generalize cmpI (rankI q) (rankI q') = a
    generalize cmpI M M' = b
    generalize ordE xs K ys L = o
    by_cases ha : a = 0
    · rw [if_pos ha, if_pos ha]
      by_cases hb : b = 0
      · rw [if_pos hb, if_pos hb]; split <;> simp_all
      · rw [if_neg hb, if_neg hb]
    · rw [if_neg ha, if_neg ha, if_neg ha]
  obtain ⟨v, hvv⟩ : ∃ v, ordC q M xs K q' M' ys L = v := ⟨_, rfl⟩
  rw [hvv]
  have HVV := Lib.hid (hvv.symm.trans hOC)
  clear hll hOC hvv
  go_enter Tryz.func107, Tryz.ntmps107
  go_wp2
  generalize hw1 : ((w.alloc (.cells #[.int .i64 q, .int .i64 M, .slice A n c, .int .i64 K] 56)).alloc (.cells #[.int .i64 q', .int .i64 M', .slice A' n c', .int .i64 L] 56)) = w1 at *
  clear hw1 c0 c1 c2 c3 d0 d1 d2 d3
  go_cut [5] from 6 (fun v W => v = .int .i64 (ordL [rankI q, M] [rankI q', M']) ∧ Below w1.heap.size w1 W)
  case first =>
    rename_i hJ hK2
    refine wp_region_plan (by rfl) rcPlan (rcFacts w.heap.size (w.heap.size + 1) q M q' M' w1.heap.size) (fun W => Below w1.heap.size w1 W) (by kernel_rfl) rfl (Below.refl _ _).drew ?_ ?_
    case refine_2 =>
      intro a W hS hsz hdf hold hf
      refine hK2 _ _ (Met.intro (hJ _ _ ?_))
      repeat apply Exists.intro
      refine ⟨?_, act_lit (n := 27) rcPlan hsz hdf hold⟩
      exact ⟨hf 13 (by decide) (by decide), hS⟩
    refine ⟨?_, ?_, ?_, ?_, ?_, ?_, ?_, ?_, ?_, ?_, ?_, ?_, ?_, ?_, trivial⟩ <;> intro a W hS hold hn hap hsz0 <;> have hsz : Hid (a.tmps.size = 27) := Lib.hid hsz0 <;> clear hsz0
    · have o1 := getd (hold 2 rfl)
      refine step_val rfl rfl (slot_lt hsz (by kernel_rfl)) ?_ hS
      go_simp
    · obtain ⟨f1, _⟩ := hn
      have e1 := getd (show a.tmps.getD 6 undef = _ from f1)
      have c1 := (B1.below hS B1.lt).c0
      refine step_val rfl rfl (slot_lt hsz (by kernel_rfl)) ?_ hS
      go_simp
    · obtain ⟨f1, _⟩ := hn
      have e1 := getd (show a.tmps.getD 7 undef = _ from f1)
      refine step_call (f := 131) (args := #[.int .i64 q]) rfl rfl (slot_lt hsz (by kernel_rfl)) ?_ ((ref_rank q W).mono ?_)
      · go_simp
      · rintro e w' ⟨rfl, rfl⟩; exact ⟨rfl, hS, grown_same _⟩
    · have o1 := getd (hold 2 rfl)
      refine step_val rfl rfl (slot_lt hsz (by kernel_rfl)) ?_ hS
      go_simp
    · obtain ⟨f1, _⟩ := hn
      have e1 := getd (show a.tmps.getD 9 undef = _ from f1)
      have c1 := (B1.below hS B1.lt).c1
      refine step_val rfl rfl (slot_lt hsz (by kernel_rfl)) ?_ hS
      go_simp
    · obtain ⟨f1, f2, _⟩ := hn
      have e1 := getd (show a.tmps.getD 8 undef = _ from f1)
      have e2 := getd (show a.tmps.getD 10 undef = _ from f2)
      refine step_lit (cs := (vals [rankI q, M]).toArray) rfl rfl (slot_lt hsz (by kernel_rfl)) rfl (by decide) hS.size ?_ (hS.alloc hS.size _)
      go_simp
      try rfl
    · have o1 := getd (hold 3 rfl)
      refine step_val rfl rfl (slot_lt hsz (by kernel_rfl)) ?_ hS
      go_simp
    · obtain ⟨f1, _⟩ := hn
      have e1 := getd (show a.tmps.getD 12 undef = _ from f1)
      have c1 := (B2.below hS B2.lt).c0
      refine step_val rfl rfl (slot_lt hsz (by kernel_rfl)) ?_ hS
      go_simp
    · obtain ⟨f1, _⟩ := hn
      have e1 := getd (show a.tmps.getD 13 undef = _ from f1)
      refine step_call (f := 131) (args := #[.int .i64 q']) rfl rfl (slot_lt hsz (by kernel_rfl)) ?_ ((ref_rank q' W).mono ?_)
      · go_simp
      · rintro e w' ⟨rfl, rfl⟩; exact ⟨rfl, hS, grown_same _⟩
    · have o1 := getd (hold 3 rfl)
      refine step_val rfl rfl (slot_lt hsz (by kernel_rfl)) ?_ hS
      go_simp
    · obtain ⟨f1, _⟩ := hn
      have e1 := getd (show a.tmps.getD 15 undef = _ from f1)
      have c1 := (B2.below hS B2.lt).c1
      refine step_val rfl rfl (slot_lt hsz (by kernel_rfl)) ?_ hS
      go_simp
    · obtain ⟨f1, f2, _⟩ := hn
      have e1 := getd (show a.tmps.getD 14 undef = _ from f1)
      have e2 := getd (show a.tmps.getD 16 undef = _ from f2)
      refine step_lit (cs := (vals [rankI q', M']).toArray) rfl rfl (slot_lt hsz (by kernel_rfl)) rfl (by decide) hS.size ?_ (hS.alloc hS.size _)
      go_simp
      try rfl
    · obtain ⟨f1, f2, _⟩ := hn
      have f1 : W.ownsRow w1.heap.size 3 1 (a.tmps.getD 11 undef) (2) (vals [rankI q, M]) := f1
      have f2 : W.ownsRow w1.heap.size 3 1 (a.tmps.getD 17 undef) (2) (vals [rankI q', M']) := f2
      obtain ⟨A8, c8, e8, i8⟩ := own_ints f1 (by omega) HW1.out
      obtain ⟨A9, c9, e9, i9⟩ := own_ints f2 (by omega) HW2.out
      have e1 := getd e8
      have e2 := getd e9
      refine step_call (f := 130) (args := #[.slice A8 2 c8, .slice A9 2 c9]) rfl rfl (slot_lt hsz (by kernel_rfl)) ?_ ((ref_order W A8 A9 2 c8 c9 _ _ i8 i9).mono ?_)
      · go_simp
      · rintro e w' ⟨rfl, k, rfl⟩; exact ⟨rfl, hS.trans ((below_of_drewN k).mono hS.size), ⟨rfl, rfl, rfl, Nat.le_refl _, fun _ _ _ => rfl⟩⟩
    · obtain ⟨f1, _⟩ := hn
      have e1 := getd (show a.tmps.getD 18 undef = _ from f1)
      refine step_val rfl rfl (slot_lt hsz (by kernel_rfl)) ?_ hS
      go_simp
  case rest =>
    obtain ⟨rfl, hb⟩ := hcut
    replace hB := below_step hB hb; replace h1 := h1.step hb; replace h2 := h2.step hb; replace B1 := B1.step hb; replace B2 := B2.step hb; have c0 := B1.c0; have c1 := B1.c1; have c2 := B1.c2; have c3 := B1.c3; have d0 := B2.c0; have d1 := B2.c1; have d2 := B2.c2; have d3 := B2.c3
    clear hb
    generalize ordL [rankI q, M] [rankI q', M'] = o at *
    by_cases ho : o = 0
    · subst ho
      go_wp2_with (go_at_call 132; refine (ref_cmp _ _ _ _ xs _ _ _ ys _ h1 h2 hn12 hK hL).mono ?_; rintro e w2 ⟨rfl, hb⟩; rw [HO.out]; replace hB := below_step hB hb)
      go_ret
      exact ⟨ret1 (vint (by rw [HVV.out]; simp)), hB⟩
    · have HNE := Lib.hid ho
      have q1 : (o != 0) = true := by simpa using ho
      have q2 : (o == 0) = false := by simpa using ho
      clear ho
      go_wp2
      go_ret
      exact ⟨ret1 (vint (by rw [HVV.out]; simp [HNE.out])), hB⟩
end
end Go.Proofs.YtkgnlloioaobiaaGreat
namespace Go.Proofs.YtkgnlloioaobiaaGreat
open Go.RowKit
def keyD (d : CD) : List Int := rankI d.q :: d.M :: (d.xs ++ [d.K])
def ordD (a b : CD) : Int := ordC a.q a.M a.xs a.K b.q b.M b.xs b.K
theorem lex_swap : ∀ xs ys : List Int, ordL ys xs = -ordL xs ys
  | [], [] => rfl
  | [], _ :: _ => rfl
  | _ :: _, [] => rfl
  | x :: xs, y :: ys => by
    have := lex_swap xs ys
    simp only [ordL]
    split <;> split <;> (try split) <;> omega
theorem lex_zero : ∀ xs ys : List Int, xs.length = ys.length → (ordL xs ys = 0 ↔ xs = ys)
  | [], [], _ => by simp [ordL]
  | x :: xs, y :: ys, h => by
    have := lex_zero xs ys (by simpa using h)
    simp only [ordL, List.cons.injEq]
    rw [← this]
    split
    · constructor
      · omega
      · omega
    · split
      · constructor <;> omega
      · constructor
        · intro h'; exact ⟨by omega, h'⟩
        · intro h'; exact h'.2
theorem lex_le : ∀ xs ys zs : List Int, xs.length = ys.length → ys.length = zs.length → ordL xs ys ≤ 0 → ordL ys zs ≤ 0 → ordL xs zs ≤ 0
  | [], [], [], _, _, _, _ => by decide
  | x :: xs, y :: ys, z :: zs, h1, h2, h3, h4 => by
    have ih := lex_le xs ys zs (by simpa using h1) (by simpa using h2)
    simp only [ordL] at h3 h4 ⊢
    split at h3
    · split at h4
      · rw [if_pos (by omega)]; omega
      · split at h4
        · omega
        · rw [if_pos (by omega)]; omega
    · split at h3
      · omega
      · split at h4
        · rw [if_pos (by omega)]; omega
        · split at h4
          · omega
          · rw [if_neg (by omega), if_neg (by omega)]; exact ih h3 h4
theorem ordD_key {a b : CD} (h : a.xs.length = b.xs.length) : ordD a b = ordL (keyD a) (keyD b) := by
  unfold ordD ordC keyD
  have h2 := ordL_snoc a.xs b.xs a.K b.K h
  simp only [ordL]
  rw [h2]
  unfold leadI leadI leadI leadI
  generalize ordE a.xs a.K b.xs b.K = o
  unfold cmpI
  by_cases h3 : rankI a.q < rankI b.q
  · simp [h3]
  · by_cases h4 : rankI b.q < rankI a.q
    · simp [h3, h4]
    · by_cases h5 : a.M < b.M
      · simp [h3, h4, h5]
      · by_cases h6 : b.M < a.M
        · simp [h3, h4, h5, h6]
        · simp [h3, h4, h5, h6]
          intro h7; exact h7.symm
theorem key_len (d : CD) : (keyD d).length = d.xs.length + 3 := by simp [keyD]
theorem key_inj {a b : CD} (ha : a.q = 0 ∨ a.q = 1 ∨ a.q = 2) (hb : b.q = 0 ∨ b.q = 1 ∨ b.q = 2) (h : keyD a = keyD b) : a = b := by
  obtain ⟨q, M, xs, K⟩ := a
  obtain ⟨q', M', ys, L⟩ := b
  unfold keyD at h
  simp only [List.cons.injEq] at h
  obtain ⟨h1, h2, h3⟩ := h
  obtain ⟨h4, h5⟩ := List.append_inj' h3 rfl
  have hq : q = q' := by
    have ha : q = 0 ∨ q = 1 ∨ q = 2 := ha
    have hb : q' = 0 ∨ q' = 1 ∨ q' = 2 := hb
    have h1 : rankI q = rankI q' := h1
    rcases ha with rfl | rfl | rfl <;> rcases hb with rfl | rfl | rfl <;> first | rfl | (exfalso; revert h1; decide)
  have h2 : M = M' := h2
  have h4 : xs = ys := h4
  have h5 : K = L := by simpa using h5
  subst hq h2 h4 h5
  rfl
end Go.Proofs.YtkgnlloioaobiaaGreat
namespace Go.Proofs.YtkgnlloioaobiaaGreat
section
variable {α : Type} (le : α → α → Bool)
def insL (a : α) : List α → List α
  | [] => [a]
  | b :: l => if le a b = true then a :: b :: l else b :: insL a l
def sortL : List α → List α
  | [] => []
  | a :: l => insL le a (sortL l)
theorem insL_perm (a : α) : ∀ l : List α, (insL le a l).Perm (a :: l)
  | [] => List.Perm.refl _
  | b :: l => by
    unfold insL
    split
    · exact List.Perm.refl _
    · exact ((insL_perm a l).cons b).trans (List.Perm.swap a b l)
theorem sortL_perm : ∀ l : List α, (sortL le l).Perm l
  | [] => List.Perm.refl _
  | a :: l => (insL_perm le a (sortL le l)).trans ((sortL_perm l).cons a)
variable (tot : ∀ a b, le a b = true ∨ le b a = true) (tr : ∀ a b c, le a b = true → le b c = true → le a c = true)
include tot tr in
theorem insL_sorted (a : α) : ∀ l : List α, l.Pairwise (fun x y => le x y = true) → (insL le a l).Pairwise (fun x y => le x y = true)
  | [], _ => by simp [insL]
  | b :: l, h => by
    have hb := List.pairwise_cons.1 h
    unfold insL
    split
    · rename_i hab
      refine List.pairwise_cons.2 ⟨fun x hx => ?_, h⟩
      rcases List.mem_cons.1 hx with rfl | hx
      · exact hab
      · exact tr _ _ _ hab (hb.1 x hx)
    · rename_i hab
      refine List.pairwise_cons.2 ⟨fun x hx => ?_, insL_sorted a l hb.2⟩
      rcases List.mem_cons.1 ((insL_perm le a l).mem_iff.1 hx) with rfl | hx
      · exact (tot _ _).resolve_left hab
      · exact hb.1 x hx
include tot tr in
theorem sortL_sorted : ∀ l : List α, (sortL le l).Pairwise (fun x y => le x y = true)
  | [] => List.Pairwise.nil
  | a :: l => insL_sorted le tot tr a _ (sortL_sorted l)
theorem sorted_one : ∀ (l l' : List α), l.Perm l' → (∀ a ∈ l, ∀ b ∈ l, le a b = true → le b a = true → a = b) → l.Pairwise (fun x y => le x y = true) → l'.Pairwise (fun x y => le x y = true) → l = l'
  | [], l', hp, _, _, _ => (List.nil_perm.1 hp).symm
  | a :: l, [], hp, _, _, _ => absurd hp.length_eq (by simp)
  | a :: l, b :: l', hp, anti, h, h' => by
    have ha := List.pairwise_cons.1 h
    have hb := List.pairwise_cons.1 h'
    have e : a = b := by
      rcases List.mem_cons.1 (hp.mem_iff.1 (List.mem_cons_self ..)) with e | ha'
      · exact e
      · rcases List.mem_cons.1 (hp.mem_iff.2 (List.mem_cons_self ..)) with e | hb'
        · exact e.symm
        · exact anti a (List.mem_cons_self ..) b (List.mem_cons_of_mem _ hb') (ha.1 b hb') (hb.1 a ha')
    subst e
    rw [sorted_one l l' ((List.perm_cons a).1 hp) (fun x hx y hy => anti x (List.mem_cons_of_mem _ hx) y (List.mem_cons_of_mem _ hy)) ha.2 hb.2]
end
def leD (a b : CD) : Bool := decide ((keyD a).length < (keyD b).length) || (decide ((keyD a).length = (keyD b).length) && decide (ordL (keyD a) (keyD b) ≤ 0))
theorem leD_iff {a b : CD} : leD a b = true ↔ (keyD a).length < (keyD b).length ∨ ((keyD a).length = (keyD b).length ∧ ordL (keyD a) (keyD b) ≤ 0) := by
  unfold leD; simp
theorem leD_tot (a b : CD) : leD a b = true ∨ leD b a = true := by
  rw [leD_iff, leD_iff]
  have := lex_swap (keyD a) (keyD b)
  omega
theorem leD_tr (a b c : CD) (h : leD a b = true) (h' : leD b c = true) : leD a c = true := by
  rw [leD_iff] at *
  rcases h with h | ⟨h, h0⟩
  · left; omega
  · rcases h' with h' | ⟨h', h1⟩
    · left; omega
    · exact .inr ⟨h.trans h', lex_le _ _ _ h h' h0 h1⟩
def sortD (l : List CD) : List CD := sortL leD l
theorem sortD_eq {n : Nat} {l l' : List CD} (hq : ∀ d ∈ l, d.q = 0 ∨ d.q = 1 ∨ d.q = 2) (hn : ∀ d ∈ l, d.xs.length = n) (hp : l'.Perm l) (hs : l'.Pairwise fun a b => ordD a b ≤ 0) : l' = sortD l := by
  have hn' : ∀ d ∈ l', d.xs.length = n := fun d hd => hn d (hp.mem_iff.1 hd)
  have hq' : ∀ d ∈ l', d.q = 0 ∨ d.q = 1 ∨ d.q = 2 := fun d hd => hq d (hp.mem_iff.1 hd)
  refine sorted_one leD l' (sortD l) (hp.trans (sortL_perm leD l).symm) (fun a ha b hb h1 h2 => ?_) ?_ (sortL_sorted leD leD_tot leD_tr l)
  · have e : (keyD a).length = (keyD b).length := by rw [key_len, key_len, hn' a ha, hn' b hb]
    rw [leD_iff] at h1 h2
    have := lex_swap (keyD a) (keyD b)
    exact key_inj (hq' a ha) (hq' b hb) ((lex_zero _ _ e).1 (by omega))
  · refine List.Pairwise.imp_of_mem (fun {a b} ha hb h => ?_) hs
    have e : a.xs.length = b.xs.length := by rw [hn' a ha, hn' b hb]
    rw [ordD_key e] at h
    exact leD_iff.2 (.inr ⟨by rw [key_len, key_len, e], h⟩)
end Go.Proofs.YtkgnlloioaobiaaGreat
namespace Go.Proofs.YtkgnlloioaobiaaGreat
open Go.RowKit Go.Sort
theorem wide_rank (q : Int) (w : World) : Calls Tryz.prog 116 #[.int .i64 q] w fun e w' => e = .returned (.int .i64 (rankI q)) ∧ w = w' := by
  by_cases h1 : q = 1
  · subst h1
    go_enter Tryz.func116, Tryz.ntmps116
    go_wp2
    go_ret
    exact ⟨rfl, rfl⟩
  · by_cases h0 : q = 0
    · subst h0
      go_enter Tryz.func116, Tryz.ntmps116
      go_wp2
      go_ret
      exact ⟨rfl, rfl⟩
    · have HR := Lib.hid (show rankI q = 2 by unfold rankI; rw [if_neg h1, if_neg h0])
      have q1 : (q == 1) = false := by simpa using h1
      have q0 : (q == 0) = false := by simpa using h0
      clear h1 h0
      go_enter Tryz.func116, Tryz.ntmps116
      go_wp2
      go_ret
      exact ⟨ret1 (vint HR.out.symm), rfl⟩
section
variable {q M : Int} {xs : List Int} {K q' M' : Int} {ys : List Int} {L : Int}
theorem ordC_1 {a : Int} (h : cmpI (rankI q) (rankI q') = a) (h1 : a ≠ 0) : ordC q M xs K q' M' ys L = a := by
  unfold ordC; rw [h]; simp [leadI, h1]
theorem ordC_2 {a b : Int} (h : cmpI (rankI q) (rankI q') = a) (h1 : a = 0) (h' : cmpI M M' = b) (h2 : b ≠ 0) : ordC q M xs K q' M' ys L = b := by
  unfold ordC; rw [h, h', h1]; simp [leadI, h2]
theorem ordC_3 {a b c : Int} (h : cmpI (rankI q) (rankI q') = a) (h1 : a = 0) (h' : cmpI M M' = b) (h2 : b = 0) (h'' : ordL xs ys = c) (h3 : c ≠ 0) : ordC q M xs K q' M' ys L = c := by
  unfold ordC ordE; rw [h, h', h1, h2, h'']; simp [leadI, h3]
theorem ordC_4 {a b c d : Int} (h : cmpI (rankI q) (rankI q') = a) (h1 : a = 0) (h' : cmpI M M' = b) (h2 : b = 0) (h'' : ordL xs ys = c) (h3 : c = 0) (h4 : cmpI K L = d) : ordC q M xs K q' M' ys L = d := by
  unfold ordC ordE; rw [h, h', h1, h2, h'', h4, h3]; simp [leadI]; exact fun h => h.symm
end
theorem order_end (w : World) (o o' : Obj) (n : Nat) : ∃ q os', ((w.alloc o).alloc o').drewN n = grow (w.drewN q) os' :=
  ⟨n, #[o, o'], by rw [alloc_eq_grow, alloc_eq_grow, grow_grow]; rfl⟩
theorem ints_drew {w : World} {A : Option Addr} {n : Nat} {xs : List Int} (h : IntsAt w A n xs) (k : Nat) : IntsAt (w.drewN k) A n xs := ⟨h.len, h.small, h.wf, h.cells⟩
set_option maxHeartbeats 4000000 in
theorem wide_order (q M : Int) (A : Option Addr) (n c : Nat) (K : Int) (xs : List Int) (q' M' : Int) (A' : Option Addr) (c' : Nat) (L : Int) (ys : List Int) (w : World) (hI : IntsAt w A n xs) (hI' : IntsAt w A' n ys) :
    Calls Tryz.prog 94 #[condV q M A n c K, condV q' M' A' n c' L] w fun e w' => e = .returned (.int .i64 (ordC q M xs K q' M' ys L)) ∧ ∃ q os', w' = grow (w.drewN q) os' := by
  have b1 := below_alloc w (.cells #[.int .i64 q, .int .i64 M, .slice A n c, .int .i64 K] 56)
  have hB := below_step b1 (below_alloc _ (.cells #[.int .i64 q', .int .i64 M', .slice A' n c', .int .i64 L] 56))
  have h1 := hI.step hB
  have h2 := hI'.step hB
  have B1 := (CBox.new w q M A n c K).alloc (.cells #[.int .i64 q', .int .i64 M', .slice A' n c', .int .i64 L] 56)
  have B2 := CBox.new (w.alloc (.cells #[.int .i64 q, .int .i64 M, .slice A n c, .int .i64 K] 56)) q' M' A' n c' L
  rw [World.size_alloc] at B2
  have c0 := B1.c0
  have c1 := B1.c1
  have c2 := B1.c2
  have c3 := B1.c3
  have d0 := B2.c0
  have d1 := B2.c1
  have d2 := B2.c2
  have d3 := B2.c3
  obtain ⟨a, ha⟩ : ∃ a, cmpI (rankI q) (rankI q') = a := ⟨_, rfl⟩
  have HA := Lib.hid ha
  clear hI hI' b1
  by_cases ha0 : a = 0
  · subst ha0
    obtain ⟨b, hb⟩ : ∃ b, cmpI M M' = b := ⟨_, rfl⟩
    have HB := Lib.hid hb
    have T1 : True := trivial
    by_cases hb0 : b = 0
    · subst hb0
      obtain ⟨cc, hc⟩ : ∃ cc, ordL xs ys = cc := ⟨_, rfl⟩
      have HC := Lib.hid hc
      by_cases hc0 : cc = 0
      · subst hc0
        obtain ⟨d, hd⟩ : ∃ d, cmpI K L = d := ⟨_, rfl⟩
        have HD := Lib.hid hd
        have HE := Lib.hid (ordC_4 ha rfl hb rfl hc rfl hd)
        clear ha hb hc hd
        go_enter Tryz.func94, Tryz.ntmps94
        go_wp2
        go_quiet (first | (go_at_call 116; exact Calls.quiet_of_same ((wide_rank _ _).mono fun _ _ h => ⟨h.1, h.2.symm⟩)) | (go_at_call 115; exact Calls.quiet_of_same ((cmp_compare _ _ _).mono fun _ _ h => ⟨h.1, h.2.symm⟩)))
        rw [HA.out]
        go_wp2_with (first | (go_at_call 115; have t1 := T1; clear T1 t1; refine (cmp_compare _ _ _).mono ?_; rintro e w' ⟨rfl, rfl⟩; rw [HB.out]) | (go_at_call 117; refine (slices_compare _ _ _ _ _ _ xs ys (ints_drew h1 _) (ints_drew h2 _)).mono ?_; rintro e w' ⟨rfl, rfl⟩; rw [HC.out]) | (go_at_call 115; refine (cmp_compare _ _ _).mono ?_; rintro e w' ⟨rfl, rfl⟩; rw [HD.out]))
        go_ret
        exact ⟨ret1 (vint HE.out.symm), order_end _ _ _ _⟩
      · have HE := Lib.hid (ordC_3 (K := K) (L := L) ha rfl hb rfl hc hc0)
        have q1 : (cc != 0) = true := by simpa using hc0
        have q2 : (cc == 0) = false := by simpa using hc0
        have HD := Lib.hid (rfl : cmpI K L = cmpI K L)
        clear ha hb hc hc0
        go_enter Tryz.func94, Tryz.ntmps94
        go_wp2
        go_quiet (first | (go_at_call 116; exact Calls.quiet_of_same ((wide_rank _ _).mono fun _ _ h => ⟨h.1, h.2.symm⟩)) | (go_at_call 115; exact Calls.quiet_of_same ((cmp_compare _ _ _).mono fun _ _ h => ⟨h.1, h.2.symm⟩)))
        rw [HA.out]
        go_wp2_with (first | (go_at_call 115; have t1 := T1; clear T1 t1; refine (cmp_compare _ _ _).mono ?_; rintro e w' ⟨rfl, rfl⟩; rw [HB.out]) | (go_at_call 117; refine (slices_compare _ _ _ _ _ _ xs ys (ints_drew h1 _) (ints_drew h2 _)).mono ?_; rintro e w' ⟨rfl, rfl⟩; rw [HC.out]) | (go_at_call 115; refine (cmp_compare _ _ _).mono ?_; rintro e w' ⟨rfl, rfl⟩; rw [HD.out]))
        go_ret
        exact ⟨ret1 (vint HE.out.symm), order_end _ _ _ _⟩
    · have HE := Lib.hid (ordC_2 (xs := xs) (K := K) (ys := ys) (L := L) ha rfl hb hb0)
      have q1 : (b != 0) = true := by simpa using hb0
      have q2 : (b == 0) = false := by simpa using hb0
      clear ha hb hb0
      go_enter Tryz.func94, Tryz.ntmps94
      go_wp2
      go_quiet (first | (go_at_call 116; exact Calls.quiet_of_same ((wide_rank _ _).mono fun _ _ h => ⟨h.1, h.2.symm⟩)) | (go_at_call 115; exact Calls.quiet_of_same ((cmp_compare _ _ _).mono fun _ _ h => ⟨h.1, h.2.symm⟩)))
      rw [HA.out]
      go_wp2_with (go_at_call 115; refine (cmp_compare _ _ _).mono ?_; rintro e w' ⟨rfl, rfl⟩; rw [HB.out])
      go_ret
      exact ⟨ret1 (vint HE.out.symm), order_end _ _ _ _⟩
  · have HE := Lib.hid (ordC_1 (M := M) (xs := xs) (K := K) (M' := M') (ys := ys) (L := L) ha ha0)
    have q1 : (a != 0) = true := by simpa using ha0
    have q2 : (a == 0) = false := by simpa using ha0
    clear ha ha0
    go_enter Tryz.func94, Tryz.ntmps94
    go_wp2
    go_quiet (first | (go_at_call 116; exact Calls.quiet_of_same ((wide_rank _ _).mono fun _ _ h => ⟨h.1, h.2.symm⟩)) | (go_at_call 115; exact Calls.quiet_of_same ((cmp_compare _ _ _).mono fun _ _ h => ⟨h.1, h.2.symm⟩)))
    rw [HA.out]
    go_wp2
    go_ret
    exact ⟨ret1 (vint HE.out.symm), order_end _ _ _ _⟩
end Go.Proofs.YtkgnlloioaobiaaGreat
namespace Go.Proofs.YtkgnlloioaobiaaGreat
open Go.RowKit Go.Sort
theorem equal_end (w : World) (o o' : Obj) (n : Nat) (os : Array Obj) : ∃ q os', grow (((w.alloc o).alloc o').drewN n) os = grow (w.drewN q) os' :=
  ⟨n, #[o, o'] ++ os, by rw [alloc_eq_grow, alloc_eq_grow, grow_grow, ← grow_grow (w.drewN n)]; rfl⟩
set_option maxHeartbeats 1000000 in
theorem wide_equal (q M : Int) (A : Option Addr) (n c : Nat) (K : Int) (xs : List Int) (q' M' : Int) (A' : Option Addr) (c' : Nat) (L : Int) (ys : List Int) (w : World) (hI : IntsAt w A n xs) (hI' : IntsAt w A' n ys) :
    Calls Tryz.prog 122 #[condV q M A n c K, condV q' M' A' n c' L] w fun e w' => e = .returned (.bool (ordC q M xs K q' M' ys L == 0)) ∧ ∃ q os', w' = grow (w.drewN q) os' := by
  have b1 := below_alloc w (.cells #[.int .i64 q, .int .i64 M, .slice A n c, .int .i64 K] 56)
  have hB := below_step b1 (below_alloc _ (.cells #[.int .i64 q', .int .i64 M', .slice A' n c', .int .i64 L] 56))
  have h1 := hI.step hB
  have h2 := hI'.step hB
  clear hI hI' b1
  go_enter Tryz.func122, Tryz.ntmps122
  go_wp2_with (go_at_call 94; refine (wide_order q M A n c K xs q' M' A' c' L ys _ h1 h2).mono ?_; rintro e w1 ⟨rfl, k, os, rfl⟩)
  go_ret
  exact ⟨rfl, equal_end _ _ _ _ _⟩
theorem drew2 (w : World) (a b : Nat) : (w.drewN a).drewN b = w.drewN (a + b) := by simp [World.drewN, Nat.add_assoc]
theorem list_at {xs ys : List Int} {n : Nat} (hl : xs.length = n) (hl' : ys.length = n) (h : ∀ j, j < n → xs[j]?.getD 0 = ys[j]?.getD 0) : xs = ys := by
  apply List.ext_getElem (by omega)
  intro i h1 h2
  have := h i (by omega)
  simpa [h1, h2] using this
set_option maxHeartbeats 1000000 in
theorem slices_equal (w : World) (A A' : Option Addr) (n c c' : Nat) (xs ys : List Int) (h : IntsAt w A n xs) (h' : IntsAt w A' n ys) :
    Calls Tryz.prog 145 #[.slice A n c, .slice A' n c'] w fun e w' => e = .returned (.bool (decide (xs = ys))) ∧ ∃ q, w' = w.drewN q := by
  have HL := Lib.hid h.len
  have HL' := Lib.hid h'.len
  have hsm := h.small
  go_enter Tryz.func145, Tryz.ntmps145
  go_wp2
  go_loopw [13] (fun v wr => ∃ i : Nat, i ≤ n ∧ v = .int .i64 i ∧ (∀ j, j < i → xs[j]?.getD 0 = ys[j]?.getD 0) ∧ ∃ q, wr = w.drewN q) (fun v _ => n - (intOf v).toNat)
  case atStart => exact ⟨0, Nat.zero_le _, rfl, (fun j h => absurd h (by omega)), 0, rfl⟩
  case round =>
    obtain ⟨i, hi, rfl, hg, q, rfl⟩ := hrel
    have HG := Lib.hid hg
    clear hg
    by_cases hlt : i < n
    · obtain ⟨b, off, rfl, hb, hc⟩ := h.cells (by omega)
      obtain ⟨b', off', rfl, hb', hc'⟩ := h'.cells (by omega)
      have hcell := hc i hlt
      have hcell' := hc' i hlt
      have hq1 : (i : Int) < n := by omega
      clear hc hc'
      by_cases he : xs[i]?.getD 0 = ys[i]?.getD 0
      · have HE := Lib.hid he
        have q1 : (xs[i]?.getD 0 != ys[i]?.getD 0) = false := by simpa using he
        have q2 : (xs[i]?.getD 0 == ys[i]?.getD 0) = true := by simpa using he
        clear he
        go_wp2
        go_quiet (fail)
        go_wp2
        go_roundw
        case rel => exact ⟨i + 1, by omega, by go_num, (fun j hj => by
          rcases Nat.lt_or_eq_of_le (Nat.le_of_lt_succ hj) with h | rfl
          · exact HG.out j h
          · exact HE.out), _, by first | rfl | exact drew2 _ _ _⟩
        case measure => simp [intOf]; omega
      · have HR := Lib.hid (show decide (xs = ys) = false from decide_eq_false fun e => he (by rw [e]))
        have q1 : (xs[i]?.getD 0 != ys[i]?.getD 0) = true := by simpa using he
        have q2 : (xs[i]?.getD 0 == ys[i]?.getD 0) = false := by simpa using he
        clear he
        go_wp2
        go_quiet (fail)
        go_wp2
        go_ret
        exact ⟨ret_bool HR.out.symm, _, drew2 _ _ _⟩
    · have hge : ¬ ((i : Int) < n) := by omega
      have HR := Lib.hid (show decide (xs = ys) = true from decide_eq_true (list_at HL.out HL'.out fun j hj => HG.out j (by omega)))
      go_wp2
      go_ret
      exact ⟨ret_bool HR.out.symm, _, rfl⟩
theorem slope_end (w : World) (o o' : Obj) (n : Nat) : ∃ q os', ((w.alloc o).alloc o').drewN n = grow (w.drewN q) os' :=
  ⟨n, #[o, o'], by rw [alloc_eq_grow, alloc_eq_grow, grow_grow]; rfl⟩
set_option maxHeartbeats 1000000 in
theorem same_slope (q M : Int) (A : Option Addr) (n c : Nat) (K : Int) (xs : List Int) (q' M' : Int) (A' : Option Addr) (c' : Nat) (L : Int) (ys : List Int) (w : World) (hI : IntsAt w A n xs) (hI' : IntsAt w A' n ys) :
    Calls Tryz.prog 120 #[condV q M A n c K, condV q' M' A' n c' L] w fun e w' => e = .returned (.bool (decide (xs = ys))) ∧ ∃ q os', w' = grow (w.drewN q) os' := by
  have b1 := below_alloc w (.cells #[.int .i64 q, .int .i64 M, .slice A n c, .int .i64 K] 56)
  have hB := below_step b1 (below_alloc _ (.cells #[.int .i64 q', .int .i64 M', .slice A' n c', .int .i64 L] 56))
  have h1 := hI.step hB
  have h2 := hI'.step hB
  have B1 := (CBox.new w q M A n c K).alloc (.cells #[.int .i64 q', .int .i64 M', .slice A' n c', .int .i64 L] 56)
  have B2 := CBox.new (w.alloc (.cells #[.int .i64 q, .int .i64 M, .slice A n c, .int .i64 K] 56)) q' M' A' n c' L
  rw [World.size_alloc] at B2
  have c2 := B1.c2
  have d2 := B2.c2
  clear hI hI' b1
  go_enter Tryz.func120, Tryz.ntmps120
  go_wp2_with (go_at_call 145; refine (slices_equal _ _ _ _ _ _ xs ys h1 h2).mono ?_; rintro e w1 ⟨rfl, k, rfl⟩)
  go_ret
  exact ⟨rfl, slope_end _ _ _ _⟩
end Go.Proofs.YtkgnlloioaobiaaGreat
namespace Go.Proofs.YtkgnlloioaobiaaGreat
open Go.RowKit
def sgnL (s : Int) (xs : List Int) : List Int := xs.map (s * ·)
theorem sgn_len (s : Int) (xs : List Int) : (sgnL s xs).length = xs.length := by simp [sgnL]
theorem sgn_get (s : Int) (xs : List Int) (i : Nat) : (sgnL s xs)[i]?.getD 0 = s * xs[i]?.getD 0 := by
  unfold sgnL
  rw [List.getElem?_map]
  cases xs[i]? with
  | none => simp
  | some x => rfl
theorem IBox.drewN {w : World} {b : Nat} {s : Int} (h : IBox w b s) (q : Nat) : IBox (w.drewN q) b s := h
set_option maxHeartbeats 2000000 in
theorem find_cmp (q M : Int) (A : Option Addr) (n c : Nat) (K : Int) (xs : List Int) (B : Option Addr) (cB : Nat) (ys : List Int) (b : Nat) (s : Int) (hs : s = 1 ∨ s = -1) (hy : ∀ y ∈ ys, -4611686018427387904 ≤ y ∧ y ≤ 4611686018427387904) (w : World) (hI : IntsAt w A n xs) (hJ : IntsAt w B n ys) (hb : IBox w b s) :
    Calls Tryz.prog 158 #[condV q M A n c K, .slice B n cB, .pointer (some ⟨b, 0, none⟩)] w fun e w' => e = .returned (.int .i64 (ordL xs (sgnL s ys))) ∧ Below w.heap.size w w' := by
  have hB := below_alloc w (.cells #[.int .i64 q, .int .i64 M, .slice A n c, .int .i64 K] 56)
  have h1 := hI.step hB
  have h2 := hJ.step hB
  have B1 := CBox.new w q M A n c K
  have S1 := hb.step hB
  have c2 := B1.c2
  have s0 := S1.c
  have HL := Lib.hid hI.len
  have HL' := Lib.hid hJ.len
  have HY := Lib.hid hy
  have HS := Lib.hid hs
  have hsm := hI.small
  clear hy hs hI hJ hb
  go_enter Tryz.func158, Tryz.ntmps158
  go_wp2
  generalize hw0 : w.alloc (.cells #[.int .i64 q, .int .i64 M, .slice A n c, .int .i64 K] 56) = w0 at *
  clear hw0 B1 c2 s0
  go_loopw [12] (fun v wr => ∃ i : Nat, i ≤ n ∧ v = .int .i64 i ∧ (∀ j, j < i → xs[j]?.getD 0 = (sgnL s ys)[j]?.getD 0) ∧ ∃ k, wr = w0.drewN k) (fun v _ => n - (intOf v).toNat)
  case atStart => exact ⟨0, Nat.zero_le _, rfl, (fun j h => absurd h (by omega)), 0, rfl⟩
  case round =>
    obtain ⟨i, hi, rfl, hg, k, rfl⟩ := hrel
    have HG := Lib.hid hg
    have hbr : Below w.heap.size w (w0.drewN k) := below_step hB (below_of_drewN k)
    clear hg
    by_cases hlt : i < n
    · obtain ⟨b1, o1, rfl, hl1, hc1⟩ := h1.cells (by omega)
      obtain ⟨b2, o2, rfl, hl2, hc2⟩ := h2.cells (by omega)
      have hcell := hc1 i hlt
      have hcell' := hc2 i hlt
      have S2 := S1.drewN k
      have s0 := S1.c
      have hq1 : (i : Int) < n := by omega
      have hyb := HY.out _ (h2.mem hlt)
      have HO := Lib.hid (ord_at (ys := sgnL s ys) HL.out (by rw [sgn_len]; exact HL'.out) hlt HG.out)
      have HT := Lib.hid (sgn_get s ys i)
      have hsb := sign_bd HS.out hyb
      clear hc1 hc2 hyb
      generalize hxg : xs[i]?.getD 0 = x at *
      generalize hyg : ys[i]?.getD 0 = y at *
      have HXG := Lib.hid hxg
      clear hxg hyg
      have hwm : IntKind.i64.wrap (s * y) = s * y := IntWalk.i64_in _ (by omega)
      clear hsb
      obtain ⟨z, hz⟩ : ∃ z, s * y = z := ⟨_, rfl⟩
      rw [hz] at HT
      by_cases hx : x = z
      · have HX := Lib.hid hx
        have q1 : (x != s * y) = false := by rw [hz]; simpa using hx
        have q2 : (x == s * y) = true := by rw [hz]; simpa using hx
        clear hx hz
        go_wp2
        go_quiet (fail)
        go_wp2
        go_roundw
        case rel => exact ⟨i + 1, by omega, by go_num, (fun j hj => by
          rcases Nat.lt_or_eq_of_le (Nat.le_of_lt_succ hj) with h | rfl
          · exact HG.out j h
          · rw [HXG.out, HT.out]; exact HX.out), _, by first | rfl | exact drew2 _ _ _⟩
        case measure => simp [intOf]; omega
      · have q1 : (x != s * y) = true := by rw [hz]; simpa using hx
        have q2 : (x == s * y) = false := by rw [hz]; simpa using hx
        by_cases hx2 : x < z
        · have HV := Lib.hid (show ordL xs (sgnL s ys) = -1 by rw [HO.out, HT.out, if_pos hx2])
          have q3 : x < s * y := by omega
          clear hx hx2 hz
          go_wp2
          go_quiet (fail)
          go_wp2
          go_quiet (fail)
          go_wp2
          go_ret
          exact ⟨ret_i64 HV.out.symm, below_step (below_step hbr (below_of_drewN _)) (below_of_drewN _)⟩
        · have HV := Lib.hid (show ordL xs (sgnL s ys) = 1 by rw [HO.out, HT.out, if_neg hx2, if_pos (by omega)])
          have q3 : ¬ x < s * y := by omega
          clear hx hx2 hz
          go_wp2
          go_quiet (fail)
          go_wp2
          go_quiet (fail)
          go_wp2
          go_ret
          exact ⟨ret_i64 HV.out.symm, below_step (below_step hbr (below_of_drewN _)) (below_of_drewN _)⟩
    · obtain rfl : i = n := by omega
      have HV := Lib.hid (ord_end (ys := sgnL s ys) HL.out (by rw [sgn_len]; exact HL'.out) HG.out)
      have hge : ¬ ((i : Int) < i) := by omega
      go_wp2
      go_ret
      exact ⟨ret_i64 HV.out.symm, hbr⟩
def Found (els : List CEl) (t : List Int) (i : Nat) (ok : Bool) : Prop :=
  i ≤ els.length ∧ (∀ j x, j < i → els[j]? = some x → ordL x.xs t < 0) ∧ (∀ j x, i ≤ j → els[j]? = some x → 0 ≤ ordL x.xs t) ∧ (ok = true → ∃ x, els[i]? = some x ∧ ordL x.xs t = 0) ∧ (ok = false → ∀ x, els[i]? = some x → ordL x.xs t ≠ 0)
def SearchRet (w : World) (e : Ending) (w' : World) (els : List CEl) (t : List Int) : Prop := ∃ (i : Nat) (ok : Bool), e = .returned (.tuple #[.int .i64 i, .bool ok]) ∧ Found els t i ok ∧ Below w.heap.size w w'
set_option maxHeartbeats 4000000 in
theorem conds_search {A : Option Addr} {m c n : Nat} {els : List CEl} {B : Option Addr} {cB : Nat} {ys : List Int} {b : Nat} {s : Int} (hs : s = 1 ∨ s = -1) (hy : ∀ y ∈ ys, -4611686018427387904 ≤ y ∧ y ≤ 4611686018427387904) (w : World) (C0 : CondsAt w A m els) (hn : ∀ e ∈ els, e.n = n) (hfew : m ≤ 100000) (hJ : IntsAt w B n ys) (hb : IBox w b s)
    (hmono : ∀ (i j : Nat) (x y : CEl), i < j → els[i]? = some x → els[j]? = some y → ordL y.xs (sgnL s ys) < 0 → ordL x.xs (sgnL s ys) < 0) :
    Calls Tryz.prog 157 #[.slice A m c, .slice B n cB, .func (.func 158) #[] #[.pointer (some ⟨b, 0, none⟩)]] w fun e w' => SearchRet w e w' els (sgnL s ys) := by
  have HL := Lib.hid C0.len
  have HN := Lib.hid hn
  have HM := Lib.hid hmono
  have HC := Lib.hid (fun (e : CEl) (W : World) (h1 : IntsAt W e.A e.n e.xs) (h2 : IntsAt W B n ys) (h3 : IBox W b s) (h4 : e.n = n) => (by subst h4; exact find_cmp e.q e.M e.A e.n e.c e.K e.xs B cB ys b s hs hy W h1 h2 h3 : Calls Tryz.prog 158 #[condV e.q e.M e.A e.n e.c e.K, .slice B n cB, .pointer (some ⟨b, 0, none⟩)] W fun e' w' => e' = .returned (.int .i64 (ordL e.xs (sgnL s ys))) ∧ Below W.heap.size W w'))
  clear hmono hn hs hy
  go_enter Tryz.func157, Tryz.ntmps157
  go_wp2
  go_loopg [9, 10] m (fun kx s9 s10 wr => ∃ lo hi : Nat, s9 = .int .i64 lo ∧ s10 = .int .i64 hi ∧ lo ≤ hi ∧ hi ≤ m ∧ hi - lo ≤ kx ∧ Below w.heap.size w wr ∧
    RowKit.Hid ((∀ j x, j < lo → els[j]? = some x → ordL x.xs (sgnL s ys) < 0) ∧ (∀ j x, hi ≤ j → els[j]? = some x → 0 ≤ ordL x.xs (sgnL s ys))))
  case atStart => exact ⟨0, m, rfl, rfl, Nat.zero_le _, Nat.le_refl _, by omega, Below.refl _ _, Lib.hid ((⟨fun t x ht => absurd ht (Nat.not_lt_zero _), fun t x h1 hx => by have := (List.getElem?_eq_some_iff.1 hx).1; have := HL.out; omega⟩ : (∀ j x, j < 0 → els[j]? = some x → ordL x.xs (sgnL s ys) < 0) ∧ (∀ j x, m ≤ j → els[j]? = some x → 0 ≤ ordL x.xs (sgnL s ys))))⟩
  case round =>
    obtain ⟨lo, hi, rfl, rfl, hlh, hin2, hg, hbr, I⟩ := hrel
    by_cases hlt : lo < hi
    · obtain ⟨bb, off, e, rfl, hblt, hej, hmem, hcs, hin⟩ := (C0.step hbr).at (show (lo + hi) / 2 < m by omega)
      have HEJ := Lib.hid hej
      have hc9 := HC.out e wr hin (hJ.step hbr) (hb.step hbr) (HN.out e hmem)
      obtain ⟨eq, eM, eA, en, ec, eK, exs⟩ := e
      obtain ⟨x0, x1, x2, x3⟩ := hcs; simp only at x0 x1 x2 x3 hin
      simp only at hc9
      obtain ⟨z, hz⟩ : ∃ z, ordL exs (sgnL s ys) = z := ⟨_, rfl⟩
      rw [hz] at hc9
      have HZ := Lib.hid hz
      clear hz
      by_cases hx : z < 0
      · go_wp2_with (go_at_call 158; refine hc9.mono ?_; rintro e w5 ⟨rfl, hb5⟩)
        go_roundg (hi - ((lo + hi) / 2 + 1))
        case measure => omega
        case rel => exact ⟨(lo + hi) / 2 + 1, hi, by rw [show ((lo : Int) + (hi : Int)) / 2 + 1 = (((lo + hi) / 2 + 1 : Nat) : Int) by omega], rfl, by omega, hin2, Nat.le_refl _, hbr.trans (hb5.mono hbr.size), Lib.hid ⟨fun j x hj hjx => by
          rcases Nat.lt_or_eq_of_le (Nat.le_of_lt_succ hj) with h | rfl
          · exact HM.out j _ x _ h hjx HEJ.out (by show ordL exs _ < 0; rw [HZ.out]; exact hx)
          · rw [HEJ.out] at hjx; cases hjx; show ordL exs _ < 0; rw [HZ.out]; exact hx, I.out.2⟩⟩
      · go_wp2_with (go_at_call 158; refine hc9.mono ?_; rintro e w5 ⟨rfl, hb5⟩)
        go_roundg ((lo + hi) / 2 - lo)
        case measure => omega
        case rel => exact ⟨lo, (lo + hi) / 2, rfl, by rw [show ((lo : Int) + (hi : Int)) / 2 = (((lo + hi) / 2 : Nat) : Int) by omega], by omega, by omega, Nat.le_refl _, hbr.trans (hb5.mono hbr.size), Lib.hid ⟨I.out.1, fun j x hj hjx => by
          rcases Nat.lt_or_eq_of_le hj with h | rfl
          · refine Int.not_lt.1 fun h5 => ?_
            have := HM.out _ j _ x h HEJ.out hjx h5
            have h6 : ordL exs (sgnL s ys) < 0 := this
            rw [HZ.out] at h6
            omega
          · rw [HEJ.out] at hjx; cases hjx; show 0 ≤ ordL exs _; rw [HZ.out]; omega⟩⟩
    · obtain rfl : hi = lo := by omega
      have hge : ¬ ((hi : Int) < hi) := by omega
      by_cases hlm : hi < m
      · obtain ⟨bb, off, e, rfl, hblt, hej, hmem, hcs, hin⟩ := (C0.step hbr).at hlm
        have HEJ := Lib.hid hej
        have hc9 := HC.out e wr hin (hJ.step hbr) (hb.step hbr) (HN.out e hmem)
        obtain ⟨eq, eM, eA, en, ec, eK, exs⟩ := e
        obtain ⟨x0, x1, x2, x3⟩ := hcs; simp only at x0 x1 x2 x3 hin
        simp only at hc9
        obtain ⟨z, hz⟩ : ∃ z, ordL exs (sgnL s ys) = z := ⟨_, rfl⟩
        rw [hz] at hc9
        have HZ := Lib.hid hz
        have hq1 : (hi : Int) < m := by omega
        clear hz
        by_cases hx : z = 0
        · subst hx
          go_wp2_with (go_at_call 158; refine hc9.mono ?_; rintro e w5 ⟨rfl, hb5⟩)
          go_ret2
          exact ⟨hi, true, rfl, ⟨by have := HL.out; omega, I.out.1, I.out.2, fun _ => ⟨_, HEJ.out, HZ.out⟩, fun h => nomatch h⟩, hbr.trans (hb5.mono hbr.size)⟩
        · have q1 : (z == 0) = false := by simpa using hx
          have HX := Lib.hid hx
          clear hx
          go_wp2_with (go_at_call 158; refine hc9.mono ?_; rintro e w5 ⟨rfl, hb5⟩)
          go_ret2
          exact ⟨hi, false, rfl, ⟨by have := HL.out; omega, I.out.1, I.out.2, (fun h => nomatch h), fun _ x hx => by rw [HEJ.out] at hx; cases hx; show ordL exs _ ≠ 0; rw [HZ.out]; exact HX.out⟩, hbr.trans (hb5.mono hbr.size)⟩
      · have hge2 : ¬ ((hi : Int) < m) := by omega
        go_wp2
        refine bodyPost_ret (v := .tuple #[.int .i64 hi, .bool false]) (by simp [results, Tryz.results157, go_sem]) rfl ?_
        exact ⟨hi, false, rfl, ⟨by have := HL.out; omega, I.out.1, I.out.2, (fun h => nomatch h), fun _ x hx => by have := (List.getElem?_eq_some_iff.1 hx).1; have := HL.out; omega⟩, hbr⟩
theorem ord_refl_mono {n : Nat} {els : List CEl} {t : List Int} (hl : ∀ e ∈ els, e.xs.length = n) (ht : t.length = n) (hs : ∀ (i j : Nat) (x y : CEl), i < j → els[i]? = some x → els[j]? = some y → ordL x.xs y.xs < 0) :
    ∀ (i j : Nat) (x y : CEl), i < j → els[i]? = some x → els[j]? = some y → ordL y.xs t < 0 → ordL x.xs t < 0 := by
  intro i j x y hij hx hy h
  have h1 := hs i j x y hij hx hy
  have lx := hl x (List.mem_of_getElem? hx)
  have ly := hl y (List.mem_of_getElem? hy)
  have h2 := lex_le x.xs y.xs t (by omega) (by omega) (by omega) (by omega)
  rcases Int.lt_or_eq_of_le h2 with h3 | h3
  · exact h3
  · exfalso
    have e := (lex_zero x.xs t (by omega)).1 h3
    rw [e, lex_swap] at h1
    omega
set_option maxHeartbeats 1000000 in
theorem wide_find {A : Option Addr} {m c n : Nat} {els : List CEl} {B : Option Addr} {cB : Nat} {ys : List Int} {s : Int} (hs : s = 1 ∨ s = -1) (hy : ∀ y ∈ ys, -4611686018427387904 ≤ y ∧ y ≤ 4611686018427387904) (w : World) (C0 : CondsAt w A m els) (hn : ∀ e ∈ els, e.n = n) (hfew : m ≤ 100000) (hJ : IntsAt w B n ys)
    (hsort : ∀ (i j : Nat) (x y : CEl), i < j → els[i]? = some x → els[j]? = some y → ordL x.xs y.xs < 0) :
    Calls Tryz.prog 147 #[.slice A m c, .slice B n cB, .int .i64 s] w fun e w' => SearchRet w e w' els (sgnL s ys) := by
  have hb := below_alloc w (.cells #[.int .i64 s] 3)
  have C1 := C0.step hb
  have J1 := hJ.step hb
  have S1 := IBox.new w s
  have HM := Lib.hid (ord_refl_mono (els := els) (t := sgnL s ys) (n := n) (fun e he => by rw [(C0.ints e he).len]; exact hn e he) (by rw [sgn_len]; exact hJ.len) hsort)
  have HH := Lib.hid (And.intro hs (And.intro hy hn))
  clear hs hy hn hsort C0 hJ
  go_enter Tryz.func147, Tryz.ntmps147
  go_wp2_with (go_at_call 157; refine (conds_search HH.out.1 HH.out.2.1 _ C1 HH.out.2.2 hfew J1 S1 HM.out).mono ?_; rintro e w5 ⟨i, ok, rfl, hF, hb5⟩)
  go_ret2
  exact ⟨i, ok, rfl, hF, hb.trans (hb5.mono hb.size)⟩
theorem found_yes {els : List CEl} {t : List Int} {i : Nat} (h : Found els t i true) (hl : ∀ e ∈ els, e.xs.length = t.length) : ∃ x, els[i]? = some x ∧ x ∈ els ∧ x.xs = t := by
  obtain ⟨x, hx, h0⟩ := h.2.2.2.1 rfl
  have hm := List.mem_of_getElem? hx
  exact ⟨x, hx, hm, (lex_zero _ _ (hl x hm)).1 h0⟩
theorem found_no {els : List CEl} {t : List Int} {i : Nat} (h : Found els t i false) (hl : ∀ e ∈ els, e.xs.length = t.length) (hs : ∀ (i j : Nat) (x y : CEl), i < j → els[i]? = some x → els[j]? = some y → ordL x.xs y.xs < 0) : ∀ x ∈ els, x.xs ≠ t := by
  intro x hx e
  obtain ⟨j, hj, rfl⟩ := List.getElem_of_mem hx
  have hxj := List.getElem?_eq_getElem hj
  have h0 : ordL els[j].xs t = 0 := (lex_zero _ _ (hl _ hx)).2 e
  rcases Nat.lt_trichotomy j i with h1 | h1 | h1
  · have := h.2.1 j _ h1 hxj; omega
  · subst h1; exact h.2.2.2.2 rfl _ hxj h0
  · have hi : i < els.length := by omega
    have hxi := List.getElem?_eq_getElem hi
    have h2 := hs i j _ _ h1 hxi hxj
    have h3 := h.2.2.1 i _ (Nat.le_refl _) hxi
    rw [e] at h2
    omega
end Go.Proofs.YtkgnlloioaobiaaGreat
namespace Go.Proofs.YtkgnlloioaobiaaGreat
open Go.RowKit
def slopeD (a b : CD) : Bool := decide (a.xs = b.xs)
def equalD (a b : CD) : Bool := ordD a b == 0
def openD (n : Nat) (d : CD) : List CD := if (nfD n d).2.2.2.2 = 0 then [⟨(nfD n d).1, (nfD n d).2.1, (nfD n d).2.2.1, (nfD n d).2.2.2.1⟩] else []
def neverD (n : Nat) (d : CD) : Bool := decide ((nfD n d).2.2.2.2 = -1)
def normOut (n : Nat) (ds : List CD) : List CD := ds.flatMap (openD n)
def fitD (d : CD) : Bool := validB d.xs d.K
def normFits (n : Nat) (ds : List CD) : Bool := (normOut n ds).all fitD
def normVoid (n : Nat) (ds : List CD) : Bool := ds.any (neverD n)
def kindEq (p : List CD) : List CD := p.takeWhile fun d => d.q == 1
def kindGe (p : List CD) : List CD := (p.dropWhile fun d => d.q == 1).takeWhile fun d => d.q == 0
def kindDv (p : List CD) : List CD := (p.dropWhile fun d => d.q == 1).dropWhile fun d => d.q == 0
def findD (l : List CD) (t : List Int) : Option CD := l.find? fun e => decide (e.xs = t)
def slackD (l : List CD) (d : CD) : Option Int := if leadI d.xs < 0 then none else (findD l (sgnL (-1) d.xs)).map fun e => d.K + e.K
def pairVoid (l : List CD) : Bool := l.any fun d => match slackD l d with | some k => decide (k < 0) | none => false
def tightOne (l : List CD) (d : CD) : List CD := match slackD l d with | some k => if k = 0 then [⟨1, 0, d.xs, d.K⟩] else [] | none => []
def tightD (l : List CD) : List CD := l.flatMap (tightOne l)
def goneD (l : List CD) (d : CD) : Bool := match findD l (sgnL (-1) d.xs) with | some e => decide (d.K + e.K = 0) | none => false
def restD (l : List CD) : List CD := l.filter fun d => !goneD l d
def signI (xs : List Int) : Int := if leadI xs < 0 then -1 else 1
def impD (eqs : List CD) (c : CD) : Option CD := findD eqs (sgnL (signI c.xs) c.xs)
def impVoid (eqs ges : List CD) : Bool := ges.any fun c => match impD eqs c with | some e => decide (c.K - signI c.xs * e.K < 0) | none => false
def impRest (eqs ges : List CD) : List CD := if eqs.isEmpty = true then ges else ges.filter fun c => (impD eqs c).isNone
def clashD (eqs : List CD) : Bool := (List.range (eqs.length - 1)).any fun i => match eqs[i]?, eqs[i + 1]? with | some a, some b => slopeD a b | _, _ => false
def gesD (p : List CD) : List CD := comp slopeD (kindGe p)
def eqsD (p : List CD) : List CD := comp equalD (if (tightD (gesD p)).length > 0 then sortD (kindEq p ++ tightD (gesD p)) else kindEq p)
def settleD (p : List CD) : Option (List CD) :=
  if pairVoid (gesD p) = true then none
  else if clashD (eqsD p) = true then none
  else if impVoid (eqsD p) (restD (gesD p)) = true then none
  else some (eqsD p ++ impRest (eqsD p) (restD (gesD p)) ++ comp equalD (kindDv p))
def pieceD (n : Nat) (ds : List CD) : List CD × Bool × Int :=
  if normVoid n ds = true then ([], true, 0)
  else match settleD (sortD (normOut n ds)) with
    | none => ([], true, 0)
    | some p => if normFits n ds = false ∨ 96 < p.length then ([], false, 3) else (p, false, 0)
instance : DecidableEq CD := fun a b => by
  obtain ⟨q, M, xs, K⟩ := a
  obtain ⟨q', M', xs', K'⟩ := b
  exact decidable_of_iff (q = q' ∧ M = M' ∧ xs = xs' ∧ K = K') (by simp)
end Go.Proofs.YtkgnlloioaobiaaGreat
namespace Go.Proofs.YtkgnlloioaobiaaGreat
open Go.RowKit
section
variable {A : Option Addr} {m c n : Nat} {els : List CEl} {B : Option Addr} {cB : Nat} {ys : List Int} {s : Int} (hs : s = 1 ∨ s = -1) (hy : ∀ y ∈ ys, -4611686018427387904 ≤ y ∧ y ≤ 4611686018427387904) (w : World) (C0 : CondsAt w A m els) (hn : ∀ e ∈ els, e.n = n) (hfew : m ≤ 100000) (hJ : IntsAt w B n ys)
    (hsort : ∀ (i j : Nat) (x y : CEl), i < j → els[i]? = some x → els[j]? = some y → ordL x.xs y.xs < 0)
include hs hy C0 hn hfew hJ hsort
omit hs hy hfew hsort in
theorem find_lens : ∀ e ∈ els, e.xs.length = (sgnL s ys).length := fun e he => by rw [(C0.ints e he).len, hn e he, sgn_len, hJ.len]
theorem find_yes {k : Nat} {x : CEl} (hk : els[k]? = some x) (hx : x.xs = sgnL s ys) : Calls Tryz.prog 147 #[.slice A m c, .slice B n cB, .int .i64 s] w fun e w' => e = .returned (.tuple #[.int .i64 k, .bool true]) ∧ Below w.heap.size w w' := by
  have hl := find_lens (s := s) w C0 hn hJ
  refine (wide_find hs hy w C0 hn hfew hJ hsort).mono ?_
  rintro e w' ⟨i, ok, rfl, hF, hb⟩
  cases ok
  · exact absurd hx (found_no hF hl hsort x (List.mem_of_getElem? hk))
  · obtain ⟨z, hz, _, hzt⟩ := found_yes hF hl
    have hik : i = k := by
      rcases Nat.lt_trichotomy i k with h | h | h
      · have := hsort i k z x h hz hk
        rw [hzt, hx, (lex_zero _ _ rfl).2 rfl] at this; omega
      · exact h
      · have := hsort k i x z h hk hz
        rw [hzt, hx, (lex_zero _ _ rfl).2 rfl] at this; omega
    rw [hik]
    exact ⟨rfl, hb⟩
theorem find_no (hx : ∀ x ∈ els, x.xs ≠ sgnL s ys) : Calls Tryz.prog 147 #[.slice A m c, .slice B n cB, .int .i64 s] w fun e w' => (∃ i : Nat, e = .returned (.tuple #[.int .i64 i, .bool false])) ∧ Below w.heap.size w w' := by
  have hl := find_lens (s := s) w C0 hn hJ
  refine (wide_find hs hy w C0 hn hfew hJ hsort).mono ?_
  rintro e w' ⟨i, ok, rfl, hF, hb⟩
  cases ok
  · exact ⟨⟨i, rfl⟩, hb⟩
  · obtain ⟨z, hz, hzm, hzt⟩ := found_yes hF hl
    exact absurd hzt (hx z hzm)
end
def BRow (w : World) (g : Nat) (bs : List Bool) : Prop := w.heap[g]? = some (.cells (bs.map Value.bool).toArray 4 (0, 0))
section
variable {w w' : World} {g B : Nat} {bs : List Bool}
theorem BRow.lt (h : BRow w g bs) : g < w.heap.size := (Array.getElem?_eq_some_iff.1 h).1
theorem BRow.cell (h : BRow w g bs) {j : Nat} (hj : j < bs.length) : w.cell? ⟨g, j, none⟩ = some (.bool (bs[j]?.getD false)) := by
  rw [cell_of_row w g j _ _ (0, 0) h]; simp [hj]
theorem BRow.free (h : BRow w g bs) (j : Nat) : w.frozen? ⟨g, j, none⟩ = false := by
  unfold BRow at h; simp [World.frozen?, h]
theorem BRow.below (h : BRow w g bs) (hb : Below B w w') (hg : g < B) : BRow w' g bs := (hb.block g hg).trans h
theorem BRow.step (h : BRow w g bs) (hb : Below w.heap.size w w') : BRow w' g bs := h.below hb h.lt
theorem BRow.set (h : BRow w g bs) (j : Nat) (x : Bool) : BRow (w.setCell ⟨g, j, none⟩ (.bool x)) g (bs.set j x) := by
  unfold BRow at h ⊢
  simp only [World.setCell]
  rw [Array.getElem?_modify]
  simp [h, List.map_set]
theorem BRow.new (w : World) (bs : List Bool) : BRow (w.alloc (.cells (bs.map Value.bool).toArray 4)) w.heap.size bs := heap_alloc_new w _
end
def falses (n : Nat) : List Bool := List.replicate n false
theorem infoBool : (Tryz.prog.info? 4).map (fun i => (i.zero, i.size, i.bytes)) = some (some (.bool false), 1, 1) := by kernel_rfl
theorem make_bools (n : Nat) (hn : n ≤ 17592186044416) (w : World) :
    (Instr.makeSlice 94 (.int .i64 (n : Int)) (.int .i64 (n : Int))).run Tryz.prog w = .ok (.slice (some ⟨w.heap.size, 0, none⟩) n n) (w.alloc (.cells ((falses n).map Value.bool).toArray 4)) := by
  obtain ⟨i0, hi, hz0, hz1, hz2⟩ := info_parts infoBool
  have h := run_make (P := Tryz.prog) w 94 4 i0 _ Tryz.underlying94 hi hz0 .i64 .i64 (n : Int) (n : Int) (by omega) (by omega) (by rw [hz2]; omega) (by omega)
  rw [h, hz1]
  have e : madeCells (Value.bool false).cells (n * 1) = ((falses n).map Value.bool).toArray := by
    apply Array.ext'
    simp [madeCells, falses, Value.cells, Nat.mod_one, List.eq_replicate_iff]
  simp only [Int.toNat_natCast]
  rw [e]
end Go.Proofs.YtkgnlloioaobiaaGreat
namespace Go.Proofs.YtkgnlloioaobiaaGreat
open Go.RowKit
def Slopes (ds : List CD) : Prop := ∀ (i j : Nat) (a b : CD), i < j → ds[i]? = some a → ds[j]? = some b → ordL a.xs b.xs < 0
theorem slope_one {ds : List CD} (h : Slopes ds) {i j : Nat} {a b : CD} (ha : ds[i]? = some a) (hb : ds[j]? = some b) (e : a.xs = b.xs) : i = j := by
  rcases Nat.lt_trichotomy i j with h1 | h1 | h1
  · have := h i j a b h1 ha hb
    rw [e, (lex_zero _ _ rfl).2 rfl] at this; omega
  · exact h1
  · have := h j i b a h1 hb ha
    rw [e, (lex_zero _ _ rfl).2 rfl] at this; omega
theorem find_some {ds : List CD} (h : Slopes ds) {k : Nat} {e : CD} {t : List Int} (hk : ds[k]? = some e) (ht : e.xs = t) : findD ds t = some e := by
  unfold findD
  cases hf : ds.find? fun e => decide (e.xs = t) with
  | none =>
    have := List.find?_eq_none.1 hf e (List.mem_of_getElem? hk)
    exact absurd ht (by simpa using this)
  | some x =>
    have hx : x.xs = t := by simpa using List.find?_some hf
    obtain ⟨j, hj, hxj⟩ := List.getElem_of_mem (List.mem_of_find?_eq_some hf)
    have hj' : ds[j]? = some x := by rw [List.getElem?_eq_getElem hj, hxj]
    have := slope_one h hj' hk (by rw [hx, ht])
    subst this
    rw [hk] at hj'
    cases hj'
    rfl
theorem find_none {ds : List CD} {t : List Int} (h : ∀ e ∈ ds, e.xs ≠ t) : findD ds t = none := by
  unfold findD
  rw [List.find?_eq_none]
  intro x hx
  simpa using h x hx
theorem find_elim {ds : List CD} {t : List Int} {e : CD} (h : findD ds t = some e) : e.xs = t ∧ ∃ k : Nat, ds[k]? = some e := by
  refine ⟨by simpa using List.find?_some h, ?_⟩
  obtain ⟨j, hj, hxj⟩ := List.getElem_of_mem (List.mem_of_find?_eq_some h)
  exact ⟨j, by rw [List.getElem?_eq_getElem hj, hxj]⟩
theorem slack_neg {ds : List CD} {d : CD} (h : leadI d.xs < 0) : slackD ds d = none := by unfold slackD; rw [if_pos h]
theorem slack_none {ds : List CD} {d : CD} (h : ∀ e ∈ ds, e.xs ≠ sgnL (-1) d.xs) : slackD ds d = none := by
  unfold slackD
  rw [find_none h]
  split <;> rfl
theorem slack_some {ds : List CD} (hs : Slopes ds) {d e : CD} {k : Nat} (h : ¬ leadI d.xs < 0) (hk : ds[k]? = some e) (ht : e.xs = sgnL (-1) d.xs) : slackD ds d = some (d.K + e.K) := by
  unfold slackD
  rw [if_neg h, find_some hs hk ht]
  rfl
theorem pair_yes {ds : List CD} {d : CD} {k : Int} (hd : d ∈ ds) (h : slackD ds d = some k) (hk : k < 0) : pairVoid ds = true := by
  unfold pairVoid
  rw [List.any_eq_true]
  refine ⟨d, hd, ?_⟩
  rw [h]
  simpa using hk
theorem pair_no {ds : List CD} (h : ∀ j d k, j < ds.length → ds[j]? = some d → slackD ds d = some k → 0 ≤ k) : pairVoid ds = false := by
  unfold pairVoid
  rw [List.any_eq_false]
  intro d hd
  obtain ⟨j, hj, rfl⟩ := List.getElem_of_mem hd
  cases hk : slackD ds ds[j] with
  | none => simp
  | some k => simpa using h j _ k hj (List.getElem?_eq_getElem hj) hk
theorem tight_none {ds : List CD} {d : CD} (h : slackD ds d = none) : tightOne ds d = [] := by unfold tightOne; rw [h]
theorem tight_zero {ds : List CD} {d : CD} (h : slackD ds d = some 0) : tightOne ds d = [⟨1, 0, d.xs, d.K⟩] := by unfold tightOne; rw [h]; rfl
theorem tight_pos {ds : List CD} {d : CD} {k : Int} (h : slackD ds d = some k) (hk : k ≠ 0) : tightOne ds d = [] := by unfold tightOne; rw [h]; exact if_neg hk
theorem flat_snoc {α β : Type} (f : α → List β) {l : List α} {i : Nat} {d : α} (h : l[i]? = some d) : (l.take (i + 1)).flatMap f = (l.take i).flatMap f ++ f d := by
  obtain ⟨hi, hd⟩ := List.getElem?_eq_some_iff.1 h
  rw [List.take_succ_eq_append_getElem hi, List.flatMap_append, hd]
  simp
theorem filter_snoc {α : Type} (f : α → Bool) {l : List α} {i : Nat} {d : α} (h : l[i]? = some d) : (l.take (i + 1)).filter f = (l.take i).filter f ++ (if f d = true then [d] else []) := by
  obtain ⟨hi, hd⟩ := List.getElem?_eq_some_iff.1 h
  rw [List.take_succ_eq_append_getElem hi, List.filter_append, hd]
  congr 1
  by_cases hf : f d = true <;> simp [hf]
def Marked (ds : List CD) (i j : Nat) : Prop := ∃ d e, ds[i]? = some d ∧ ds[j]? = some e ∧ slackD ds d = some 0 ∧ (j = i ∨ e.xs = sgnL (-1) d.xs)
theorem mark_step {ds : List CD} (hs : Slopes ds) {gs : List Bool} {i k : Nat} {d e : CD} (hl : gs.length = ds.length) (hd : ds[i]? = some d) (he : ds[k]? = some e) (ht : e.xs = sgnL (-1) d.xs) (h0 : slackD ds d = some 0)
    (hg : ∀ j, j < ds.length → (gs[j]?.getD false = true ↔ ∃ i', i' < i ∧ Marked ds i' j)) :
    ∀ j, j < ds.length → (((gs.set i true).set k true)[j]?.getD false = true ↔ ∃ i', i' < i + 1 ∧ Marked ds i' j) := by
  intro j hj
  have hx : ((gs.set i true).set k true)[j]?.getD false = true ↔ (j = i ∨ j = k ∨ gs[j]?.getD false = true) := by
    rw [List.getElem?_set, List.getElem?_set]
    by_cases hjk : k = j
    · subst hjk; simp [hl, hj]
    · by_cases hji : i = j
      · subst hji; simp [hjk, hl, hj]
      · simp [hjk, hji, Ne.symm hjk, Ne.symm hji]
  rw [hx, hg j hj]
  constructor
  · rintro (rfl | rfl | ⟨i', h1, h2⟩)
    · exact ⟨j, by omega, d, d, hd, hd, h0, .inl rfl⟩
    · exact ⟨i, by omega, d, e, hd, he, h0, .inr ht⟩
    · exact ⟨i', by omega, h2⟩
  · rintro ⟨i', h1, h2⟩
    rcases Nat.lt_or_eq_of_le (Nat.le_of_lt_succ h1) with h | rfl
    · exact .inr (.inr ⟨i', h, h2⟩)
    · obtain ⟨d', e', hd', he', _, rfl | h3⟩ := h2
      · exact .inl rfl
      · rw [hd] at hd'
        cases hd'
        exact .inr (.inl (slope_one hs he' he (by rw [h3, ht])))
theorem mark_skip {ds : List CD} {gs : List Bool} {i : Nat} {d : CD} (hd : ds[i]? = some d) (h0 : slackD ds d ≠ some 0)
    (hg : ∀ j, j < ds.length → (gs[j]?.getD false = true ↔ ∃ i', i' < i ∧ Marked ds i' j)) :
    ∀ j, j < ds.length → (gs[j]?.getD false = true ↔ ∃ i', i' < i + 1 ∧ Marked ds i' j) := by
  intro j hj
  rw [hg j hj]
  constructor
  · rintro ⟨i', h1, h2⟩; exact ⟨i', by omega, h2⟩
  · rintro ⟨i', h1, h2⟩
    rcases Nat.lt_or_eq_of_le (Nat.le_of_lt_succ h1) with h | rfl
    · exact ⟨i', h, h2⟩
    · obtain ⟨d', e', hd', _, h3, _⟩ := h2
      rw [hd] at hd'
      cases hd'
      exact absurd h3 h0
theorem sgn_sgn (xs : List Int) : sgnL (-1) (sgnL (-1) xs) = xs := by
  unfold sgnL
  rw [List.map_map]
  have : (fun x : Int => -1 * x) ∘ (fun x => -1 * x) = id := by funext x; simp
  rw [this, List.map_id]
theorem lead_neg : ∀ xs : List Int, leadI (sgnL (-1) xs) = -leadI xs
  | [] => rfl
  | x :: xs => by
    have ih := lead_neg xs
    unfold sgnL at ih ⊢
    simp only [List.map_cons, leadI]
    by_cases h : x = 0
    · rw [if_pos (by omega), if_pos h]; exact ih
    · rw [if_neg (by omega), if_neg h]; omega
theorem gone_mark {ds : List CD} (hs : Slopes ds) {j : Nat} {d : CD} (hd : ds[j]? = some d) : goneD ds d = true ↔ ∃ i', i' < ds.length ∧ Marked ds i' j := by
  have hj := (List.getElem?_eq_some_iff.1 hd).1
  unfold goneD
  constructor
  · intro h
    cases hf : findD ds (sgnL (-1) d.xs) with
    | none => rw [hf] at h; cases h
    | some e =>
      rw [hf] at h
      have h0 : d.K + e.K = 0 := by simpa using h
      obtain ⟨ht, k, hk⟩ := find_elim hf
      have hkl := (List.getElem?_eq_some_iff.1 hk).1
      by_cases hl : leadI d.xs < 0
      · refine ⟨k, hkl, e, d, hk, hd, ?_, .inr (by rw [ht, sgn_sgn])⟩
        rw [slack_some hs (by rw [ht, lead_neg]; omega) hd (by rw [ht, sgn_sgn])]
        congr 1; omega
      · refine ⟨j, hj, d, d, hd, hd, ?_, .inl rfl⟩
        rw [slack_some hs hl hk ht, h0]
  · rintro ⟨i, hi, d', e', hd', he', h0, h⟩
    rw [hd] at he'
    cases he'
    unfold slackD at h0
    by_cases hl : leadI d'.xs < 0
    · rw [if_pos hl] at h0; cases h0
    · rw [if_neg hl] at h0
      cases hf : findD ds (sgnL (-1) d'.xs) with
      | none => rw [hf] at h0; cases h0
      | some e =>
        rw [hf] at h0
        have hsum : d'.K + e.K = 0 := by simpa using h0
        obtain ⟨ht, k, hk⟩ := find_elim hf
        rcases h with rfl | h
        · rw [hd] at hd'
          cases hd'
          rw [hf]
          simpa using hsum
        · have : j = k := slope_one hs hd hk (by rw [h, ht])
          subst this
          rw [hd] at hk
          cases hk
          rw [h, sgn_sgn, find_some hs hd' rfl]
          simp
          omega
end Go.Proofs.YtkgnlloioaobiaaGreat
namespace Go.Proofs.YtkgnlloioaobiaaGreat
open Go.ChangeShapes Go.WideShapes Go.ChangeAt Go.RowKit
def BR (N : Nat) (W : World) (u : Value) (bs : List Int) : Prop := W.ownsRow N 5 1 u bs.length (bs.map (Value.int .u8))
theorem infoByte : (Tryz.prog.info? 5).map (fun i => (i.zero, i.size, i.bytes)) = some (some (.int .u8 0), 1, 1) := by kernel_rfl
theorem BR.nil (N : Nat) (W : World) : BR N W (.slice none 0 0) [] := World.ownsRow_nil _ _ _ _
theorem BR.step {N : Nat} {W W' : World} {u : Value} {bs : List Int} (h : BR N W u bs) (hb : Below W.heap.size W W') : BR N W' u bs := by
  refine ⟨h.1, ?_⟩
  rcases h.2 with h0 | ⟨g, cap, cur, hv, hg, hc, rest⟩
  · exact .inl h0
  · exact .inr ⟨g, cap, cur, hv, hg, (hb.block g (Array.getElem?_eq_some_iff.1 hc).1).trans hc, rest⟩
theorem BR.slice {N : Nat} {W : World} {u : Value} {bs : List Int} (h : BR N W u bs) : ∃ A c, u = .slice A bs.length c := by
  rcases h.2 with ⟨rfl, h0⟩ | ⟨g, cap, cur, rfl, _⟩
  · rw [h0]; exact ⟨none, 0, rfl⟩
  · exact ⟨_, _, rfl⟩
def KeepT (w w' : World) : Prop := ∀ (k : Nat) (cs : Array Value) (t : TypeId) (fz : Nat × Nat), w.heap[k]? = some (.cells cs t fz) → t ≠ 5 → w'.heap[k]? = some (.cells cs t fz)
theorem KeepT.refl (w : World) : KeepT w w := fun _ _ _ _ h _ => h
theorem KeepT.trans {w w' w'' : World} (h : KeepT w w') (h' : KeepT w' w'') : KeepT w w'' := fun k cs t fz e ht => h' k cs t fz (h k cs t fz e ht) ht
theorem KeepT.of_below {w w' : World} (hb : Below w.heap.size w w') : KeepT w w' := fun k cs t fz e _ => (hb.block k (Array.getElem?_eq_some_iff.1 e).1).trans e
theorem CBox.keep {w w' : World} {b : Nat} {q M : Int} {A : Option Addr} {n c : Nat} {K : Int} (h : CBox w b q M A n c K) (hk : KeepT w w') : CBox w' b q M A n c K := hk b _ _ _ h (by decide)
section
variable {ops : Array Oper} {o : Oper} {a : Act} {w : World} {Q : Exit → Act → World → Prop}
theorem wpList_append_byte {rest : List Oper} (hgd : o.guard = none) (s x : Operand) (t : TypeId) (ho : o.op = .call { callee := .builtin .append, args := #[s, x], argTypes := #[t, t] }) (ht : Tryz.prog.underlying t = some (.slice 5))
    {N : Nat} {u : Value} {bs : List Int} (hs : a.eval s = u) (hL : BR N w u bs) (g : Nat) (y : Int) (hx : a.eval x = .slice (some ⟨g, 0, none⟩) 1 1) (hg : w.heap[g]? = some (.cells #[.int .u8 y] 5 (0, 0))) (hm : bs.length + 1 ≤ 100000000) (hN : N ≤ w.heap.size)
    (h : ∀ u' w', BR N w' u' (bs ++ [y]) → Below N w w' ∧ KeepT w w' → wpList Tryz.prog ops Q rest (a.put o.dst u') w') : wpList Tryz.prog ops Q (o :: rest) a w := by
  obtain ⟨i0, hi0, hz, hz1, hz2⟩ := info_parts infoByte
  refine wpList_append_own _ hgd s x t ho N 5 i0 (.int .u8 0) 1 1 ht hi0 hz hz1 hz2 rfl (by decide) u bs.length (bs.map (Value.int .u8)) hs hL ⟨g, 0, none⟩ 1 1 [.int .u8 y] hx rfl (fun j v hv => ?_) (fun v hv => by rw [List.mem_singleton.1 hv]; rfl) (by unfold maxLen; omega) (by omega) hN ?_
  · match j, hv with
    | 0, hv =>
      simp at hv
      subst hv
      rw [add_plain, cell_of_row w g _ _ _ (0, 0) hg]
      rfl
    | j + 1, hv => simp at hv
  · intro v' w' hown hgr _
    refine h v' w' ?_ ⟨(Below.refl N w).grown hgr hN fun k e => by
      rcases hL.2 with ⟨hv, _⟩ | ⟨g', cap, cur, hv, hb, _⟩
      · rw [hv] at e; cases e
      · rw [hv] at e; cases e; exact hb, fun k cs t fz e ht => (hgr.block k (Array.getElem?_eq_some_iff.1 e).1 fun e' => by
      rcases hL.2 with ⟨hv, _⟩ | ⟨g', cap, cur, hv, hb, hcur, _⟩
      · rw [hv] at e'; cases e'
      · rw [hv] at e'
        cases e'
        have e9 : w.heap[g']? = some (.cells cs t fz) := e
        rw [hcur] at e9
        simp only [Option.some.injEq, Obj.cells.injEq] at e9
        exact ht e9.2.1.symm).trans e⟩
    unfold BR
    rw [List.length_append, List.map_append]
    exact hown
end
theorem op_or (x : Nat) (hx : x < 256) : bits BinOp.or IntKind.u8 (x : Int) 128 = ((128 + x % 128 : Nat) : Int) := by
  have h := or_bits ⟨x, hx⟩
  simp only at h
  show IntKind.u8.wrap (((BitVec.ofInt 8 (x : Int) ||| BitVec.ofInt 8 128).toNat : Nat) : Int) = _
  rw [h, IntWalk.u8_in _ (by omega)]
theorem op_xor_pos (x : Nat) (hx : x < 18446744073709551616) : bits BinOp.xor IntKind.u64 (x : Int) 0 = (x : Int) := by
  show IntKind.u64.wrap (((BitVec.ofInt 64 (x : Int) ^^^ BitVec.ofInt 64 0).toNat : Nat) : Int) = _
  have h : (BitVec.ofInt 64 (x : Int) ^^^ BitVec.ofInt 64 0).toNat = x := by
    simp
    omega
  rw [h, IntKind.wrap_u64]
  omega
theorem op_xor_neg (x : Nat) (hx : x < 18446744073709551616) : bits BinOp.xor IntKind.u64 (x : Int) 18446744073709551615 = ((18446744073709551615 - x : Nat) : Int) := by
  show IntKind.u64.wrap (((BitVec.ofInt 64 (x : Int) ^^^ BitVec.ofInt 64 18446744073709551615).toNat : Nat) : Int) = _
  have h : (BitVec.ofInt 64 (x : Int) ^^^ BitVec.ofInt 64 18446744073709551615).toNat = 18446744073709551615 - x := by
    have e : BitVec.ofInt 64 18446744073709551615 = BitVec.allOnes 64 := by decide
    rw [e, BitVec.xor_allOnes, BitVec.toNat_not]
    simp
    omega
  rw [h, IntKind.wrap_u64]
  omega
def NumRet (N : Nat) (w : World) (e : Ending) (w' : World) (out : List Int) : Prop := (∃ u', e = .returned u' ∧ BR N w' u' out) ∧ Below N w w' ∧ KeepT w w'
set_option maxHeartbeats 4000000 in
theorem wide_number {N : Nat} {u : Value} {bs : List Int} (n : Int) (hn : -2305843009213693952 ≤ n ∧ n ≤ 2305843009213693952) (w : World) (hL : BR N w u bs) (hlen : bs.length ≤ 10000000) (hN : N ≤ w.heap.size) :
    Calls Tryz.prog 125 #[u, .int .i64 n] w fun e w' => NumRet N w e w' (bs ++ numB (zz n)) := by
  by_cases h0 : 0 ≤ n
  · obtain ⟨k, rfl⟩ : ∃ k : Nat, n = k := ⟨n.toNat, by omega⟩
    have hx0 := op_xor_pos (2 * k) (by omega)
    have hd : (k : Int) / 9223372036854775808 = 0 := by omega
    have hz : zz (k : Int) = 2 * k := by unfold zz; rw [if_pos h0]; omega
    have hx : bits BinOp.xor IntKind.u64 ((k : Int) * 2) ((k : Int) / 9223372036854775808) = ((2 * k : Nat) : Int) := by rw [hd, show (k : Int) * 2 = ((2 * k : Nat) : Int) by omega]; exact hx0
    rw [hz]
    obtain ⟨q0, hq⟩ : ∃ q0, 2 * k = q0 := ⟨_, rfl⟩
    rw [hq] at hx ⊢
    have hq0 : q0 < 18446744073709551616 := by omega
    clear hx0 hd hz hq h0
    go_enter Tryz.func125, Tryz.ntmps125
    go_wp2
    clear hx hn
    go_loopw [0, 5] (fun b v wr => ∃ (q : Nat) (pre : List Int), v = .int .u64 q ∧ BR N wr b (bs ++ pre) ∧ pre ++ numB q = numB q0 ∧ q < 18446744073709551616 ∧ Below N w wr ∧ KeepT w wr) (fun _ v _ => (intOf v).toNat)
    case atStart => exact ⟨q0, [], rfl, by rw [List.append_nil]; exact hL, rfl, hq0, Below.refl _ _, KeepT.refl _⟩
    clear hL
    case round =>
      obtain ⟨q, pre, rfl, hL, hpre, hq64, hbr, hkr⟩ := hrel
      have HPR := Lib.hid hpre
      have hpl : pre.length ≤ 10 := by
        have h := congrArg List.length hpre
        have h2 := num_len 10 q0 (by omega) (by omega)
        rw [List.length_append] at h
        omega
      have hbl : (bs ++ pre).length + 1 ≤ 100000000 := by rw [List.length_append]; omega
      have hNr := Nat.le_trans hN hbr.size
      clear hpre hpl
      obtain ⟨A9, c9, hu⟩ := hL.slice
      by_cases hlt : q < 128
      · have HE := Lib.hid (show bs ++ pre ++ [(q : Int)] = bs ++ numB q0 by rw [← HPR.out, num_small hlt, List.append_assoc])
        have hq1 : ¬ ((128 : Int) ≤ (q : Int)) := by omega
        have hq2 : (q : Int) < 128 := by omega
        have hb : IntKind.u8.wrap (q : Int) = (q : Int) := IntWalk.u8_in _ (by omega)
        have b8 := below_alloc wr (.cells #[.int .u8 (q : Int)] 5)
        have L8 := hL.step b8
        have G8 := heap_alloc_new wr (.cells #[.int .u8 (q : Int)] 5)
        have hN8 := Nat.le_trans hNr b8.size
        have hbr8 := hbr.trans (b8.mono hNr)
        have hkr8 := hkr.trans (KeepT.of_below b8)
        clear hL hbr b8 hu
        go_wp2_with (at_builtin; refine wpList_append_byte rfl _ _ 136 rfl rfl rfl L8 _ (q : Int) rfl G8 hbl hN8 ?_; intro u9 w9 L9 hb9)
        go_ret
        exact ⟨⟨_, rfl, by rw [← HE.out]; exact L9⟩, hbr8.trans hb9.1, hkr8.trans hb9.2⟩
      · have hq1 : ((128 : Int) ≤ (q : Int)) := by omega
        have hb : IntKind.u8.wrap (q : Int) = ((q % 256 : Nat) : Int) := by rw [IntKind.wrap_u8]; omega
        have ho : bits BinOp.or IntKind.u8 ((q % 256 : Nat) : Int) 128 = ((128 + q % 128 : Nat) : Int) := by rw [op_or (q % 256) (by omega)]; omega
        obtain ⟨r, hr⟩ : ∃ r : Nat, q % 256 = r := ⟨_, rfl⟩
        obtain ⟨x, hx9⟩ : ∃ x : Nat, 128 + q % 128 = x := ⟨_, rfl⟩
        rw [hr] at hb ho
        rw [hx9] at ho
        have HE := Lib.hid (show pre ++ [(x : Int)] ++ numB (q / 128) = numB q0 by rw [← HPR.out, num_great hlt, hx9, List.append_assoc]; rfl)
        have b8 := below_alloc wr (.cells #[.int .u8 (x : Int)] 5)
        have L8 := hL.step b8
        have G8 := heap_alloc_new wr (.cells #[.int .u8 (x : Int)] 5)
        have hN8 := Nat.le_trans hNr b8.size
        have hbr8 := hbr.trans (b8.mono hNr)
        have hkr8 := hkr.trans (KeepT.of_below b8)
        have HQ := Lib.hid (And.intro hlt hq64)
        clear hL hbr b8 hr hx9 hlt hq64 hu
        go_wp2_with (at_builtin; refine wpList_append_byte rfl _ _ 136 rfl rfl rfl L8 _ (x : Int) rfl G8 hbl hN8 ?_; intro u9 w9 L9 hb9)
        go_roundw
        case rel => exact ⟨q / 128, pre ++ [(x : Int)], by go_num, by rw [← List.append_assoc]; exact L9, HE.out, by have := HQ.out; omega, hbr8.trans hb9.1, hkr8.trans hb9.2⟩
        case measure => have := HQ.out; simp [intOf]; omega
  · obtain ⟨k, rfl⟩ : ∃ k : Nat, n = -(k : Int) := ⟨(-n).toNat, by omega⟩
    have hk : 0 < k := by omega
    have hx0 := op_xor_neg (18446744073709551616 - 2 * k) (by omega)
    have hd : IntKind.u64.wrap (-(k : Int) / 9223372036854775808) = 18446744073709551615 := by rw [IntKind.wrap_u64]; omega
    have hw : IntKind.u64.wrap (IntKind.u64.wrap (-(k : Int)) * 2) = ((18446744073709551616 - 2 * k : Nat) : Int) := by rw [IntKind.wrap_u64, IntKind.wrap_u64]; omega
    have hz : zz (-(k : Int)) = 2 * k - 1 := by unfold zz; rw [if_neg h0]; omega
    have hx : bits BinOp.xor IntKind.u64 (IntKind.u64.wrap (IntKind.u64.wrap (-(k : Int)) * 2)) (IntKind.u64.wrap (-(k : Int) / 9223372036854775808)) = ((2 * k - 1 : Nat) : Int) := by
      rw [hd, hw, hx0]
      omega
    rw [hz]
    obtain ⟨q0, hq⟩ : ∃ q0, 2 * k - 1 = q0 := ⟨_, rfl⟩
    rw [hq] at hx ⊢
    have hq0 : q0 < 18446744073709551616 := by omega
    clear hx0 hd hw hz hq h0 hk
    go_enter Tryz.func125, Tryz.ntmps125
    go_wp2
    clear hx hn
    go_loopw [0, 5] (fun b v wr => ∃ (q : Nat) (pre : List Int), v = .int .u64 q ∧ BR N wr b (bs ++ pre) ∧ pre ++ numB q = numB q0 ∧ q < 18446744073709551616 ∧ Below N w wr ∧ KeepT w wr) (fun _ v _ => (intOf v).toNat)
    case atStart => exact ⟨q0, [], rfl, by rw [List.append_nil]; exact hL, rfl, hq0, Below.refl _ _, KeepT.refl _⟩
    clear hL
    case round =>
      obtain ⟨q, pre, rfl, hL, hpre, hq64, hbr, hkr⟩ := hrel
      have HPR := Lib.hid hpre
      have hpl : pre.length ≤ 10 := by
        have h := congrArg List.length hpre
        have h2 := num_len 10 q0 (by omega) (by omega)
        rw [List.length_append] at h
        omega
      have hbl : (bs ++ pre).length + 1 ≤ 100000000 := by rw [List.length_append]; omega
      have hNr := Nat.le_trans hN hbr.size
      clear hpre hpl
      obtain ⟨A9, c9, hu⟩ := hL.slice
      by_cases hlt : q < 128
      · have HE := Lib.hid (show bs ++ pre ++ [(q : Int)] = bs ++ numB q0 by rw [← HPR.out, num_small hlt, List.append_assoc])
        have hq1 : ¬ ((128 : Int) ≤ (q : Int)) := by omega
        have hq2 : (q : Int) < 128 := by omega
        have hb : IntKind.u8.wrap (q : Int) = (q : Int) := IntWalk.u8_in _ (by omega)
        have b8 := below_alloc wr (.cells #[.int .u8 (q : Int)] 5)
        have L8 := hL.step b8
        have G8 := heap_alloc_new wr (.cells #[.int .u8 (q : Int)] 5)
        have hN8 := Nat.le_trans hNr b8.size
        have hbr8 := hbr.trans (b8.mono hNr)
        have hkr8 := hkr.trans (KeepT.of_below b8)
        clear hL hbr b8 hu
        go_wp2_with (at_builtin; refine wpList_append_byte rfl _ _ 136 rfl rfl rfl L8 _ (q : Int) rfl G8 hbl hN8 ?_; intro u9 w9 L9 hb9)
        go_ret
        exact ⟨⟨_, rfl, by rw [← HE.out]; exact L9⟩, hbr8.trans hb9.1, hkr8.trans hb9.2⟩
      · have hq1 : ((128 : Int) ≤ (q : Int)) := by omega
        have hb : IntKind.u8.wrap (q : Int) = ((q % 256 : Nat) : Int) := by rw [IntKind.wrap_u8]; omega
        have ho : bits BinOp.or IntKind.u8 ((q % 256 : Nat) : Int) 128 = ((128 + q % 128 : Nat) : Int) := by rw [op_or (q % 256) (by omega)]; omega
        obtain ⟨r, hr⟩ : ∃ r : Nat, q % 256 = r := ⟨_, rfl⟩
        obtain ⟨x, hx9⟩ : ∃ x : Nat, 128 + q % 128 = x := ⟨_, rfl⟩
        rw [hr] at hb ho
        rw [hx9] at ho
        have HE := Lib.hid (show pre ++ [(x : Int)] ++ numB (q / 128) = numB q0 by rw [← HPR.out, num_great hlt, hx9, List.append_assoc]; rfl)
        have b8 := below_alloc wr (.cells #[.int .u8 (x : Int)] 5)
        have L8 := hL.step b8
        have G8 := heap_alloc_new wr (.cells #[.int .u8 (x : Int)] 5)
        have hN8 := Nat.le_trans hNr b8.size
        have hbr8 := hbr.trans (b8.mono hNr)
        have hkr8 := hkr.trans (KeepT.of_below b8)
        have HQ := Lib.hid (And.intro hlt hq64)
        clear hL hbr b8 hr hx9 hlt hq64 hu
        go_wp2_with (at_builtin; refine wpList_append_byte rfl _ _ 136 rfl rfl rfl L8 _ (x : Int) rfl G8 hbl hN8 ?_; intro u9 w9 L9 hb9)
        go_roundw
        case rel => exact ⟨q / 128, pre ++ [(x : Int)], by go_num, by rw [← List.append_assoc]; exact L9, HE.out, by have := HQ.out; omega, hbr8.trans hb9.1, hkr8.trans hb9.2⟩
        case measure => have := HQ.out; simp [intOf]; omega
def keyU (l : List CD) : List UInt8 := (keyB l).map fun x => UInt8.ofNat x.toNat
def keyS (l : List CD) : ByteArray := ⟨(keyU l).toArray⟩
def KeyOk (n : Nat) (e : CEl) : Prop := (e.q = 0 ∨ e.q = 1 ∨ e.q = 2) ∧ e.n = n ∧ (-2305843009213693952 ≤ e.M ∧ e.M ≤ 2305843009213693952) ∧ (-2305843009213693952 ≤ e.K ∧ e.K ≤ 2305843009213693952) ∧ ∀ x ∈ e.xs, -2305843009213693952 ≤ x ∧ x ≤ 2305843009213693952
theorem zz_le {x : Int} (h : -2305843009213693952 ≤ x ∧ x ≤ 2305843009213693952) : zz x < 18446744073709551616 := by unfold zz; split <;> omega
theorem num_ten {x : Int} (h : -2305843009213693952 ≤ x ∧ x ≤ 2305843009213693952) : (numB (zz x)).length ≤ 10 := num_len 10 _ (by have := zz_le h; omega) (by omega)
theorem nums_len : ∀ xs : List Int, (∀ x ∈ xs, -2305843009213693952 ≤ x ∧ x ≤ 2305843009213693952) → (numsB xs).length ≤ xs.length * 10
  | [], _ => by simp [numsB]
  | x :: xs, h => by
    have h1 := num_ten (h x (List.mem_cons_self ..))
    have h2 := nums_len xs fun y hy => h y (List.mem_cons_of_mem _ hy)
    simp only [numsB, List.flatMap_cons, List.length_append, List.length_cons] at h2 ⊢
    omega
theorem keys_len {n : Nat} (hn : n ≤ 100) : ∀ l : List CEl, (∀ e ∈ l, KeyOk n e ∧ e.xs.length = n) → (keyB (l.map CEl.d)).length ≤ l.length * 1100
  | [], _ => by simp [keyB]
  | e :: l, h => by
    obtain ⟨⟨h1, h2, h3, h4, h5⟩, h6⟩ := h e (List.mem_cons_self ..)
    have h7 := keys_len hn l fun y hy => h y (List.mem_cons_of_mem _ hy)
    have h8 := num_ten h3
    have h9 := num_ten h4
    have h10 := nums_len e.xs h5
    simp only [keyB, List.map_cons, List.flatMap_cons, List.length_append, List.length_cons, keyC, CEl.d] at h7 ⊢
    omega
theorem key_byte (l : List CD) (hq : ∀ d ∈ l, d.q = 0 ∨ d.q = 1 ∨ d.q = 2) : ∀ x ∈ keyB l, 0 ≤ x ∧ x ≤ 255 := by
  intro x hx
  unfold keyB at hx
  obtain ⟨d, hd, hx⟩ := List.mem_flatMap.1 hx
  unfold keyC at hx
  rcases List.mem_cons.1 hx with rfl | hx
  · have := hq d hd; omega
  · rcases List.mem_append.1 hx with hx | hx
    · exact num_byte _ x hx
    · rcases List.mem_append.1 hx with hx | hx
      · unfold numsB at hx
        obtain ⟨y, _, hx⟩ := List.mem_flatMap.1 hx
        exact num_byte _ x hx
      · exact num_byte _ x hx
theorem string_of {N : Nat} {W : World} {A : Option Addr} {m c : Nat} {bs : List Int} (h : BR N W (.slice A m c) bs) (hb : ∀ x ∈ bs, 0 ≤ x ∧ x ≤ 255) :
    (convert 136 9 (.slice A m c)).run Tryz.prog W = .ok (.string ⟨(bs.map fun x => UInt8.ofNat x.toNat).toArray⟩) W := by
  have hm : m = bs.length := by obtain ⟨A', c', e⟩ := h.slice; cases e; rfl
  subst hm
  rcases h.2 with ⟨hv, h0⟩ | ⟨g, cap, cur, hv, hg, hc, h1, h2, h3, h4⟩
  · obtain rfl : bs = [] := List.length_eq_zero_iff.1 h0
    simp only [Value.slice.injEq] at hv
    obtain ⟨rfl, _, rfl⟩ := hv
    exact Eq.trans (run_convert_bytes_string (P := Tryz.prog) W 136 9 5 none 0 0 Tryz.underlying136 Tryz.underlying5 Tryz.underlying9) rfl
  · cases hv
    have := run_convert_bytes_back (P := Tryz.prog) W 136 9 5 ⟨g, 0, none⟩ c (bs.map fun x => UInt8.ofNat x.toNat) Tryz.underlying136 Tryz.underlying5 Tryz.underlying9 (fun j hj => by
      rw [List.length_map] at hj
      rw [add_plain, Nat.zero_add]
      have hcell := World.ownsRow.cellAt h j (by omega)
      rw [hcell]
      have hbj := hb _ (List.getElem_mem hj)
      simp [hj]
      omega)
    rw [List.length_map] at this
    exact this
end Go.Proofs.YtkgnlloioaobiaaGreat
namespace Go.Proofs.YtkgnlloioaobiaaGreat
open Go.ChangeShapes Go.WideShapes Go.ChangeAt Go.RowKit
theorem keyB_snoc {ds : List CD} {i : Nat} {d : CD} (h : ds[i]? = some d) : keyB (ds.take (i + 1)) = keyB (ds.take i) ++ keyC d := flat_snoc keyC h
theorem numsB_snoc {xs : List Int} {j : Nat} (h : j < xs.length) : numsB (xs.take (j + 1)) = numsB (xs.take j) ++ numB (zz (xs[j]?.getD 0)) := by
  have e : xs[j]? = some (xs[j]?.getD 0) := by simp [h]
  exact flat_snoc (fun x => numB (zz x)) e
set_option maxHeartbeats 8000000 in
theorem wide_key {n : Nat} {A : Option Addr} {m c : Nat} {els : List CEl} (w : World) (C0 : CondsAt w A m els) (hok : ∀ e ∈ els, KeyOk n e) (hm : m ≤ 1000) (hn : n ≤ 100) :
    Calls Tryz.prog 98 #[.slice A m c] w fun e w' => e = .returned (.string (keyS (els.map CEl.d))) ∧ Below w.heap.size w w' := by
  have HL := Lib.hid C0.len
  have HK := Lib.hid hok
  obtain ⟨ds, hds⟩ : ∃ ds, els.map CEl.d = ds := ⟨_, rfl⟩
  rw [hds]
  have HD := Lib.hid hds
  have HDL := Lib.hid (show ds.length = m by rw [← hds, List.length_map]; exact C0.len)
  have HB := Lib.hid (show ∀ i, (keyB (ds.take i)).length ≤ 1100000 from fun i => by
    rw [← hds, ← List.map_take]
    have h := keys_len hn (els.take i) (fun e he => ⟨hok e (List.mem_of_mem_take he), by rw [(C0.ints e (List.mem_of_mem_take he)).len]; exact (hok e (List.mem_of_mem_take he)).2.1⟩)
    have h2 := List.length_take_le i els
    have h3 := C0.len
    have h4 : (els.take i).length * 1100 ≤ 1000 * 1100 := Nat.mul_le_mul_right _ (by rw [List.length_take]; omega)
    omega)
  have HQB := Lib.hid (show ∀ x ∈ keyB ds, 0 ≤ x ∧ x ≤ 255 from key_byte ds (fun d hd => by rw [← hds] at hd; obtain ⟨e, he, rfl⟩ := List.mem_map.1 hd; exact (hok e he).1))
  clear hok hds
  go_enter Tryz.func98, Tryz.ntmps98
  go_wp2
  go_loopw [3, 10] (fun b v wr => ∃ i : Nat, i ≤ m ∧ v = .int .i64 i ∧ BR w.heap.size wr b (keyB (ds.take i)) ∧ Below w.heap.size w wr) (fun _ v _ => m - (intOf v).toNat)
  case atStart => exact ⟨0, Nat.zero_le _, rfl, BR.nil _ _, Below.refl _ _⟩
  case round =>
    obtain ⟨i, hi, rfl, hL, hbr⟩ := hrel
    by_cases hlt : i < m
    · obtain ⟨b, off, e, rfl, hblt, hej, hmem, hcs, hin⟩ := (C0.step hbr).at hlt
      obtain ⟨x0, x1, x2, x3⟩ := hcs
      obtain ⟨ok0, ok1, ok2, ok3, ok4⟩ := HK.out e hmem
      obtain ⟨eq, eM, eA, en, ec, eK, exs⟩ := e
      simp only at x0 x1 x2 x3 hin ok0 ok1 ok2 ok3 ok4
      subst ok1
      have HJ := Lib.hid (show ds[i]? = some ⟨eq, eM, exs, eK⟩ by rw [← HD.out, List.getElem?_map, hej]; rfl)
      have HX := Lib.hid ok4
      have hq1 : (i : Int) < m := by omega
      have hwq : IntKind.u8.wrap eq = eq := IntWalk.u8_in _ (by omega)
      have hbl := HB.out i
      have HNL := Lib.hid (nums_len exs ok4)
      have hxl := hin.len
      have b1 := below_alloc wr (.cells #[.int .i64 eq, .int .i64 eM, .slice eA en ec, .int .i64 eK] 56)
      have b2 := below_alloc (wr.alloc (.cells #[.int .i64 eq, .int .i64 eM, .slice eA en ec, .int .i64 eK] 56)) (.cells #[.int .u8 eq] 5)
      have X2 := (CBox.new wr eq eM eA en ec eK).step b2
      have hbr2 := (hbr.trans (b1.mono hbr.size)).trans (b2.mono (Nat.le_trans hbr.size b1.size))
      have L2 := (hL.step b1).step b2
      have G2 := heap_alloc_new (wr.alloc (.cells #[.int .i64 eq, .int .i64 eM, .slice eA en ec, .int .i64 eK] 56)) (.cells #[.int .u8 eq] 5)
      rw [World.size_alloc] at G2
      have I2 := (hin.step b1).step b2
      have d0 := (CBox.new wr eq eM eA en ec eK).c0
      have hN2 := hbr2.size
      generalize hcur : keyB (ds.take i) = cur at *
      have HCU := Lib.hid hcur
      have hcl : cur.length + 1 ≤ 100000000 := by omega
      obtain ⟨A9, c9, hu⟩ := hL.slice
      subst hu
      have HI := Lib.hid (C0.ints _ hmem)
      have hN3 := fun (W : World) (h : Below w.heap.size w W) => h.size
      have hql : (cur ++ [eq]).length ≤ 2000000 := by rw [List.length_append]; simp; omega
      have hM10 := num_ten ok2
      have hK10 := num_ten ok3
      clear hcur hej hmem hin ok4 hL hbr b1 b2
      go_wp2_with (first
        | (at_builtin; refine wpList_append_byte rfl _ _ 136 rfl rfl rfl L2 _ eq rfl G2 hcl hN2 ?_; intro u3 w3 L3 hb3; have hbr3 := hbr2.trans hb3.1; have X3 := X2.keep hb3.2; have e1 := X3.c1)
        | (go_at_call 125; (with_reducible (show Calls _ _ #[_, .int .i64 eM] _ _)); refine (wide_number eM ok2 _ L3 (Nat.le_trans hql (by decide)) hbr3.size).mono ?_; rintro e w4 ⟨⟨u4, rfl, L4⟩, hb4, hk4⟩; have hbr4 := hbr3.trans hb4; have X4 := X3.keep hk4; have e2 := X4.c2))
      obtain ⟨pre, hpre⟩ : ∃ pre, cur ++ [eq] ++ numB (zz eM) = pre := ⟨_, rfl⟩
      rw [hpre] at L4
      have HPRE := Lib.hid hpre
      have hprl : pre.length ≤ 2000010 := by rw [← hpre, List.length_append]; omega
      clear hpre L3 X3 e1 X2 hbr3 hb4 hk4 hb3
      have hxl2 := HI.out.len
      go_loopw [3, 28] (fun b v wx => ∃ j : Nat, j ≤ en ∧ v = .int .i64 j ∧ BR w.heap.size wx b (pre ++ numsB (exs.take j)) ∧ Below w.heap.size w wx ∧ KeepT w4 wx) (fun _ v _ => en - (intOf v).toNat)
      case atStart => exact ⟨0, Nat.zero_le _, rfl, by simpa [numsB] using L4, hbr4, KeepT.refl _⟩
      clear L4 hbr4
      case round =>
        obtain ⟨j, hj, rfl, hL, hbx, hkx⟩ := hrel
        have I5 := HI.out.step hbx
        have hjl : (numsB (exs.take j)).length ≤ 1000 := by
          have h := nums_len (exs.take j) (fun x hx => HX.out x (List.mem_of_mem_take hx))
          have h2 := List.length_take_le j exs
          omega
        by_cases hlt2 : j < en
        · obtain ⟨b5, off5, hA5, hlt5, hc5⟩ := I5.cells (by omega)
          subst hA5
          have hcell := hc5 j hlt2
          have hxj := HX.out _ (I5.mem hlt2)
          have HS := Lib.hid (numsB_snoc (xs := exs) (j := j) (by omega))
          have hq2 : (j : Int) < en := by omega
          have hpl2 : (pre ++ numsB (exs.take j)).length ≤ 10000000 := by rw [List.length_append]; omega
          have hNx := hbx.size
          clear hc5
          generalize exs[j]?.getD 0 = y at *
          go_wp2_with (go_at_call 125; refine (wide_number y hxj _ hL hpl2 hNx).mono ?_; rintro e w6 ⟨⟨u6, rfl, L6⟩, hb6, hk6⟩)
          go_roundw
          case rel => exact ⟨j + 1, by omega, by go_num, by rw [HS.out, ← List.append_assoc]; exact L6, hbx.trans hb6, hkx.trans hk6⟩
          case measure => simp [intOf]; omega
        · obtain rfl : j = en := by omega
          have hge : ¬ ((j : Int) < j) := by omega
          have X5 := X4.keep hkx
          have e3 := X5.c3
          have hall : exs.take j = exs := List.take_of_length_le (by omega)
          rw [hall] at hL hjl
          have HE := Lib.hid (show pre ++ numsB exs ++ numB (zz eK) = keyB (ds.take (i + 1)) by
            rw [keyB_snoc HJ.out, HCU.out, ← HPRE.out]
            simp [keyC])
          have hpl2 : (pre ++ numsB exs).length ≤ 10000000 := by rw [List.length_append]; omega
          have hNx := hbx.size
          clear hall
          go_wp2_with (go_at_call 125; refine (wide_number eK ok3 _ hL hpl2 hNx).mono ?_; rintro e w6 ⟨⟨u6, rfl, L6⟩, hb6, hk6⟩)
          go_roundw
          case rel => exact ⟨i + 1, by omega, by go_num, by rw [← HE.out]; exact L6, hbx.trans hb6⟩
          case measure => simp [intOf]; omega
    · obtain rfl : i = m := by omega
      have hall : ds.take i = ds := List.take_of_length_le (by rw [HDL.out]; exact Nat.le_refl _)
      rw [hall] at hL
      obtain ⟨A9, c9, hu⟩ := hL.slice
      subst hu
      have hst := string_of hL HQB.out
      have hge : ¬ ((i : Int) < i) := by omega
      generalize hkl : (keyB ds).length = kl at *
      clear hall hkl
      go_wp2
      go_ret
      exact ⟨rfl, hbr⟩
end Go.Proofs.YtkgnlloioaobiaaGreat
namespace Go.Proofs.YtkgnlloioaobiaaGreat
open Go.ChangeShapes Go.WideShapes Go.ChangeAt Go.RowKit Go.Joins
def CapOf (A : Option Addr) (n c : Nat) : Prop := (A = none → n = 0 ∧ c = 0) ∧ n ≤ c ∧ c ≤ 17592186044416
theorem ints_coreC {H : Type} {enc : TypeId × Value → H} {P : Program} {w : World} {t e : TypeId} {v : Value} {y : DataW H × List MemPlace} {fuel : Nat}
    (ht : P.underlying t = some (.slice e)) (he : P.underlying e = some (.int .i64)) (hc : P.cellsOf e = 1) (hbytes : P.bytesOf e = 8)
    (hlt : ∀ x ∈ y.2, x.block < w.heap.size) (hsz : (y.1.weights P t).all (· ≤ reachBytes) = true)
    (hf : DataW.trod enc P w 0 (fun _ => true) true fuel t [v] = some y) : ∃ A n c xs, v = .slice A n c ∧ Ints w w.heap.size A n xs ∧ CapOf A n c := by
  rcases open_ints ht he hc hf with ⟨hcs, hx⟩ | ⟨a, len', cap', zs, hcs, _, hl, hm, hz, hx, hcell, hwz⟩
  · simp only [List.cons.injEq, and_true] at hcs
    exact ⟨none, 0, 0, [], hcs, ⟨rfl, by omega, fun x hx => by simp at hx, fun h => absurd h (by omega)⟩, fun _ => ⟨rfl, rfl⟩, Nat.le_refl _, by omega⟩
  · simp only [List.cons.injEq, and_true] at hcs
    subst hx
    simp only [if_true] at hz
    have hreach : (zs.length) * 8 ≤ reachBytes := by
      have := List.all_eq_true.1 hsz
      simp only [DataW.weights, ht] at this
      have h0 := this _ List.mem_cons_self
      rw [hbytes] at h0
      simp only [lits, List.length_map, List.length_take, List.length_drop, decide_eq_true_eq] at h0
      have : min len' zs.length + (zs.length - len') = zs.length := by omega
      rw [this] at h0
      exact h0
    have hn : len' ≤ 17592186044416 := by unfold reachBytes at hreach; omega
    refine ⟨some a, len', cap', zs.take len', hcs, ⟨by rw [List.length_take]; omega, hn, fun x hx => bounds_i64 (hwz x (List.mem_of_mem_take hx)), fun h0 => ?_⟩, ⟨fun h => (by cases h), hl, by unfold reachBytes at hreach; omega⟩⟩
    obtain ⟨b, off, spot⟩ := a
    have hspot : spot = none := by simpa [Addr.add] using World.cell?_spot (hcell 0 (by omega))
    subst hspot
    refine ⟨b, off, rfl, hlt (.cell b off) (MemPlace.mem_row.2 ⟨0, by omega, by simp⟩), fun j hj => ?_⟩
    rw [← add_plain, hcell j (by omega)]
    congr 2
    simp [List.getD, hj]
def CapAt (N : Nat) (A : Option Addr) (n c : Nat) : Prop := CapOf A n c ∧ ∀ ad, A = some ad → ad.spot = none ∧ ad.block < N
theorem CapAt.mono {N N' : Nat} {A : Option Addr} {n c : Nat} (h : CapAt N A n c) (hN : N ≤ N') : CapAt N' A n c := ⟨h.1, fun ad e => ⟨(h.2 ad e).1, Nat.lt_of_lt_of_le (h.2 ad e).2 hN⟩⟩
end Go.Proofs.YtkgnlloioaobiaaGreat
namespace Go.Proofs.YtkgnlloioaobiaaGreat
open Go.ChangeShapes Go.WideShapes Go.ChangeAt Go.RowKit Go.Joins Go.Deep
structure PEl where
  A : Option Addr
  n : Nat
  c : Nat
  els : List CEl
structure PiecesAt (w : World) (A : Option Addr) (m : Nat) (ps : List PEl) : Prop where
  len : ps.length = m
  small : m ≤ 17592186044416
  cells : 0 < m → ∃ b off, A = some ⟨b, off, none⟩ ∧ b < w.heap.size ∧ ∀ j p, ps[j]? = some p → w.cell? ⟨b, off + j, none⟩ = some (.slice p.A p.n p.c)
  conds : ∀ p ∈ ps, CondsAt w p.A p.n p.els
theorem PiecesAt.step {w w' : World} {A : Option Addr} {m : Nat} {ps : List PEl} (h : PiecesAt w A m ps) (hb : Below w.heap.size w w') : PiecesAt w' A m ps :=
  ⟨h.len, h.small, fun hm => let ⟨b, off, hA, hlt, hc⟩ := h.cells hm; ⟨b, off, hA, Nat.lt_of_lt_of_le hlt hb.size, fun j p hp => (hb.cell (p := ⟨b, off + j, none⟩) hlt).trans (hc j p hp)⟩, fun p hp => (h.conds p hp).step hb⟩
theorem PiecesAt.at {w : World} {A : Option Addr} {m : Nat} {ps : List PEl} (h : PiecesAt w A m ps) {j : Nat} (hj : j < m) : ∃ b off p, A = some ⟨b, off, none⟩ ∧ b < w.heap.size ∧ ps[j]? = some p ∧ p ∈ ps ∧ w.cell? ⟨b, off + j, none⟩ = some (.slice p.A p.n p.c) ∧ CondsAt w p.A p.n p.els := by
  obtain ⟨b, off, hA, hlt, hc⟩ := h.cells (by omega)
  have hj' : j < ps.length := by rw [h.len]; exact hj
  exact ⟨b, off, ps[j], hA, hlt, List.getElem?_eq_getElem hj', List.getElem_mem hj', hc j _ (List.getElem?_eq_getElem hj'), h.conds _ (List.getElem_mem hj')⟩
theorem list_of {α : Type} {P : Nat → α → Prop} : ∀ n : Nat, (∀ i, i < n → ∃ e, P i e) → ∃ l : List α, l.length = n ∧ ∀ i e, l[i]? = some e → P i e
  | 0, _ => ⟨[], rfl, fun i e h => by simp at h⟩
  | n + 1, h => by
    obtain ⟨l, hl, hp⟩ := list_of n fun i hi => h i (by omega)
    obtain ⟨e, he⟩ := h n (by omega)
    refine ⟨l ++ [e], by simp [hl], fun i x hx => ?_⟩
    by_cases hi : i < l.length
    · rw [List.getElem?_append_left hi] at hx
      exact hp i x hx
    · rw [List.getElem?_append_right (by omega)] at hx
      have : i - l.length = 0 := by
        rcases Nat.eq_zero_or_pos (i - l.length) with h0 | h0
        · exact h0
        · rw [List.getElem?_eq_none (by simp; omega)] at hx; cases hx
      rw [this] at hx
      have hin : i = n := by omega
      cases hx
      rw [hin]; exact he
theorem weights_mem {H : Type} {P : Program} {e : TypeId} {p : Nat → Bool} {d : DataW H} : ∀ {l : List (DataW H)}, d ∈ l → (DataW.weightsAll P e l).all p = true → (d.weights P e).all p = true
  | [], h, _ => by cases h
  | x :: l, h, ha => by
    simp only [DataW.weightsAll, List.all_append, Bool.and_eq_true] at ha
    rcases List.mem_cons.1 h with rfl | h
    · exact ha.1
    · exact weights_mem h ha.2
section
variable {H : Type} {enc : TypeId × Value → H} {w : World}
end
end Go.Proofs.YtkgnlloioaobiaaGreat
namespace Go.Proofs.YtkgnlloioaobiaaGreat
open Go.ChangeShapes Go.WideShapes Go.ChangeAt Go.RowKit Go.Maps
theorem str_key : Keyed Tryz.prog 9 := string_keyed Tryz.underlying9
theorem keyOf_str (s : List UInt8) (h : s.length ≤ maxLen) : keyOf Tryz.prog 9 (.string ⟨s.toArray⟩) = some (.string s) := by
  have hs : (⟨s.toArray⟩ : ByteArray).size ≤ maxLen := by simpa [ByteArray.size] using h
  simp [keyOf, Tryz.underlying9, mapKey, hs]
theorem bool_inv {H : Type} {v : Value} {z : DataW H × List MemPlace} (h : plainElem Tryz.prog 4 v = some z) : ∃ x, v = .bool x ∧ z = (.lit (.bool x), []) := by
  unfold plainElem at h
  rw [Tryz.underlying4] at h
  cases v <;> simp at h
  exact ⟨_, rfl, h.symm⟩
def PEl.v (p : PEl) : Value := .slice p.A p.n p.c
def PieceOk (n : Nat) (w : World) (p : PEl) : Prop := CV 0 0 w p.A p.n p.els ∧ (∀ e ∈ p.els, KeyOk n e) ∧ p.n ≤ 1000 ∧ Sane p.A p.c ∧ p.n ≤ p.c
def PEl.key (p : PEl) : List UInt8 := keyU (p.els.map CEl.d)
structure KeepU (w w' : World) : Prop where
  size : w.heap.size ≤ w'.heap.size
  rows : ∀ (k : Nat) (cs : Array Value) (t : TypeId) (fz : Nat × Nat), w.heap[k]? = some (.cells cs t fz) → t = 56 ∨ t = 3 ∨ t = 84 → w'.heap[k]? = some (.cells cs t fz)
theorem KeepU.refl (w : World) : KeepU w w := ⟨Nat.le_refl _, fun _ _ _ _ h _ => h⟩
theorem KeepU.trans {w w' w'' : World} (h : KeepU w w') (h' : KeepU w' w'') : KeepU w w'' := ⟨Nat.le_trans h.size h'.size, fun k cs t fz e ht => h'.rows k cs t fz (h.rows k cs t fz e ht) ht⟩
theorem KeepU.of_below {w w' : World} (hb : Below w.heap.size w w') : KeepU w w' := ⟨hb.size, fun k cs t fz e _ => (hb.block k (Array.getElem?_eq_some_iff.1 e).1).trans e⟩
def SetsStay (w w' : World) : Prop := ∀ (k : Nat) (cs : Array Value) (fz : Nat × Nat), w.heap[k]? = some (.cells cs 24 fz) → w'.heap[k]? = some (.cells cs 24 fz)
theorem SetsStay.refl (w : World) : SetsStay w w := fun _ _ _ h => h
theorem SetsStay.trans {w w' w'' : World} (h : SetsStay w w') (h' : SetsStay w' w'') : SetsStay w w'' := fun k cs fz e => h' k cs fz (h k cs fz e)
theorem SetsStay.of_below {w w' : World} (hb : Below w.heap.size w w') : SetsStay w w' := fun k cs fz e => (hb.block k (Array.getElem?_eq_some_iff.1 e).1).trans e
theorem SetsStay.putObj {w : World} {l : Nat} {o o' : Obj} (hl : w.heap[l]? = some o) (ho : o.isCells = false) : SetsStay w (w.putObj l o') := fun k cs fz e => (World.putObj_heap_other (fun h9 => by
  subst h9
  rw [hl] at e
  cases e
  cases ho)).trans e
structure KeepUR (r : Nat) (w w' : World) : Prop where
  u : KeepU w w'
  o : ∀ (k : Nat) (ob : Obj), k ≠ r → w.heap[k]? = some ob → ob.isCells = false → w'.heap[k]? = some ob
  s : SetsStay w w'
theorem KeepUR.of_below {r : Nat} {w w' : World} (hb : Below w.heap.size w w') : KeepUR r w w' := ⟨.of_below hb, fun k ob _ e _ => (hb.block k (Array.getElem?_eq_some_iff.1 e).1).trans e, .of_below hb⟩
theorem KeepUR.trans {r : Nat} {w w' w'' : World} (h : KeepUR r w w') (h' : KeepUR r w' w'') : KeepUR r w w'' := ⟨h.u.trans h'.u, fun k ob hk e ho => h'.o k ob hk (h.o k ob hk e ho) ho, h.s.trans h'.s⟩
theorem KeepUR.from {r B : Nat} {w w' : World} (h : KeepUR r w w') (hr : r < B) : KeepsFrom B w w' := ⟨h.u.size, fun k ob hk e ho => h.o k ob (by omega) e ho⟩
theorem CV.keep {N0 N : Nat} {w w' : World} {A : Option Addr} {m : Nat} {els : List CEl} (h : CV N0 N w A m els) (hk : KeepU w w') : CV N0 N w' A m els := by
  refine ⟨h.len, h.few, fun e he => ?_, fun e he => ?_, fun h0 => ?_⟩
  · have hI := h.ints e he
    refine ⟨hI.len, hI.small, hI.wf, fun hn => ?_⟩
    obtain ⟨b, off, hA, hlt, hc⟩ := hI.cells hn
    refine ⟨b, off, hA, Nat.lt_of_lt_of_le hlt hk.size, fun j hj => ?_⟩
    rw [← hc j hj]
    rcases h.rows e he with h0 | ⟨b', hA', _, cur, h1, _⟩
    · omega
    · rw [hA] at hA'
      cases hA'
      exact World.cell?_of_block ((hk.rows _ _ _ _ h1 (.inr (.inl rfl))).trans h1.symm)
  · exact (h.rows e he).imp id fun ⟨b, a, hb, cur, hc, hn⟩ => ⟨b, a, hb, cur, hk.rows _ _ _ _ hc (.inr (.inl rfl)), hn⟩
  · obtain ⟨g, o, cur, hA, hg, hc, r⟩ := h.row h0
    exact ⟨g, o, cur, hA, hg, hk.rows _ _ _ _ hc (.inl rfl), r⟩
theorem PieceOk.keep {n : Nat} {w w' : World} {p : PEl} (h : PieceOk n w p) (hk : KeepU w w') : PieceOk n w' p := ⟨h.1.keep hk, h.2⟩
structure UN (n N : Nat) (w : World) (b : Nat) (u : Value) (r : Nat) (ps : List PEl) : Prop where
  box : w.heap[b]? = some (.cells #[u, .map (some r)] 111 (0, 0))
  own : w.ownsRow N 34 1 u ps.length (ps.map PEl.v)
  map : ∃ D : DataW Unit, w.ownsMap Tryz.prog 9 (plainElem Tryz.prog 4) r ps.length D ∧ ∀ s : List UInt8, D.atKey (.string s) (.lit (.bool false)) = .lit (.bool (decide (∃ p ∈ ps, p.key = s)))
  few : ps.length ≤ 400
  hb : N ≤ b
  hr : N ≤ r
  ok : ∀ p ∈ ps, PieceOk n w p
section
variable {n N : Nat} {w w' : World} {b : Nat} {u : Value} {r : Nat} {ps : List PEl}
theorem UN.step (h : UN n N w b u r ps) (hb : Below w.heap.size w w') : UN n N w' b u r ps := by
  refine ⟨(hb.block b (Array.getElem?_eq_some_iff.1 h.box).1).trans h.box, ⟨h.own.1, ?_⟩, ?_, h.few, h.hb, h.hr, fun p hp => (h.ok p hp).keep (.of_below hb)⟩
  · rcases h.own.2 with h0 | ⟨g, cap, cur, hv, hg, hc, rest⟩
    · exact .inl h0
    · exact .inr ⟨g, cap, cur, hv, hg, (hb.block g (Array.getElem?_eq_some_iff.1 hc).1).trans hc, rest⟩
  · obtain ⟨D, ⟨es, clock, hm, rest⟩, hD⟩ := h.map
    exact ⟨D, ⟨es, clock, (hb.block r (Array.getElem?_eq_some_iff.1 hm).1).trans hm, rest⟩, hD⟩
theorem UN.slice (h : UN n N w b u r ps) : ∃ A c, u = .slice A ps.length c := by
  rcases h.own.2 with ⟨rfl, h0⟩ | ⟨g, cap, cur, rfl, _⟩
  · rw [h0]; exact ⟨none, 0, rfl⟩
  · exact ⟨_, _, rfl⟩
theorem UN.c0 (h : UN n N w b u r ps) : w.cell? ⟨b, 0, none⟩ = some u := by rw [cell_of_row w b 0 _ _ (0, 0) h.box]; rfl
theorem UN.c1 (h : UN n N w b u r ps) : w.cell? ⟨b, 1, none⟩ = some (.map (some r)) := by rw [cell_of_row w b 1 _ _ (0, 0) h.box]; rfl
theorem UN.f (h : UN n N w b u r ps) (j : Nat) : w.frozen? ⟨b, j, none⟩ = false := by
  have := h.box
  simp [World.frozen?, this]
theorem UN.look (h : UN n N w b u r ps) (s : List UInt8) (hs : s.length ≤ maxLen) : (Instr.lookup 109 (.map (some r)) (.string ⟨s.toArray⟩) false).run Tryz.prog w = .ok (.bool (decide (∃ p ∈ ps, p.key = s))) w := by
  obtain ⟨D, hm, hD⟩ := h.map
  obtain ⟨v, pl, hrun, hv⟩ := hm.lookup str_key Tryz.underlying109 (z := .bool false) (by kernel_rfl) (plainElem_bool Tryz.underlying4 false) (keyOf_str s hs)
  obtain ⟨x, rfl, hx⟩ := bool_inv hv
  rw [hD s] at hx
  simp only [Prod.mk.injEq, DataW.lit.injEq, Lit.bool.injEq] at hx
  rw [hrun, hx.1]
end
def keepP (ps : List PEl) (p : PEl) : Int × List PEl := if ∃ q ∈ ps, q.key = p.key then (0, ps) else if ps.length = 400 then (3, ps) else (0, ps ++ [p])
def KeepRet (n N : Nat) (w : World) (e : Ending) (w' : World) (b r : Nat) (out : Int × List PEl) : Prop :=
  (∃ u', e = .returned (.int .i64 out.1) ∧ UN n N w' b u' r out.2) ∧ Below N w w' ∧ KeepUR r w w'
end Go.Proofs.YtkgnlloioaobiaaGreat
namespace Go.Proofs.YtkgnlloioaobiaaGreat
open Go.RowKit
structure Kinds (els : List CEl) (m a b : Nat) : Prop where
  ab : a ≤ b
  bm : b ≤ m
  eqs : ∀ j x, j < a → els[j]? = some x → x.q = 1
  eqx : ∀ x, els[a]? = some x → x.q ≠ 1
  ges : ∀ j x, a ≤ j → j < b → els[j]? = some x → x.q = 0
  gex : ∀ x, els[b]? = some x → x.q ≠ 0
def KindsRet (w : World) (e : Ending) (w' : World) (g o m c : Nat) (els : List CEl) : Prop :=
  ∃ a b o1 o2 o3, e = .returned (.tuple #[.slice (some ⟨g, o1, none⟩) a a, .slice (some ⟨g, o2, none⟩) (b - a) (b - a), .slice (some ⟨g, o3, none⟩) (m - b) (c - b)]) ∧ (0 < a → o1 = o) ∧ (0 < b - a → o2 = o + a * 4) ∧ (0 < m - b → o3 = o + b * 4) ∧ Kinds els m a b ∧ ∃ q, w' = w.drewN q
theorem kinds_ret {w w' : World} {g o m c : Nat} {els : List CEl} {a b : Nat} (hK : Kinds els m a b) {o1 o2 o3 n1 c1 n2 c2 n3 c3 : Nat} (e1 : n1 = a) (f1 : c1 = a) (e2 : n2 = b - a) (f2 : c2 = b - a) (e3 : n3 = m - b) (f3 : c3 = c - b)
    (h1 : 0 < a → o1 = o) (h2 : 0 < b - a → o2 = o + a * 4) (h3 : 0 < m - b → o3 = o + b * 4) (hw : ∃ q, w' = w.drewN q) :
    KindsRet w (.returned (.tuple #[.slice (some ⟨g, o1, none⟩) n1 c1, .slice (some ⟨g, o2, none⟩) n2 c2, .slice (some ⟨g, o3, none⟩) n3 c3])) w' g o m c els := by
  subst e1; subst f1; subst e2; subst f2; subst e3; subst f3
  exact ⟨_, b, o1, o2, o3, rfl, h1, h2, h3, hK, hw⟩
set_option maxHeartbeats 4000000 in
theorem wide_kinds {g o m c : Nat} {els : List CEl} (w : World) (C0 : CondsAt w (some ⟨g, o, none⟩) m els) (hfew : m ≤ 100000) (hmc : m ≤ c) (hc : c ≤ 9223372036854775807) :
    Calls Tryz.prog 118 #[.slice (some ⟨g, o, none⟩) m c] w fun e w' => KindsRet w e w' g o m c els := by
  have HL := Lib.hid C0.len
  go_enter Tryz.func118, Tryz.ntmps118
  go_wp2
  go_loop [5] (fun v => ∃ a : Nat, a ≤ m ∧ v = .int .i64 a ∧ ∀ j x, j < a → els[j]? = some x → x.q = 1) (fun v => m - (intOf v).toNat)
  case atStart => exact ⟨0, Nat.zero_le _, rfl, fun j x h => absurd h (by omega)⟩
  case round =>
    obtain ⟨a, ha, rfl, hg⟩ := hrel
    have HG := Lib.hid hg
    clear hg
    by_cases hex : ∃ x, els[a]? = some x ∧ x.q = 1
    · obtain ⟨x, hx, hxq⟩ := hex
      have hlt : a < m := by have := (List.getElem?_eq_some_iff.1 hx).1; have := HL.out; omega
      have hq1 : (a : Int) < m := by omega
      have HX := Lib.hid hx
      obtain ⟨b1, off, e, hA, hblt, hej, hmem, hcs, hin⟩ := C0.at hlt; cases hA; obtain ⟨x0, x1, x2, x3⟩ := hcs; have HEJ := Lib.hid hej; obtain ⟨eq, eM, eA, en, ec, eK, exs⟩ := e; simp only at x0 x1 x2 x3; clear hej hmem hin
      have heq : eq = 1 := by have := HX.out; rw [HEJ.out] at this; cases this; exact hxq
      have HXQ := Lib.hid heq
      subst heq
      clear hx hxq
      go_wp2
      go_round
      case rel => exact ⟨a + 1, by omega, by go_num, fun j y hj hy => by
        rcases Nat.lt_or_eq_of_le (Nat.le_of_lt_succ hj) with h | rfl
        · exact HG.out j y h hy
        · rw [HEJ.out] at hy; cases hy; rfl⟩
      case measure => simp [intOf]; omega
    · have HA := Lib.hid (show ∀ x, els[a]? = some x → x.q ≠ 1 from fun x hx hq => hex ⟨x, hx, hq⟩)
      clear hex
      have key : ∀ (K : Prop), ((a < m → ∃ eq : Int, (eq == 1) = false ∧ w.cell? ⟨g, o + a * 4, none⟩ = some (.int .i64 eq)) → K) → K := fun K h => h fun hlt => by
        obtain ⟨b1, off, e, hA, hblt, hej, hmem, hcs, hin⟩ := C0.at hlt; cases hA; obtain ⟨x0, x1, x2, x3⟩ := hcs; have HEJ := Lib.hid hej; obtain ⟨eq, eM, eA, en, ec, eK, exs⟩ := e; simp only at x0 x1 x2 x3; clear hej hmem hin
        exact ⟨eq, by simpa using HA.out _ HEJ.out, x0⟩
      refine key _ fun hkey => ?_
      clear key
      have HK := Lib.hid hkey
      clear hkey
      by_cases hlt : a < m
      · obtain ⟨eq, hne, x0⟩ := HK.out hlt
        have hq1 : (a : Int) < m := by omega
        clear hlt
        go_wp2
        clear hq1
        go_loop [6] (fun v => ∃ b : Nat, a ≤ b ∧ b ≤ m ∧ v = .int .i64 b ∧ ∀ j x, a ≤ j → j < b → els[j]? = some x → x.q = 0) (fun v => m - (intOf v).toNat)
        case atStart => exact ⟨a, Nat.le_refl _, ha, rfl, fun j x h1 h2 => absurd h2 (by omega)⟩
        case round =>
          obtain ⟨b, hab, hb, rfl, hg⟩ := hrel
          have HGB := Lib.hid hg
          clear hg
          by_cases hex : ∃ x, els[b]? = some x ∧ x.q = 0
          · obtain ⟨x, hx, hxq⟩ := hex
            have hlt : b < m := by have := (List.getElem?_eq_some_iff.1 hx).1; have := HL.out; omega
            have hq1 : (b : Int) < m := by omega
            have HX := Lib.hid hx
            obtain ⟨b1, off, e, hA, hblt, hej, hmem, hcs, hin⟩ := C0.at hlt; cases hA; obtain ⟨x0, x1, x2, x3⟩ := hcs; have HEJ := Lib.hid hej; obtain ⟨eq, eM, eA, en, ec, eK, exs⟩ := e; simp only at x0 x1 x2 x3; clear hej hmem hin
            have heq : eq = 0 := by have := HX.out; rw [HEJ.out] at this; cases this; exact hxq
            have HXQ := Lib.hid heq
            subst heq
            clear hx hxq
            go_wp2
            go_round
            case rel => exact ⟨b + 1, by omega, by omega, by go_num, fun j y h1 hj hy => by
              rcases Nat.lt_or_eq_of_le (Nat.le_of_lt_succ hj) with h | rfl
              · exact HGB.out j y h1 h hy
              · rw [HEJ.out] at hy; cases hy; rfl⟩
            case measure => simp [intOf]; omega
          · have HB := Lib.hid (show ∀ x, els[b]? = some x → x.q ≠ 0 from fun x hx hq => hex ⟨x, hx, hq⟩)
            clear hex
            have key : ∀ (K : Prop), ((b < m → ∃ eq : Int, (eq == 0) = false ∧ w.cell? ⟨g, o + b * 4, none⟩ = some (.int .i64 eq)) → K) → K := fun K h => h fun hlt => by
              obtain ⟨b1, off, e, hA, hblt, hej, hmem, hcs, hin⟩ := C0.at hlt; cases hA; obtain ⟨x0, x1, x2, x3⟩ := hcs; have HEJ := Lib.hid hej; obtain ⟨eq, eM, eA, en, ec, eK, exs⟩ := e; simp only at x0 x1 x2 x3; clear hej hmem hin
              exact ⟨eq, by simpa using HB.out _ HEJ.out, x0⟩
            refine key _ fun hkey => ?_
            clear key
            by_cases hlt : b < m
            · obtain ⟨eq2, hne2, z0⟩ := hkey hlt
              have hq1 : (b : Int) < m := by omega
              clear hkey
              go_wp2
              have HKD := Lib.hid (Kinds.mk hab hb HG.out HA.out HGB.out HB.out)
              go_quiet (fail)
              go_wp2
              all_goals
                go_ret3
                exact kinds_ret HKD.out (by omega) (by omega) (by omega) (by omega) (by omega) (by omega) (fun _ => rfl) (fun h => by first | rfl | omega | (congr 2; omega)) (fun h => by first | rfl | omega | (congr 2; omega)) ⟨_, rfl⟩
            · have hq1 : ¬ ((b : Int) < m) := by omega
              clear hkey
              go_wp2
              have HKD := Lib.hid (Kinds.mk hab hb HG.out HA.out HGB.out HB.out)
              go_quiet (fail)
              go_wp2
              all_goals
                go_ret3
                exact kinds_ret HKD.out (by omega) (by omega) (by omega) (by omega) (by omega) (by omega) (fun _ => rfl) (fun h => by first | rfl | omega | (congr 2; omega)) (fun h => by first | rfl | omega | (congr 2; omega)) ⟨_, rfl⟩
      · have hq1 : ¬ ((a : Int) < m) := by omega
        clear hlt
        go_wp2
        clear hq1
        go_loop [6] (fun v => ∃ b : Nat, a ≤ b ∧ b ≤ m ∧ v = .int .i64 b ∧ ∀ j x, a ≤ j → j < b → els[j]? = some x → x.q = 0) (fun v => m - (intOf v).toNat)
        case atStart => exact ⟨a, Nat.le_refl _, ha, rfl, fun j x h1 h2 => absurd h2 (by omega)⟩
        case round =>
          obtain ⟨b, hab, hb, rfl, hg⟩ := hrel
          have HGB := Lib.hid hg
          clear hg
          by_cases hex : ∃ x, els[b]? = some x ∧ x.q = 0
          · obtain ⟨x, hx, hxq⟩ := hex
            have hlt : b < m := by have := (List.getElem?_eq_some_iff.1 hx).1; have := HL.out; omega
            have hq1 : (b : Int) < m := by omega
            have HX := Lib.hid hx
            obtain ⟨b1, off, e, hA, hblt, hej, hmem, hcs, hin⟩ := C0.at hlt; cases hA; obtain ⟨x0, x1, x2, x3⟩ := hcs; have HEJ := Lib.hid hej; obtain ⟨eq, eM, eA, en, ec, eK, exs⟩ := e; simp only at x0 x1 x2 x3; clear hej hmem hin
            have heq : eq = 0 := by have := HX.out; rw [HEJ.out] at this; cases this; exact hxq
            have HXQ := Lib.hid heq
            subst heq
            clear hx hxq
            go_wp2
            go_round
            case rel => exact ⟨b + 1, by omega, by omega, by go_num, fun j y h1 hj hy => by
              rcases Nat.lt_or_eq_of_le (Nat.le_of_lt_succ hj) with h | rfl
              · exact HGB.out j y h1 h hy
              · rw [HEJ.out] at hy; cases hy; rfl⟩
            case measure => simp [intOf]; omega
          · have HB := Lib.hid (show ∀ x, els[b]? = some x → x.q ≠ 0 from fun x hx hq => hex ⟨x, hx, hq⟩)
            clear hex
            have key : ∀ (K : Prop), ((b < m → ∃ eq : Int, (eq == 0) = false ∧ w.cell? ⟨g, o + b * 4, none⟩ = some (.int .i64 eq)) → K) → K := fun K h => h fun hlt => by
              obtain ⟨b1, off, e, hA, hblt, hej, hmem, hcs, hin⟩ := C0.at hlt; cases hA; obtain ⟨x0, x1, x2, x3⟩ := hcs; have HEJ := Lib.hid hej; obtain ⟨eq, eM, eA, en, ec, eK, exs⟩ := e; simp only at x0 x1 x2 x3; clear hej hmem hin
              exact ⟨eq, by simpa using HB.out _ HEJ.out, x0⟩
            refine key _ fun hkey => ?_
            clear key
            by_cases hlt : b < m
            · obtain ⟨eq2, hne2, z0⟩ := hkey hlt
              have hq1 : (b : Int) < m := by omega
              clear hkey
              go_wp2
              have HKD := Lib.hid (Kinds.mk hab hb HG.out HA.out HGB.out HB.out)
              go_quiet (fail)
              go_wp2
              all_goals
                go_ret3
                exact kinds_ret HKD.out (by omega) (by omega) (by omega) (by omega) (by omega) (by omega) (fun _ => rfl) (fun h => by first | rfl | omega | (congr 2; omega)) (fun h => by first | rfl | omega | (congr 2; omega)) ⟨_, rfl⟩
            · have hq1 : ¬ ((b : Int) < m) := by omega
              clear hkey
              go_wp2
              have HKD := Lib.hid (Kinds.mk hab hb HG.out HA.out HGB.out HB.out)
              go_quiet (fail)
              go_wp2
              all_goals
                go_ret3
                exact kinds_ret HKD.out (by omega) (by omega) (by omega) (by omega) (by omega) (by omega) (fun _ => rfl) (fun h => by first | rfl | omega | (congr 2; omega)) (fun h => by first | rfl | omega | (congr 2; omega)) ⟨_, rfl⟩
end Go.Proofs.YtkgnlloioaobiaaGreat
namespace Go.Proofs.YtkgnlloioaobiaaGreat
open Go.RowKit
structure Work (N0 : Nat) (g o m : Nat) (els : List CEl) (w wr : World) (kept : List CEl) (p : Nat) : Prop where
  touch : Touch (some ⟨g, o, none⟩) m w wr
  row : ∃ cur, wr.heap[g]? = some (.cells cur 56 (0, 0)) ∧ o + m * 4 ≤ cur.size ∧ (∀ j, j < kept.length * 4 → cur[o + j]? = (ccells kept)[j]?) ∧ ∀ j, p * 4 ≤ j → j < m * 4 → cur[o + j]? = (ccells els)[j]?
section
variable {N0 N : Nat} {g o m : Nat} {els kept : List CEl} {w wr wr' : World} {p : Nat}
theorem Work.start (h : CV N0 N w (some ⟨g, o, none⟩) m els) (h0 : 0 < m) (hb : Below w.heap.size w wr) (k : Nat) (hk : k ≤ m) : Work N0 g o m els w wr (els.take k) 0 := by
  refine ⟨Touch.of_below hb, ?_⟩
  obtain ⟨g', o', cur, hA, _, hc, hs, hat⟩ := h.row h0
  cases hA
  refine ⟨cur, (hb.block g (Array.getElem?_eq_some_iff.1 hc).1).trans hc, hs, fun j hj => ?_, fun j _ hj => hat j hj⟩
  have hl := h.len
  rw [List.length_take] at hj
  rw [cells_take _ _ _ (by omega)]
  exact hat j (by omega)
theorem Work.weak (h : Work N0 g o m els w wr kept p) {q : Nat} (hq : p ≤ q) : Work N0 g o m els w wr kept q :=
  ⟨h.touch, let ⟨cur, hc, hs, h1, h2⟩ := h.row; ⟨cur, hc, hs, h1, fun j hj => h2 j (by omega)⟩⟩
theorem Work.lt (h : Work N0 g o m els w wr kept p) : g < wr.heap.size := let ⟨_, hc, _⟩ := h.row; (Array.getElem?_eq_some_iff.1 hc).1
theorem Work.step (h : Work N0 g o m els w wr kept p) (hb : Below wr.heap.size wr wr') : Work N0 g o m els w wr' kept p :=
  ⟨h.touch.trans (Touch.of_below hb), let ⟨cur, hc, r⟩ := h.row; ⟨cur, (hb.block g (Array.getElem?_eq_some_iff.1 hc).1).trans hc, r⟩⟩
theorem Work.cells (h : Work N0 g o m els w wr kept p) {j : Nat} (hp : p ≤ j) (hj : j < m) {e : CEl} (he : els[j]? = some e) : CellsOf wr g (o + j * 4) e := by
  obtain ⟨cur, hc, hs, _, hat⟩ := h.row
  obtain ⟨a0, a1, a2, a3⟩ := ccells_at els j e he
  have key : ∀ k v, k < 4 → (ccells els)[j * 4 + k]? = some v → wr.cell? ⟨g, o + j * 4 + k, none⟩ = some v := fun k v hk hv => by
    have := hat (j * 4 + k) (by omega) (by omega)
    rw [hv] at this
    simp only [World.cell?, hc]
    simpa [Nat.add_assoc] using this
  exact ⟨key 0 _ (by omega) a0, key 1 _ (by omega) a1, key 2 _ (by omega) a2, key 3 _ (by omega) a3⟩
theorem Work.some_cell (h : Work N0 g o m els w wr kept p) {j : Nat} (hj : j < m * 4) : (wr.cell? ⟨g, o + j, none⟩).isSome = true := by
  obtain ⟨cur, hc, hs, _⟩ := h.row
  simp only [World.cell?, hc]
  simp
  omega
theorem Work.free (h : Work N0 g o m els w wr kept p) (j : Nat) : wr.frozen? ⟨g, j, none⟩ = false := by
  obtain ⟨cur, hc, _⟩ := h.row
  simp [World.frozen?, hc]
theorem set_four (w : World) (g q : Nat) (a b c d : Value) : w.setCells g q [a, b, c, d] = (((w.setCell ⟨g, q, none⟩ a).setCell ⟨g, q + 1, none⟩ b).setCell ⟨g, q + 2, none⟩ c).setCell ⟨g, q + 3, none⟩ d := rfl
theorem row_cell {w : World} {g : Nat} {cur : Array Value} {e : TypeId} (h : w.heap[g]? = some (.cells cur e (0, 0))) {j : Nat} (hj : j < cur.size) : (∃ u, w.cell? ⟨g, j, none⟩ = some u) ∧ w.frozen? ⟨g, j, none⟩ = false := by
  refine ⟨⟨cur[j], by simp [World.cell?, h, hj]⟩, by simp [World.frozen?, h]⟩
theorem row_set {w : World} {g : Nat} {cur : Array Value} {e : TypeId} {fz : Nat × Nat} (h : w.heap[g]? = some (.cells cur e fz)) (j : Nat) (v : Value) : (w.setCell ⟨g, j, none⟩ v).heap[g]? = some (.cells (cur.setIfInBounds j v) e fz) := by
  simp only [World.setCell]
  rw [Array.getElem?_modify, if_pos rfl, h]
  rfl
theorem four_stores {w : World} {g : Nat} {cur : Array Value} {e : TypeId} (h : w.heap[g]? = some (.cells cur e (0, 0))) {q : Nat} (hq : q + 4 ≤ cur.size) (a b c : Value) :
    ((∃ u, w.cell? ⟨g, q, none⟩ = some u) ∧ w.frozen? ⟨g, q, none⟩ = false) ∧
    ((∃ u, (w.setCell ⟨g, q, none⟩ a).cell? ⟨g, q + 1, none⟩ = some u) ∧ (w.setCell ⟨g, q, none⟩ a).frozen? ⟨g, q + 1, none⟩ = false) ∧
    ((∃ u, ((w.setCell ⟨g, q, none⟩ a).setCell ⟨g, q + 1, none⟩ b).cell? ⟨g, q + 2, none⟩ = some u) ∧ ((w.setCell ⟨g, q, none⟩ a).setCell ⟨g, q + 1, none⟩ b).frozen? ⟨g, q + 2, none⟩ = false) ∧
    ((∃ u, (((w.setCell ⟨g, q, none⟩ a).setCell ⟨g, q + 1, none⟩ b).setCell ⟨g, q + 2, none⟩ c).cell? ⟨g, q + 3, none⟩ = some u) ∧ (((w.setCell ⟨g, q, none⟩ a).setCell ⟨g, q + 1, none⟩ b).setCell ⟨g, q + 2, none⟩ c).frozen? ⟨g, q + 3, none⟩ = false) := by
  have h1 := row_set h q a
  have h2 := row_set h1 (q + 1) b
  have h3 := row_set h2 (q + 2) c
  exact ⟨row_cell h (by omega), row_cell h1 (by simp; omega), row_cell h2 (by simp; omega), row_cell h3 (by simp; omega)⟩
theorem Work.put (h : Work N0 g o m els w wr kept p) (hk : kept.length ≤ p) (hp : p + 1 < m + 1) (e : CEl) {q : Nat} (hq : p < q) (h0 : 0 < m) :
    Work N0 g o m els w ((((wr.setCell ⟨g, o + kept.length * 4, none⟩ (.int .i64 e.q)).setCell ⟨g, o + kept.length * 4 + 1, none⟩ (.int .i64 e.M)).setCell ⟨g, o + kept.length * 4 + 2, none⟩ (.slice e.A e.n e.c)).setCell ⟨g, o + kept.length * 4 + 3, none⟩ (.int .i64 e.K)) (kept ++ [e]) q := by
  rw [← set_four]
  obtain ⟨cur, hc, hs, h1, h2⟩ := h.row
  have hlen : ([.int .i64 e.q, .int .i64 e.M, .slice e.A e.n e.c, .int .i64 e.K] : List Value).length = 4 := rfl
  refine ⟨h.touch.trans (touch_set rfl h0 (by omega) (by rw [hlen]; omega) hc hs), ?_⟩
  obtain ⟨c2, k1, k2, k3, k4⟩ := set_row g [.int .i64 e.q, .int .i64 e.M, .slice e.A e.n e.c, .int .i64 e.K] (o + kept.length * 4) wr hc (by rw [hlen]; omega)
  rw [hlen] at k3 k4
  refine ⟨c2, k1, by omega, fun j hj => ?_, fun j hj hj2 => ?_⟩
  · rw [ccells_app]
    by_cases hjk : j < kept.length * 4
    · rw [List.getElem?_append_left (by rw [ccells_len]; exact hjk), k3 _ (by omega)]
      exact h1 j hjk
    · rw [List.length_append, List.length_singleton] at hj
      rw [List.getElem?_append_right (by rw [ccells_len]; omega), ccells_len]
      have := k4 (j - kept.length * 4) (by omega)
      rw [show o + kept.length * 4 + (j - kept.length * 4) = o + j by omega] at this
      rw [this]
      simp [ccells, CEl.cells]
  · rw [k3 _ (by omega)]
    exact h2 j (by omega) hj2
theorem Work.clear (h : Work N0 g o m els w wr kept p) (h0 : 0 < m) (hk : kept.length ≤ m) {vs : List Value} (hv : vs.length = (m - kept.length) * 4) : Work N0 g o m els w (wr.setCells g (o + kept.length * 4) vs) kept m := by
  obtain ⟨cur, hc, hs, h1, h2⟩ := h.row
  refine ⟨h.touch.trans (touch_set rfl h0 (by omega) (by rw [hv]; omega) hc hs), ?_⟩
  obtain ⟨c2, k1, k2, k3, _⟩ := set_row g vs (o + kept.length * 4) wr hc (by rw [hv]; omega)
  exact ⟨c2, k1, by omega, fun j hj => (k3 _ (by omega)).trans (h1 j hj), fun j hj hj2 => by omega⟩
theorem Work.done (h : Work N0 g o m els w wr kept p) (hv : CV N0 N w (some ⟨g, o, none⟩) m els) (hk : ∀ e ∈ kept, e ∈ els) (hl : kept.length ≤ m) : CV N0 N wr (some ⟨g, o, none⟩) kept.length kept := by
  refine ⟨rfl, by have := hv.few; omega, fun e he => (hv.ints e (hk e he)).touch (hv.rows e (hk e he)) h.touch hv.typed, fun e he => (hv.rows e (hk e he)).touch h.touch hv.typed, fun h0 => ?_⟩
  obtain ⟨cur, hc, hs, h1, _⟩ := h.row
  obtain ⟨g', o', cur', hA, hN, _⟩ := hv.row (by omega)
  cases hA
  exact ⟨g, o, cur, rfl, hN, hc, by omega, h1⟩
theorem Work.ints (h : Work N0 g o m els w wr kept p) (hv : CV N0 N w (some ⟨g, o, none⟩) m els) {e : CEl} (he : e ∈ els) : IntsAt wr e.A e.n e.xs := (hv.ints e he).touch (hv.rows e he) h.touch hv.typed
end
end Go.Proofs.YtkgnlloioaobiaaGreat
namespace Go.Proofs.YtkgnlloioaobiaaGreat
open Go.RowKit
def sameE (a b : CEl) : Bool := decide (a.xs = b.xs)
def equalE (a b : CEl) : Bool := ordC a.q a.M a.xs a.K b.q b.M b.xs b.K == 0
theorem below_grow {w : World} (q : Nat) (os : Array Obj) : Below w.heap.size w (Go.Sort.grow (w.drewN q) os) := by
  refine ⟨rfl, rfl, rfl, ?_, fun k hk => ?_⟩
  · show w.heap.size ≤ (w.heap ++ os).size
    simp
  · show (w.heap ++ os)[k]? = _
    rw [Array.getElem?_append_left hk]
theorem comp_go {R : CEl → CEl → Bool} {els : List CEl} {i : Nat} {p a : CEl} (hi : 0 < i) (hp : els[i - 1]? = some p) (ha : els[i]? = some a) (hv : R a p = false) : comp R (els.take (i + 1)) = comp R (els.take i) ++ [a] := by
  rw [comp_snoc R hi hp ha, hv]; rfl
theorem comp_drop {R : CEl → CEl → Bool} {els : List CEl} {i : Nat} {p a : CEl} (hi : 0 < i) (hp : els[i - 1]? = some p) (ha : els[i]? = some a) (hv : R a p = true) : comp R (els.take (i + 1)) = comp R (els.take i) := by
  rw [comp_snoc R hi hp ha, hv]; rfl
def CompRet (N0 N : Nat) (w : World) (e : Ending) (w' : World) (A : Option Addr) (m c : Nat) (out : List CEl) : Prop :=
  ∃ k, e = .returned (.slice A k c) ∧ CV N0 N w' A k out ∧ Touch A m w w' ∧ k ≤ m
theorem comp_short {R : CEl → CEl → Bool} {els : List CEl} (h : els.length < 2) : comp R els = els := by
  match els, h with
  | [], _ => rfl
  | [a], _ => rfl
set_option maxHeartbeats 8000000 in
theorem compact_equal {N0 N : Nat} {g o m c n : Nat} {els : List CEl} (w : World) (h : CV N0 N w (some ⟨g, o, none⟩) m els) (hm : 2 ≤ m) (hmc : m ≤ c) (hc : c ≤ 9223372036854775807) (hn : ∀ e ∈ els, e.n = n) :
    Calls Tryz.prog 119 #[.slice (some ⟨g, o, none⟩) m c, .func (.func 122) #[] #[]] w fun e w' => CompRet N0 N w e w' (some ⟨g, o, none⟩) m c (comp equalE els) := by
  have HL := Lib.hid h.len
  have hfew := h.few
  have HN := Lib.hid hn
  have hq2 : ¬ (m : Int) < 2 := by omega
  go_enter Tryz.func119, Tryz.ntmps119
  go_wp2
  clear hq2
  go_loopw [5] (fun v wr => ∃ i : Nat, i + 1 ≤ m ∧ v = .int .i64 ((i + 1 : Nat) : Int) ∧ comp equalE (els.take (i + 1)) = els.take (i + 1) ∧ Below w.heap.size w wr) (fun v _ => m - (intOf v).toNat)
  case atStart => exact ⟨0, by omega, rfl, comp_one equalE, Below.refl _ _⟩
  case round =>
    obtain ⟨i, hi, rfl, hcomp, hbr⟩ := hrel
    have HC := Lib.hid hcomp
    have W0 := Work.start h (by omega) hbr (i + 1) hi
    have hglt := W0.lt
    clear hcomp
    by_cases hlt : i + 1 < m
    · obtain ⟨a, hea⟩ : ∃ a, els[i + 1]? = some a := ⟨_, List.getElem?_eq_getElem (by rw [HL.out]; exact hlt)⟩
      obtain ⟨b, heb⟩ : ∃ b, els[i]? = some b := ⟨_, List.getElem?_eq_getElem (by rw [HL.out]; omega)⟩
      obtain ⟨x0, x1, x2, x3⟩ := W0.cells (Nat.zero_le _) hlt hea
      obtain ⟨y0, y1, y2, y3⟩ := W0.cells (Nat.zero_le _) (show i < m by omega) heb
      have ma := List.mem_of_getElem? hea
      have mb := List.mem_of_getElem? heb
      have hin := W0.ints h ma
      have hin' := W0.ints h mb
      have na := HN.out a ma
      have nb := HN.out b mb
      obtain ⟨eq, eM, eA, en, ec, eK, exs⟩ := a
      obtain ⟨eq', eM', eA', en', ec', eK', exs'⟩ := b
      simp only at na nb x0 x1 x2 x3 y0 y1 y2 y3 hin hin'
      subst nb
      subst na
      have HEJ := Lib.hid hea
      have HEJ' := Lib.hid heb
      have hq1 : (i : Int) + 1 < m := by omega
      have hq0 : (i : Int) < m := by omega
      have hp0 : (0 : Int) ≤ (i : Int) := by omega
      have hp1 : (0 : Int) ≤ (i : Int) + 1 := by omega
      have hnt : ((i : Int) + 1).toNat = i + 1 := by omega
      have hwr : IntKind.i64.wrap (i : Int) = (i : Int) := IntWalk.i64_in _ (by omega)
      replace hin := hin.step (Below.refl _ wr).drew
      replace hin' := hin'.step (Below.refl _ wr).drew
      have hbd := hbr.drew
      clear hea heb ma mb hbr W0
      cases hv : equalE ⟨eq, eM, eA, en, ec, eK, exs⟩ ⟨eq', eM', eA', en, ec', eK', exs'⟩
      · have HV := Lib.hid (show (ordC eq eM exs eK eq' eM' exs' eK' == 0) = false from hv)
        have HW := Lib.hid (show comp equalE (els.take (i + 1 + 1)) = els.take (i + 1 + 1) by rw [comp_go (by omega) HEJ'.out HEJ.out hv, HC.out, List.take_succ_eq_append_getElem (i := i + 1) (by rw [HL.out]; exact hlt)]; congr 2; exact (List.getElem?_eq_some_iff.1 HEJ.out).2.symm)
        clear hv
        go_wp2
        go_region_held3 (fun W => W.cell? ⟨g, o + (i + 1) * 4, none⟩ = some (.int .i64 eq) ∧ W.cell? ⟨g, o + (i + 1) * 4 + 1, none⟩ = some (.int .i64 eM) ∧ W.cell? ⟨g, o + (i + 1) * 4 + 2, none⟩ = some (.slice eA en ec) ∧ W.cell? ⟨g, o + (i + 1) * 4 + 3, none⟩ = some (.int .i64 eK) ∧ W.cell? ⟨g, o + i * 4, none⟩ = some (.int .i64 eq') ∧ W.cell? ⟨g, o + i * 4 + 1, none⟩ = some (.int .i64 eM') ∧ W.cell? ⟨g, o + i * 4 + 2, none⟩ = some (.slice eA' en ec') ∧ W.cell? ⟨g, o + i * 4 + 3, none⟩ = some (.int .i64 eK')) (first | with_reducible exact ⟨x0, x1, x2, x3, y0, y1, y2, y3⟩ | with_reducible exact ⟨z0, z1, z2, z3, z4, z5, z6, z7⟩ | go_keep) (first | (go_at_call 122; refine (wide_equal _ _ _ _ _ _ exs _ _ _ _ _ exs' _ hin hin').mono ?_; rintro e w4 ⟨rfl, q4, os4, hw4⟩; have hb : Below wr.drew.heap.size wr.drew w4 := (by rw [hw4]; exact below_grow q4 os4); clear hw4; rw [HV.out]; have hbe := (Below.refl wr.heap.size wr).drew.trans hb; have z0 := (hbe.cell (p := ⟨g, o + (i + 1) * 4, none⟩) hglt).trans x0; have z1 := (hbe.cell (p := ⟨g, o + (i + 1) * 4 + 1, none⟩) hglt).trans x1; have z2 := (hbe.cell (p := ⟨g, o + (i + 1) * 4 + 2, none⟩) hglt).trans x2; have z3 := (hbe.cell (p := ⟨g, o + (i + 1) * 4 + 3, none⟩) hglt).trans x3; have z4 := (hbe.cell (p := ⟨g, o + i * 4, none⟩) hglt).trans y0; have z5 := (hbe.cell (p := ⟨g, o + i * 4 + 1, none⟩) hglt).trans y1; have z6 := (hbe.cell (p := ⟨g, o + i * 4 + 2, none⟩) hglt).trans y2; have z7 := (hbe.cell (p := ⟨g, o + i * 4 + 3, none⟩) hglt).trans y3; replace hbd := hbd.trans (hb.mono hbd.size)))
        all_goals
          go_wp2
          go_roundw
          case rel => exact ⟨i + 1, by omega, by go_num, HW.out, hbd⟩
          case measure => simp [intOf]; omega
      · have HV := Lib.hid (show (ordC eq eM exs eK eq' eM' exs' eK' == 0) = true from hv)
        have HW := Lib.hid (show comp equalE (els.take (i + 1 + 1)) = els.take (i + 1) by rw [comp_drop (by omega) HEJ'.out HEJ.out hv, HC.out])
        clear hv
        go_wp2
        go_region_held3 (fun W => W.cell? ⟨g, o + (i + 1) * 4, none⟩ = some (.int .i64 eq) ∧ W.cell? ⟨g, o + (i + 1) * 4 + 1, none⟩ = some (.int .i64 eM) ∧ W.cell? ⟨g, o + (i + 1) * 4 + 2, none⟩ = some (.slice eA en ec) ∧ W.cell? ⟨g, o + (i + 1) * 4 + 3, none⟩ = some (.int .i64 eK) ∧ W.cell? ⟨g, o + i * 4, none⟩ = some (.int .i64 eq') ∧ W.cell? ⟨g, o + i * 4 + 1, none⟩ = some (.int .i64 eM') ∧ W.cell? ⟨g, o + i * 4 + 2, none⟩ = some (.slice eA' en ec') ∧ W.cell? ⟨g, o + i * 4 + 3, none⟩ = some (.int .i64 eK')) (first | with_reducible exact ⟨x0, x1, x2, x3, y0, y1, y2, y3⟩ | with_reducible exact ⟨z0, z1, z2, z3, z4, z5, z6, z7⟩ | go_keep) (first | (go_at_call 122; refine (wide_equal _ _ _ _ _ _ exs _ _ _ _ _ exs' _ hin hin').mono ?_; rintro e w4 ⟨rfl, q4, os4, hw4⟩; have hb : Below wr.drew.heap.size wr.drew w4 := (by rw [hw4]; exact below_grow q4 os4); clear hw4; rw [HV.out]; have hbe := (Below.refl wr.heap.size wr).drew.trans hb; have z0 := (hbe.cell (p := ⟨g, o + (i + 1) * 4, none⟩) hglt).trans x0; have z1 := (hbe.cell (p := ⟨g, o + (i + 1) * 4 + 1, none⟩) hglt).trans x1; have z2 := (hbe.cell (p := ⟨g, o + (i + 1) * 4 + 2, none⟩) hglt).trans x2; have z3 := (hbe.cell (p := ⟨g, o + (i + 1) * 4 + 3, none⟩) hglt).trans x3; have z4 := (hbe.cell (p := ⟨g, o + i * 4, none⟩) hglt).trans y0; have z5 := (hbe.cell (p := ⟨g, o + i * 4 + 1, none⟩) hglt).trans y1; have z6 := (hbe.cell (p := ⟨g, o + i * 4 + 2, none⟩) hglt).trans y2; have z7 := (hbe.cell (p := ⟨g, o + i * 4 + 3, none⟩) hglt).trans y3; replace hbd := hbd.trans (hb.mono hbd.size)))
        all_goals
          go_wp2
          have W0 := (Work.start h (by omega) hbd (i + 1) hi).weak (Nat.zero_le (i + 1))
          clear z0 z1 z2 z3 z4 z5 z6 z7 x0 x1 x2 x3 y0 y1 y2 y3 hin hin' hb hbe hbd hglt
          go_loopw [5, 7] (fun u v wr => ∃ (j : Nat) (kept : List CEl), i + 1 + j + 1 ≤ m ∧ v = .int .i64 ((j + 1 : Nat) : Int) ∧ u = .int .i64 (kept.length : Int) ∧ comp equalE (els.take (i + 1 + j + 1)) = kept ∧ kept.length ≤ i + 1 + j ∧ Work N0 g o m els w wr kept (i + 1 + j)) (fun _ v _ => m - (intOf v).toNat)
          case atStart => exact ⟨0, els.take (i + 1), by omega, rfl, (by rw [List.length_take, HL.out, Nat.min_eq_left hi]; rfl), HW.out, (by rw [List.length_take]; exact Nat.min_le_left _ _), W0⟩
          case round =>
            obtain ⟨j, kept, hj, rfl, rfl, hcomp, hkl, W1⟩ := hrel
            have HC2 := Lib.hid hcomp
            have hglt := W1.lt
            clear hcomp W0
            generalize hkn : kept.length = K at *
            have HK := Lib.hid hkn
            clear hkn
            by_cases hlt2 : i + 1 + j + 1 < m
            · obtain ⟨a, hea⟩ : ∃ a, els[i + 1 + j + 1]? = some a := ⟨_, List.getElem?_eq_getElem (by rw [HL.out]; exact hlt2)⟩
              obtain ⟨b, heb⟩ : ∃ b, els[i + 1 + j]? = some b := ⟨_, List.getElem?_eq_getElem (by rw [HL.out]; omega)⟩
              obtain ⟨x0, x1, x2, x3⟩ := W1.cells (Nat.le_succ _) hlt2 hea
              obtain ⟨y0, y1, y2, y3⟩ := W1.cells (Nat.le_refl _) (show i + 1 + j < m by omega) heb
              have ma := List.mem_of_getElem? hea
              have mb := List.mem_of_getElem? heb
              have hin := W1.ints h ma
              have hin' := W1.ints h mb
              have na := HN.out a ma
              have nb := HN.out b mb
              obtain ⟨fq, fM, fA, fn, fc, fK, fxs⟩ := a
              obtain ⟨fq', fM', fA', fn', fc', fK', fxs'⟩ := b
              rw [show o + (i + 1 + j + 1) * 4 = o + (i + 1) * 4 + (j + 1) * 4 by omega] at x0 x1 x2 x3
              rw [show o + (i + 1 + j) * 4 = o + (i + 1) * 4 + j * 4 by omega] at y0 y1 y2 y3
              simp only at na nb x0 x1 x2 x3 y0 y1 y2 y3 hin hin'
              obtain rfl : fn = fn' := na.trans nb.symm
              have HEJ2 := Lib.hid hea
              have HEJ2' := Lib.hid heb
              have HNA := Lib.hid na
              have hr1 : (j : Int) + 1 < ((m - (i + 1) : Nat) : Int) := by omega
              have hr0 : (j : Int) < ((m - (i + 1) : Nat) : Int) := by omega
              have hp0 : (0 : Int) ≤ (j : Int) := by omega
              have hp1 : (0 : Int) ≤ (j : Int) + 1 := by omega
              have hnt : ((j : Int) + 1).toNat = j + 1 := by omega
              have hwr : IntKind.i64.wrap (j : Int) = (j : Int) := IntWalk.i64_in _ (by omega)
              replace hin := hin.step (Below.refl _ wr).drew
              replace hin' := hin'.step (Below.refl _ wr).drew
              clear hea heb ma mb na nb
              cases hv : equalE ⟨fq, fM, fA, fn, fc, fK, fxs⟩ ⟨fq', fM', fA', fn, fc', fK', fxs'⟩
              · have HV := Lib.hid (show (ordC fq fM fxs fK fq' fM' fxs' fK' == 0) = false from hv)
                have HW2 := Lib.hid (show comp equalE (els.take (i + 1 + (j + 1) + 1)) = kept ++ [⟨fq, fM, fA, fn, fc, fK, fxs⟩] from by have := comp_go (R := equalE) (by omega) HEJ2'.out HEJ2.out hv; rw [HC2.out] at this; exact this)
                clear hv
                go_wp2
                go_region_held3 (fun W => W.cell? ⟨g, o + (i + 1) * 4 + (j + 1) * 4, none⟩ = some (.int .i64 fq) ∧ W.cell? ⟨g, o + (i + 1) * 4 + (j + 1) * 4 + 1, none⟩ = some (.int .i64 fM) ∧ W.cell? ⟨g, o + (i + 1) * 4 + (j + 1) * 4 + 2, none⟩ = some (.slice fA fn fc) ∧ W.cell? ⟨g, o + (i + 1) * 4 + (j + 1) * 4 + 3, none⟩ = some (.int .i64 fK) ∧ W.cell? ⟨g, o + (i + 1) * 4 + j * 4, none⟩ = some (.int .i64 fq') ∧ W.cell? ⟨g, o + (i + 1) * 4 + j * 4 + 1, none⟩ = some (.int .i64 fM') ∧ W.cell? ⟨g, o + (i + 1) * 4 + j * 4 + 2, none⟩ = some (.slice fA' fn fc') ∧ W.cell? ⟨g, o + (i + 1) * 4 + j * 4 + 3, none⟩ = some (.int .i64 fK')) (first | with_reducible exact ⟨x0, x1, x2, x3, y0, y1, y2, y3⟩ | with_reducible exact ⟨z0, z1, z2, z3, z4, z5, z6, z7⟩ | go_keep) (first | (go_at_call 122; refine (wide_equal _ _ _ _ _ _ fxs _ _ _ _ _ fxs' _ hin hin').mono ?_; rintro e w5 ⟨rfl, q5, os5, hw5⟩; have hb : Below wr.drew.heap.size wr.drew w5 := (by rw [hw5]; exact below_grow q5 os5); clear hw5; rw [HV.out]; have hbe := (Below.refl wr.heap.size wr).drew.trans hb; have z0 := (hbe.cell (p := ⟨g, o + (i + 1) * 4 + (j + 1) * 4, none⟩) hglt).trans x0; have z1 := (hbe.cell (p := ⟨g, o + (i + 1) * 4 + (j + 1) * 4 + 1, none⟩) hglt).trans x1; have z2 := (hbe.cell (p := ⟨g, o + (i + 1) * 4 + (j + 1) * 4 + 2, none⟩) hglt).trans x2; have z3 := (hbe.cell (p := ⟨g, o + (i + 1) * 4 + (j + 1) * 4 + 3, none⟩) hglt).trans x3; have z4 := (hbe.cell (p := ⟨g, o + (i + 1) * 4 + j * 4, none⟩) hglt).trans y0; have z5 := (hbe.cell (p := ⟨g, o + (i + 1) * 4 + j * 4 + 1, none⟩) hglt).trans y1; have z6 := (hbe.cell (p := ⟨g, o + (i + 1) * 4 + j * 4 + 2, none⟩) hglt).trans y2; have z7 := (hbe.cell (p := ⟨g, o + (i + 1) * 4 + j * 4 + 3, none⟩) hglt).trans y3; have W2 := W1.step hbe))
                all_goals
                  obtain ⟨cur5, hc5, hs5, _⟩ := W2.row
                  obtain ⟨⟨⟨u0, t0⟩, f0⟩, ⟨⟨u1, t1⟩, f1⟩, ⟨⟨u2, t2⟩, f2⟩, ⟨u3, t3⟩, f3⟩ := four_stores hc5 (q := o + K * 4) (by omega) (.int .i64 fq) (.int .i64 fM) (.slice fA fn fc)
                  have W3 := W2.put (q := i + 1 + (j + 1)) (by rw [HK.out]; exact hkl) (by omega) ⟨fq, fM, fA, fn, fc, fK, fxs⟩ (by omega) (by omega)
                  rw [HK.out] at W3
                  have W4 := Lib.hid W3
                  have hk1 : (K : Int) < m := by omega
                  clear W3 hc5 hs5
                  go_wp2
                  go_roundw
                  case rel => exact ⟨j + 1, kept ++ [⟨fq, fM, fA, fn, fc, fK, fxs⟩], by omega, by go_num, (by rw [List.length_append, HK.out]; go_num), HW2.out, (by rw [List.length_append, HK.out]; simp; omega), W4.out⟩
                  case measure => simp [intOf]; omega
              · have HV := Lib.hid (show (ordC fq fM fxs fK fq' fM' fxs' fK' == 0) = true from hv)
                have HW2 := Lib.hid (show comp equalE (els.take (i + 1 + (j + 1) + 1)) = kept from by have := comp_drop (R := equalE) (by omega) HEJ2'.out HEJ2.out hv; rw [HC2.out] at this; exact this)
                clear hv
                go_wp2
                go_region_held3 (fun W => W.cell? ⟨g, o + (i + 1) * 4 + (j + 1) * 4, none⟩ = some (.int .i64 fq) ∧ W.cell? ⟨g, o + (i + 1) * 4 + (j + 1) * 4 + 1, none⟩ = some (.int .i64 fM) ∧ W.cell? ⟨g, o + (i + 1) * 4 + (j + 1) * 4 + 2, none⟩ = some (.slice fA fn fc) ∧ W.cell? ⟨g, o + (i + 1) * 4 + (j + 1) * 4 + 3, none⟩ = some (.int .i64 fK) ∧ W.cell? ⟨g, o + (i + 1) * 4 + j * 4, none⟩ = some (.int .i64 fq') ∧ W.cell? ⟨g, o + (i + 1) * 4 + j * 4 + 1, none⟩ = some (.int .i64 fM') ∧ W.cell? ⟨g, o + (i + 1) * 4 + j * 4 + 2, none⟩ = some (.slice fA' fn fc') ∧ W.cell? ⟨g, o + (i + 1) * 4 + j * 4 + 3, none⟩ = some (.int .i64 fK')) (first | with_reducible exact ⟨x0, x1, x2, x3, y0, y1, y2, y3⟩ | with_reducible exact ⟨z0, z1, z2, z3, z4, z5, z6, z7⟩ | go_keep) (first | (go_at_call 122; refine (wide_equal _ _ _ _ _ _ fxs _ _ _ _ _ fxs' _ hin hin').mono ?_; rintro e w5 ⟨rfl, q5, os5, hw5⟩; have hb : Below wr.drew.heap.size wr.drew w5 := (by rw [hw5]; exact below_grow q5 os5); clear hw5; rw [HV.out]; have hbe := (Below.refl wr.heap.size wr).drew.trans hb; have z0 := (hbe.cell (p := ⟨g, o + (i + 1) * 4 + (j + 1) * 4, none⟩) hglt).trans x0; have z1 := (hbe.cell (p := ⟨g, o + (i + 1) * 4 + (j + 1) * 4 + 1, none⟩) hglt).trans x1; have z2 := (hbe.cell (p := ⟨g, o + (i + 1) * 4 + (j + 1) * 4 + 2, none⟩) hglt).trans x2; have z3 := (hbe.cell (p := ⟨g, o + (i + 1) * 4 + (j + 1) * 4 + 3, none⟩) hglt).trans x3; have z4 := (hbe.cell (p := ⟨g, o + (i + 1) * 4 + j * 4, none⟩) hglt).trans y0; have z5 := (hbe.cell (p := ⟨g, o + (i + 1) * 4 + j * 4 + 1, none⟩) hglt).trans y1; have z6 := (hbe.cell (p := ⟨g, o + (i + 1) * 4 + j * 4 + 2, none⟩) hglt).trans y2; have z7 := (hbe.cell (p := ⟨g, o + (i + 1) * 4 + j * 4 + 3, none⟩) hglt).trans y3; have W2 := W1.step hbe))
                all_goals
                  go_wp2
                  go_roundw
                  case rel => exact ⟨j + 1, kept, by omega, by go_num, by rw [HK.out], HW2.out, by rw [HK.out]; omega, W2.weak (by omega)⟩
                  case measure => simp [intOf]; omega
            · have hend : i + 1 + j + 1 = m := by omega
              have HR := Lib.hid (show comp equalE els = kept by rw [← HC2.out, hend, List.take_of_length_le (by rw [HL.out]; exact Nat.le_refl _)])
              obtain ⟨cur5, hc5, hs5, _⟩ := W1.row
              obtain ⟨vs, hvs, hcl⟩ := run_clear_conds wr 34 Tryz.underlying34 g (o + K * 4) (m - K) (c - K) (by omega) (fun q hq => by have := W1.some_cell (j := K * 4 + q) (by omega); rwa [← Nat.add_assoc] at this) (fun q hq => W1.free _)
              have W5 := W1.clear (by omega) (by rw [HK.out]; omega) (vs := vs) (by rw [HK.out]; exact hvs)
              rw [HK.out] at W5
              have hsub : ∀ e ∈ kept, e ∈ els := fun e he => (comp_sub equalE els).subset (by rw [HR.out]; exact he)
              have hdone := W5.done h hsub (by rw [HK.out]; omega)
              rw [HK.out] at hdone
              have HD := Lib.hid (And.intro hdone W5.touch)
              have hkm : K ≤ m := by omega
              have hlt3 : ¬ ((j : Int) + 1 < ((m - (i + 1) : Nat) : Int)) := by omega
              have hk1 : (K : Int) ≤ m := by omega
              have hk2 : (K : Int) ≤ c := by omega
              have hk3 : K < m := by omega
              have hk4 : K < c := by omega
              clear hdone W5 hc5 hs5 hsub hvs
              go_wp2
              go_ret
              rw [HR.out]
              exact ⟨K, rfl, HD.out.1, HD.out.2, hkm⟩
    · obtain rfl : i + 1 = m := by omega
      have HR := Lib.hid (show comp equalE els = els by have := HC.out; rwa [List.take_of_length_le (by rw [HL.out]; exact Nat.le_refl _)] at this)
      have hge : ¬ ((i : Int) + 1 < (i : Int) + 1) := by omega
      go_wp2
      go_ret
      rw [HR.out]
      exact ⟨_, rfl, h.step hbr, Touch.of_below hbr, Nat.le_refl _⟩
set_option maxHeartbeats 8000000 in
theorem compact_slope {N0 N : Nat} {g o m c n : Nat} {els : List CEl} (w : World) (h : CV N0 N w (some ⟨g, o, none⟩) m els) (hm : 2 ≤ m) (hmc : m ≤ c) (hc : c ≤ 9223372036854775807) (hn : ∀ e ∈ els, e.n = n) :
    Calls Tryz.prog 119 #[.slice (some ⟨g, o, none⟩) m c, .func (.func 120) #[] #[]] w fun e w' => CompRet N0 N w e w' (some ⟨g, o, none⟩) m c (comp sameE els) := by
  have HL := Lib.hid h.len
  have hfew := h.few
  have HN := Lib.hid hn
  have hq2 : ¬ (m : Int) < 2 := by omega
  go_enter Tryz.func119, Tryz.ntmps119
  go_wp2
  clear hq2
  go_loopw [5] (fun v wr => ∃ i : Nat, i + 1 ≤ m ∧ v = .int .i64 ((i + 1 : Nat) : Int) ∧ comp sameE (els.take (i + 1)) = els.take (i + 1) ∧ Below w.heap.size w wr) (fun v _ => m - (intOf v).toNat)
  case atStart => exact ⟨0, by omega, rfl, comp_one sameE, Below.refl _ _⟩
  case round =>
    obtain ⟨i, hi, rfl, hcomp, hbr⟩ := hrel
    have HC := Lib.hid hcomp
    have W0 := Work.start h (by omega) hbr (i + 1) hi
    have hglt := W0.lt
    clear hcomp
    by_cases hlt : i + 1 < m
    · obtain ⟨a, hea⟩ : ∃ a, els[i + 1]? = some a := ⟨_, List.getElem?_eq_getElem (by rw [HL.out]; exact hlt)⟩
      obtain ⟨b, heb⟩ : ∃ b, els[i]? = some b := ⟨_, List.getElem?_eq_getElem (by rw [HL.out]; omega)⟩
      obtain ⟨x0, x1, x2, x3⟩ := W0.cells (Nat.zero_le _) hlt hea
      obtain ⟨y0, y1, y2, y3⟩ := W0.cells (Nat.zero_le _) (show i < m by omega) heb
      have ma := List.mem_of_getElem? hea
      have mb := List.mem_of_getElem? heb
      have hin := W0.ints h ma
      have hin' := W0.ints h mb
      have na := HN.out a ma
      have nb := HN.out b mb
      obtain ⟨eq, eM, eA, en, ec, eK, exs⟩ := a
      obtain ⟨eq', eM', eA', en', ec', eK', exs'⟩ := b
      simp only at na nb x0 x1 x2 x3 y0 y1 y2 y3 hin hin'
      subst nb
      subst na
      have HEJ := Lib.hid hea
      have HEJ' := Lib.hid heb
      have hq1 : (i : Int) + 1 < m := by omega
      have hq0 : (i : Int) < m := by omega
      have hp0 : (0 : Int) ≤ (i : Int) := by omega
      have hp1 : (0 : Int) ≤ (i : Int) + 1 := by omega
      have hnt : ((i : Int) + 1).toNat = i + 1 := by omega
      have hwr : IntKind.i64.wrap (i : Int) = (i : Int) := IntWalk.i64_in _ (by omega)
      replace hin := hin.step (Below.refl _ wr).drew
      replace hin' := hin'.step (Below.refl _ wr).drew
      have hbd := hbr.drew
      clear hea heb ma mb hbr W0
      cases hv : sameE ⟨eq, eM, eA, en, ec, eK, exs⟩ ⟨eq', eM', eA', en, ec', eK', exs'⟩
      · have HV := Lib.hid (show decide (exs = exs') = false from hv)
        have HW := Lib.hid (show comp sameE (els.take (i + 1 + 1)) = els.take (i + 1 + 1) by rw [comp_go (by omega) HEJ'.out HEJ.out hv, HC.out, List.take_succ_eq_append_getElem (i := i + 1) (by rw [HL.out]; exact hlt)]; congr 2; exact (List.getElem?_eq_some_iff.1 HEJ.out).2.symm)
        clear hv
        go_wp2
        go_region_held3 (fun W => W.cell? ⟨g, o + (i + 1) * 4, none⟩ = some (.int .i64 eq) ∧ W.cell? ⟨g, o + (i + 1) * 4 + 1, none⟩ = some (.int .i64 eM) ∧ W.cell? ⟨g, o + (i + 1) * 4 + 2, none⟩ = some (.slice eA en ec) ∧ W.cell? ⟨g, o + (i + 1) * 4 + 3, none⟩ = some (.int .i64 eK) ∧ W.cell? ⟨g, o + i * 4, none⟩ = some (.int .i64 eq') ∧ W.cell? ⟨g, o + i * 4 + 1, none⟩ = some (.int .i64 eM') ∧ W.cell? ⟨g, o + i * 4 + 2, none⟩ = some (.slice eA' en ec') ∧ W.cell? ⟨g, o + i * 4 + 3, none⟩ = some (.int .i64 eK')) (first | with_reducible exact ⟨x0, x1, x2, x3, y0, y1, y2, y3⟩ | with_reducible exact ⟨z0, z1, z2, z3, z4, z5, z6, z7⟩ | go_keep) (first | (go_at_call 120; refine (same_slope _ _ _ _ _ _ exs _ _ _ _ _ exs' _ hin hin').mono ?_; rintro e w4 ⟨rfl, q4, os4, hw4⟩; have hb : Below wr.drew.heap.size wr.drew w4 := (by rw [hw4]; exact below_grow q4 os4); clear hw4; rw [HV.out]; have hbe := (Below.refl wr.heap.size wr).drew.trans hb; have z0 := (hbe.cell (p := ⟨g, o + (i + 1) * 4, none⟩) hglt).trans x0; have z1 := (hbe.cell (p := ⟨g, o + (i + 1) * 4 + 1, none⟩) hglt).trans x1; have z2 := (hbe.cell (p := ⟨g, o + (i + 1) * 4 + 2, none⟩) hglt).trans x2; have z3 := (hbe.cell (p := ⟨g, o + (i + 1) * 4 + 3, none⟩) hglt).trans x3; have z4 := (hbe.cell (p := ⟨g, o + i * 4, none⟩) hglt).trans y0; have z5 := (hbe.cell (p := ⟨g, o + i * 4 + 1, none⟩) hglt).trans y1; have z6 := (hbe.cell (p := ⟨g, o + i * 4 + 2, none⟩) hglt).trans y2; have z7 := (hbe.cell (p := ⟨g, o + i * 4 + 3, none⟩) hglt).trans y3; replace hbd := hbd.trans (hb.mono hbd.size)))
        all_goals
          go_wp2
          go_roundw
          case rel => exact ⟨i + 1, by omega, by go_num, HW.out, hbd⟩
          case measure => simp [intOf]; omega
      · have HV := Lib.hid (show decide (exs = exs') = true from hv)
        have HW := Lib.hid (show comp sameE (els.take (i + 1 + 1)) = els.take (i + 1) by rw [comp_drop (by omega) HEJ'.out HEJ.out hv, HC.out])
        clear hv
        go_wp2
        go_region_held3 (fun W => W.cell? ⟨g, o + (i + 1) * 4, none⟩ = some (.int .i64 eq) ∧ W.cell? ⟨g, o + (i + 1) * 4 + 1, none⟩ = some (.int .i64 eM) ∧ W.cell? ⟨g, o + (i + 1) * 4 + 2, none⟩ = some (.slice eA en ec) ∧ W.cell? ⟨g, o + (i + 1) * 4 + 3, none⟩ = some (.int .i64 eK) ∧ W.cell? ⟨g, o + i * 4, none⟩ = some (.int .i64 eq') ∧ W.cell? ⟨g, o + i * 4 + 1, none⟩ = some (.int .i64 eM') ∧ W.cell? ⟨g, o + i * 4 + 2, none⟩ = some (.slice eA' en ec') ∧ W.cell? ⟨g, o + i * 4 + 3, none⟩ = some (.int .i64 eK')) (first | with_reducible exact ⟨x0, x1, x2, x3, y0, y1, y2, y3⟩ | with_reducible exact ⟨z0, z1, z2, z3, z4, z5, z6, z7⟩ | go_keep) (first | (go_at_call 120; refine (same_slope _ _ _ _ _ _ exs _ _ _ _ _ exs' _ hin hin').mono ?_; rintro e w4 ⟨rfl, q4, os4, hw4⟩; have hb : Below wr.drew.heap.size wr.drew w4 := (by rw [hw4]; exact below_grow q4 os4); clear hw4; rw [HV.out]; have hbe := (Below.refl wr.heap.size wr).drew.trans hb; have z0 := (hbe.cell (p := ⟨g, o + (i + 1) * 4, none⟩) hglt).trans x0; have z1 := (hbe.cell (p := ⟨g, o + (i + 1) * 4 + 1, none⟩) hglt).trans x1; have z2 := (hbe.cell (p := ⟨g, o + (i + 1) * 4 + 2, none⟩) hglt).trans x2; have z3 := (hbe.cell (p := ⟨g, o + (i + 1) * 4 + 3, none⟩) hglt).trans x3; have z4 := (hbe.cell (p := ⟨g, o + i * 4, none⟩) hglt).trans y0; have z5 := (hbe.cell (p := ⟨g, o + i * 4 + 1, none⟩) hglt).trans y1; have z6 := (hbe.cell (p := ⟨g, o + i * 4 + 2, none⟩) hglt).trans y2; have z7 := (hbe.cell (p := ⟨g, o + i * 4 + 3, none⟩) hglt).trans y3; replace hbd := hbd.trans (hb.mono hbd.size)))
        all_goals
          go_wp2
          have W0 := (Work.start h (by omega) hbd (i + 1) hi).weak (Nat.zero_le (i + 1))
          clear z0 z1 z2 z3 z4 z5 z6 z7 x0 x1 x2 x3 y0 y1 y2 y3 hin hin' hb hbe hbd hglt
          go_loopw [5, 7] (fun u v wr => ∃ (j : Nat) (kept : List CEl), i + 1 + j + 1 ≤ m ∧ v = .int .i64 ((j + 1 : Nat) : Int) ∧ u = .int .i64 (kept.length : Int) ∧ comp sameE (els.take (i + 1 + j + 1)) = kept ∧ kept.length ≤ i + 1 + j ∧ Work N0 g o m els w wr kept (i + 1 + j)) (fun _ v _ => m - (intOf v).toNat)
          case atStart => exact ⟨0, els.take (i + 1), by omega, rfl, (by rw [List.length_take, HL.out, Nat.min_eq_left hi]; rfl), HW.out, (by rw [List.length_take]; exact Nat.min_le_left _ _), W0⟩
          case round =>
            obtain ⟨j, kept, hj, rfl, rfl, hcomp, hkl, W1⟩ := hrel
            have HC2 := Lib.hid hcomp
            have hglt := W1.lt
            clear hcomp W0
            generalize hkn : kept.length = K at *
            have HK := Lib.hid hkn
            clear hkn
            by_cases hlt2 : i + 1 + j + 1 < m
            · obtain ⟨a, hea⟩ : ∃ a, els[i + 1 + j + 1]? = some a := ⟨_, List.getElem?_eq_getElem (by rw [HL.out]; exact hlt2)⟩
              obtain ⟨b, heb⟩ : ∃ b, els[i + 1 + j]? = some b := ⟨_, List.getElem?_eq_getElem (by rw [HL.out]; omega)⟩
              obtain ⟨x0, x1, x2, x3⟩ := W1.cells (Nat.le_succ _) hlt2 hea
              obtain ⟨y0, y1, y2, y3⟩ := W1.cells (Nat.le_refl _) (show i + 1 + j < m by omega) heb
              have ma := List.mem_of_getElem? hea
              have mb := List.mem_of_getElem? heb
              have hin := W1.ints h ma
              have hin' := W1.ints h mb
              have na := HN.out a ma
              have nb := HN.out b mb
              obtain ⟨fq, fM, fA, fn, fc, fK, fxs⟩ := a
              obtain ⟨fq', fM', fA', fn', fc', fK', fxs'⟩ := b
              rw [show o + (i + 1 + j + 1) * 4 = o + (i + 1) * 4 + (j + 1) * 4 by omega] at x0 x1 x2 x3
              rw [show o + (i + 1 + j) * 4 = o + (i + 1) * 4 + j * 4 by omega] at y0 y1 y2 y3
              simp only at na nb x0 x1 x2 x3 y0 y1 y2 y3 hin hin'
              obtain rfl : fn = fn' := na.trans nb.symm
              have HEJ2 := Lib.hid hea
              have HEJ2' := Lib.hid heb
              have HNA := Lib.hid na
              have hr1 : (j : Int) + 1 < ((m - (i + 1) : Nat) : Int) := by omega
              have hr0 : (j : Int) < ((m - (i + 1) : Nat) : Int) := by omega
              have hp0 : (0 : Int) ≤ (j : Int) := by omega
              have hp1 : (0 : Int) ≤ (j : Int) + 1 := by omega
              have hnt : ((j : Int) + 1).toNat = j + 1 := by omega
              have hwr : IntKind.i64.wrap (j : Int) = (j : Int) := IntWalk.i64_in _ (by omega)
              replace hin := hin.step (Below.refl _ wr).drew
              replace hin' := hin'.step (Below.refl _ wr).drew
              clear hea heb ma mb na nb
              cases hv : sameE ⟨fq, fM, fA, fn, fc, fK, fxs⟩ ⟨fq', fM', fA', fn, fc', fK', fxs'⟩
              · have HV := Lib.hid (show decide (fxs = fxs') = false from hv)
                have HW2 := Lib.hid (show comp sameE (els.take (i + 1 + (j + 1) + 1)) = kept ++ [⟨fq, fM, fA, fn, fc, fK, fxs⟩] from by have := comp_go (R := sameE) (by omega) HEJ2'.out HEJ2.out hv; rw [HC2.out] at this; exact this)
                clear hv
                go_wp2
                go_region_held3 (fun W => W.cell? ⟨g, o + (i + 1) * 4 + (j + 1) * 4, none⟩ = some (.int .i64 fq) ∧ W.cell? ⟨g, o + (i + 1) * 4 + (j + 1) * 4 + 1, none⟩ = some (.int .i64 fM) ∧ W.cell? ⟨g, o + (i + 1) * 4 + (j + 1) * 4 + 2, none⟩ = some (.slice fA fn fc) ∧ W.cell? ⟨g, o + (i + 1) * 4 + (j + 1) * 4 + 3, none⟩ = some (.int .i64 fK) ∧ W.cell? ⟨g, o + (i + 1) * 4 + j * 4, none⟩ = some (.int .i64 fq') ∧ W.cell? ⟨g, o + (i + 1) * 4 + j * 4 + 1, none⟩ = some (.int .i64 fM') ∧ W.cell? ⟨g, o + (i + 1) * 4 + j * 4 + 2, none⟩ = some (.slice fA' fn fc') ∧ W.cell? ⟨g, o + (i + 1) * 4 + j * 4 + 3, none⟩ = some (.int .i64 fK')) (first | with_reducible exact ⟨x0, x1, x2, x3, y0, y1, y2, y3⟩ | with_reducible exact ⟨z0, z1, z2, z3, z4, z5, z6, z7⟩ | go_keep) (first | (go_at_call 120; refine (same_slope _ _ _ _ _ _ fxs _ _ _ _ _ fxs' _ hin hin').mono ?_; rintro e w5 ⟨rfl, q5, os5, hw5⟩; have hb : Below wr.drew.heap.size wr.drew w5 := (by rw [hw5]; exact below_grow q5 os5); clear hw5; rw [HV.out]; have hbe := (Below.refl wr.heap.size wr).drew.trans hb; have z0 := (hbe.cell (p := ⟨g, o + (i + 1) * 4 + (j + 1) * 4, none⟩) hglt).trans x0; have z1 := (hbe.cell (p := ⟨g, o + (i + 1) * 4 + (j + 1) * 4 + 1, none⟩) hglt).trans x1; have z2 := (hbe.cell (p := ⟨g, o + (i + 1) * 4 + (j + 1) * 4 + 2, none⟩) hglt).trans x2; have z3 := (hbe.cell (p := ⟨g, o + (i + 1) * 4 + (j + 1) * 4 + 3, none⟩) hglt).trans x3; have z4 := (hbe.cell (p := ⟨g, o + (i + 1) * 4 + j * 4, none⟩) hglt).trans y0; have z5 := (hbe.cell (p := ⟨g, o + (i + 1) * 4 + j * 4 + 1, none⟩) hglt).trans y1; have z6 := (hbe.cell (p := ⟨g, o + (i + 1) * 4 + j * 4 + 2, none⟩) hglt).trans y2; have z7 := (hbe.cell (p := ⟨g, o + (i + 1) * 4 + j * 4 + 3, none⟩) hglt).trans y3; have W2 := W1.step hbe))
                all_goals
                  obtain ⟨cur5, hc5, hs5, _⟩ := W2.row
                  obtain ⟨⟨⟨u0, t0⟩, f0⟩, ⟨⟨u1, t1⟩, f1⟩, ⟨⟨u2, t2⟩, f2⟩, ⟨u3, t3⟩, f3⟩ := four_stores hc5 (q := o + K * 4) (by omega) (.int .i64 fq) (.int .i64 fM) (.slice fA fn fc)
                  have W3 := W2.put (q := i + 1 + (j + 1)) (by rw [HK.out]; exact hkl) (by omega) ⟨fq, fM, fA, fn, fc, fK, fxs⟩ (by omega) (by omega)
                  rw [HK.out] at W3
                  have W4 := Lib.hid W3
                  have hk1 : (K : Int) < m := by omega
                  clear W3 hc5 hs5
                  go_wp2
                  go_roundw
                  case rel => exact ⟨j + 1, kept ++ [⟨fq, fM, fA, fn, fc, fK, fxs⟩], by omega, by go_num, (by rw [List.length_append, HK.out]; go_num), HW2.out, (by rw [List.length_append, HK.out]; simp; omega), W4.out⟩
                  case measure => simp [intOf]; omega
              · have HV := Lib.hid (show decide (fxs = fxs') = true from hv)
                have HW2 := Lib.hid (show comp sameE (els.take (i + 1 + (j + 1) + 1)) = kept from by have := comp_drop (R := sameE) (by omega) HEJ2'.out HEJ2.out hv; rw [HC2.out] at this; exact this)
                clear hv
                go_wp2
                go_region_held3 (fun W => W.cell? ⟨g, o + (i + 1) * 4 + (j + 1) * 4, none⟩ = some (.int .i64 fq) ∧ W.cell? ⟨g, o + (i + 1) * 4 + (j + 1) * 4 + 1, none⟩ = some (.int .i64 fM) ∧ W.cell? ⟨g, o + (i + 1) * 4 + (j + 1) * 4 + 2, none⟩ = some (.slice fA fn fc) ∧ W.cell? ⟨g, o + (i + 1) * 4 + (j + 1) * 4 + 3, none⟩ = some (.int .i64 fK) ∧ W.cell? ⟨g, o + (i + 1) * 4 + j * 4, none⟩ = some (.int .i64 fq') ∧ W.cell? ⟨g, o + (i + 1) * 4 + j * 4 + 1, none⟩ = some (.int .i64 fM') ∧ W.cell? ⟨g, o + (i + 1) * 4 + j * 4 + 2, none⟩ = some (.slice fA' fn fc') ∧ W.cell? ⟨g, o + (i + 1) * 4 + j * 4 + 3, none⟩ = some (.int .i64 fK')) (first | with_reducible exact ⟨x0, x1, x2, x3, y0, y1, y2, y3⟩ | with_reducible exact ⟨z0, z1, z2, z3, z4, z5, z6, z7⟩ | go_keep) (first | (go_at_call 120; refine (same_slope _ _ _ _ _ _ fxs _ _ _ _ _ fxs' _ hin hin').mono ?_; rintro e w5 ⟨rfl, q5, os5, hw5⟩; have hb : Below wr.drew.heap.size wr.drew w5 := (by rw [hw5]; exact below_grow q5 os5); clear hw5; rw [HV.out]; have hbe := (Below.refl wr.heap.size wr).drew.trans hb; have z0 := (hbe.cell (p := ⟨g, o + (i + 1) * 4 + (j + 1) * 4, none⟩) hglt).trans x0; have z1 := (hbe.cell (p := ⟨g, o + (i + 1) * 4 + (j + 1) * 4 + 1, none⟩) hglt).trans x1; have z2 := (hbe.cell (p := ⟨g, o + (i + 1) * 4 + (j + 1) * 4 + 2, none⟩) hglt).trans x2; have z3 := (hbe.cell (p := ⟨g, o + (i + 1) * 4 + (j + 1) * 4 + 3, none⟩) hglt).trans x3; have z4 := (hbe.cell (p := ⟨g, o + (i + 1) * 4 + j * 4, none⟩) hglt).trans y0; have z5 := (hbe.cell (p := ⟨g, o + (i + 1) * 4 + j * 4 + 1, none⟩) hglt).trans y1; have z6 := (hbe.cell (p := ⟨g, o + (i + 1) * 4 + j * 4 + 2, none⟩) hglt).trans y2; have z7 := (hbe.cell (p := ⟨g, o + (i + 1) * 4 + j * 4 + 3, none⟩) hglt).trans y3; have W2 := W1.step hbe))
                all_goals
                  go_wp2
                  go_roundw
                  case rel => exact ⟨j + 1, kept, by omega, by go_num, by rw [HK.out], HW2.out, by rw [HK.out]; omega, W2.weak (by omega)⟩
                  case measure => simp [intOf]; omega
            · have hend : i + 1 + j + 1 = m := by omega
              have HR := Lib.hid (show comp sameE els = kept by rw [← HC2.out, hend, List.take_of_length_le (by rw [HL.out]; exact Nat.le_refl _)])
              obtain ⟨cur5, hc5, hs5, _⟩ := W1.row
              obtain ⟨vs, hvs, hcl⟩ := run_clear_conds wr 34 Tryz.underlying34 g (o + K * 4) (m - K) (c - K) (by omega) (fun q hq => by have := W1.some_cell (j := K * 4 + q) (by omega); rwa [← Nat.add_assoc] at this) (fun q hq => W1.free _)
              have W5 := W1.clear (by omega) (by rw [HK.out]; omega) (vs := vs) (by rw [HK.out]; exact hvs)
              rw [HK.out] at W5
              have hsub : ∀ e ∈ kept, e ∈ els := fun e he => (comp_sub sameE els).subset (by rw [HR.out]; exact he)
              have hdone := W5.done h hsub (by rw [HK.out]; omega)
              rw [HK.out] at hdone
              have HD := Lib.hid (And.intro hdone W5.touch)
              have hkm : K ≤ m := by omega
              have hlt3 : ¬ ((j : Int) + 1 < ((m - (i + 1) : Nat) : Int)) := by omega
              have hk1 : (K : Int) ≤ m := by omega
              have hk2 : (K : Int) ≤ c := by omega
              have hk3 : K < m := by omega
              have hk4 : K < c := by omega
              clear hdone W5 hc5 hs5 hsub hvs
              go_wp2
              go_ret
              rw [HR.out]
              exact ⟨K, rfl, HD.out.1, HD.out.2, hkm⟩
    · obtain rfl : i + 1 = m := by omega
      have HR := Lib.hid (show comp sameE els = els by have := HC.out; rwa [List.take_of_length_le (by rw [HL.out]; exact Nat.le_refl _)] at this)
      have hge : ¬ ((i : Int) + 1 < (i : Int) + 1) := by omega
      go_wp2
      go_ret
      rw [HR.out]
      exact ⟨_, rfl, h.step hbr, Touch.of_below hbr, Nat.le_refl _⟩
end Go.Proofs.YtkgnlloioaobiaaGreat
