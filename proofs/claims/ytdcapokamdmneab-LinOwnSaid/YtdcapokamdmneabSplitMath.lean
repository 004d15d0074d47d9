/-
  Plain facts on the extended Euclidean algorithm for the proofs of layer 1.
-/
namespace Go.Proofs.Ytdcapokamdmneab

/-- The state of the algorithm: signs s, t, u, and absolute values G, R, X, N. -/
structure EState (a b g rest x next : Int) (s t u : Int) (G R X N : Nat) : Prop where
  hs : s = 1 ∨ s = -1
  ht : t = 1 ∨ t = -1
  hu : u = 1 ∨ u = -1
  eg : g = s * G
  er : rest = t * R
  ex : x = u * X
  en : next = -(s * t * u) * N
  det : G * N + R * X = b.natAbs
  gcd : Nat.gcd G R = Nat.gcd a.natAbs b.natAbs
  c1 : b ∣ g - a * x
  c2 : b ∣ rest - a * next
  bX : X ≤ 1048576
  bN : N ≤ 1048576
  bG : G ≤ 1048576
  bR : R ≤ 1048576

theorem sign_of (a : Int) : ∃ s : Int, (s = 1 ∨ s = -1) ∧ a = s * a.natAbs := by
  by_cases h : 0 ≤ a
  · exact ⟨1, .inl rfl, by omega⟩
  · exact ⟨-1, .inr rfl, by omega⟩

theorem EState.start (a b : Int) (ha : a.natAbs ≤ 1048576) (hb : b.natAbs ≤ 1048576) : ∃ s t, EState a b a b 1 0 s t 1 a.natAbs b.natAbs 1 0 := by
  obtain ⟨s, hs, es⟩ := sign_of a
  obtain ⟨t, ht, et⟩ := sign_of b
  refine ⟨s, t, ⟨hs, ht, .inl rfl, es, et, by simp, by simp, by simp, rfl, by simp, by simp, by omega, by omega, ha, hb⟩⟩

theorem tdiv_signs {s t : Int} (hs : s = 1 ∨ s = -1) (ht : t = 1 ∨ t = -1) (G R : Nat) : (s * G).tdiv (t * R) = s * t * ((G / R : Nat) : Int) := by
  rcases hs with rfl | rfl <;> rcases ht with rfl | rfl <;> simp [Int.neg_tdiv, Int.tdiv_neg]

theorem EState.next_eq {a b g rest x next s t u : Int} {G R X N : Nat} (h : EState a b g rest x next s t u G R X N) :
    x - g.tdiv rest * next = u * ((X + G / R * N : Nat) : Int) := by
  rw [h.eg, h.er, tdiv_signs h.hs h.ht, h.ex, h.en, Int.natCast_add, Int.natCast_mul]
  generalize ((G / R : Nat) : Int) = q
  rcases h.hs with rfl | rfl <;> rcases h.ht with rfl | rfl <;> rcases h.hu with rfl | rfl <;> simp [Int.neg_mul, Int.mul_neg] <;> omega

theorem EState.rest_eq {a b g rest x next s t u : Int} {G R X N : Nat} (h : EState a b g rest x next s t u G R X N) :
    g - g.tdiv rest * rest = s * ((G % R : Nat) : Int) := by
  have e := Nat.div_add_mod G R
  have e' : ((G : Nat) : Int) = (R : Int) * ((G / R : Nat) : Int) + ((G % R : Nat) : Int) := by rw [← Int.natCast_mul, ← Int.natCast_add, e]
  rw [h.eg, h.er, tdiv_signs h.hs h.ht]
  have e2 : ((G / R : Nat) : Int) * (R : Int) = (G : Int) - ((G % R : Nat) : Int) := by rw [Int.mul_comm]; omega
  generalize ((G / R : Nat) : Int) = q at *
  rcases h.hs with rfl | rfl <;> rcases h.ht with rfl | rfl <;> simp [Int.neg_mul, Int.mul_neg] <;> omega

theorem EState.step {a b g rest x next s t u : Int} {G R X N : Nat} (h : EState a b g rest x next s t u G R X N) (hR : R ≠ 0) (hb : b.natAbs ≤ 1048576) :
    EState a b rest (g - g.tdiv rest * rest) next (x - g.tdiv rest * next) t s (-(s * t * u)) R (G % R) N (X + G / R * N) := by
  have e := Nat.div_add_mod G R
  have hdet : R * (X + G / R * N) + G % R * N = b.natAbs := by
    rw [← h.det]
    have : G * N = R * (G / R) * N + G % R * N := by rw [← Nat.add_mul, e]
    rw [this, Nat.mul_add, Nat.mul_assoc]; omega
  have hN : X + G / R * N ≤ 1048576 := by
    have h2 : 1 * (X + G / R * N) ≤ R * (X + G / R * N) := Nat.mul_le_mul_right _ (by omega)
    omega
  refine ⟨h.ht, h.hs, ?_, h.er, h.rest_eq, ?_, ?_, hdet, ?_, ?_, ?_, h.bN, hN, h.bR, ?_⟩
  · rcases h.hs with rfl | rfl <;> rcases h.ht with rfl | rfl <;> rcases h.hu with rfl | rfl <;> simp
  · exact h.en
  · rw [h.next_eq]
    rcases h.hs with rfl | rfl <;> rcases h.ht with rfl | rfl <;> rcases h.hu with rfl | rfl <;> simp
  · rw [← h.gcd, Nat.gcd_comm G R]
    rw [Nat.gcd_rec R G]; exact Nat.gcd_comm _ _
  · exact h.c2
  · have e1 : g - g.tdiv rest * rest - a * (x - g.tdiv rest * next) = (g - a * x) - g.tdiv rest * (rest - a * next) := by
      simp only [Int.mul_sub, Int.mul_left_comm a]; omega
    rw [e1]
    exact Int.dvd_sub h.c1 (Int.dvd_mul_of_dvd_right h.c2)
  · have := Nat.mod_lt G (Nat.pos_of_ne_zero hR); have := h.bR; omega

/-- What Split answers, for b not 0: the gcd g, and the least x from 0 on such that b divides g - a x. -/
structure IsSplit (a b : Int) (g : Nat) (x : Int) : Prop where
  gcd : g = Nat.gcd a.natAbs b.natAbs
  dvd : b ∣ (g : Int) - a * x
  lo : 0 ≤ x
  hi : x < ((b.natAbs / g : Nat) : Int)

theorem gcd_pos {a b : Int} (hb : b ≠ 0) : 0 < Nat.gcd a.natAbs b.natAbs := Nat.gcd_pos_of_pos_right _ (by omega)

theorem mod_split {a b x0 : Int} (hb : b ≠ 0) (h : b ∣ (Nat.gcd a.natAbs b.natAbs : Int) - a * x0) :
    IsSplit a b (Nat.gcd a.natAbs b.natAbs) (x0 % ((b.natAbs / Nat.gcd a.natAbs b.natAbs : Nat) : Int)) := by
  have hg := gcd_pos (a := a) hb
  generalize hgd : Nat.gcd a.natAbs b.natAbs = g at *
  have ga : g ∣ a.natAbs := hgd ▸ Nat.gcd_dvd_left _ _
  have gb : g ∣ b.natAbs := hgd ▸ Nat.gcd_dvd_right _ _
  have eb : g * (b.natAbs / g) = b.natAbs := Nat.mul_div_cancel' gb
  have hd : 0 < b.natAbs / g := Nat.div_pos (Nat.le_of_dvd (by omega) gb) hg
  generalize hdd : b.natAbs / g = d at *
  refine ⟨hgd.symm, ?_, Int.emod_nonneg _ (by omega), ?_⟩
  rotate_left
  · have e0 : (b.natAbs / g : Nat) = d := hdd
    rw [e0]; exact Int.emod_lt_of_pos x0 (show (0 : Int) < d by omega)
  have e : (g : Int) - a * (x0 % (d : Int)) = ((g : Int) - a * x0) + a * (d : Int) * (x0 / (d : Int)) := by
    have := Int.mul_ediv_add_emod x0 (d : Int)
    have h2 : a * x0 = a * ((d : Int) * (x0 / (d : Int)) + x0 % (d : Int)) := by rw [this]
    rw [Int.mul_add, ← Int.mul_assoc] at h2
    omega
  rw [e]
  refine Int.dvd_add h (Int.dvd_mul_of_dvd_left ?_)
  obtain ⟨k, hk⟩ := Int.ofNat_dvd_left.2 ga
  have e2 : a * (d : Int) = k * ((b.natAbs : Nat) : Int) := by
    rw [hk, ← eb, Int.natCast_mul, Int.mul_comm (g : Int) k, Int.mul_assoc]
  rw [e2]
  exact Int.dvd_mul_of_dvd_right (Int.dvd_natAbs_self)

theorem IsSplit.least {a b x y : Int} {g : Nat} (hb : b ≠ 0) (h : IsSplit a b g x) (h0 : 0 ≤ y) (hy : y < x) : ¬ b ∣ (g : Int) - a * y := by
  intro hd
  have hg : 0 < g := h.gcd ▸ gcd_pos hb
  have h1 : b ∣ a * (x - y) := by
    have := Int.dvd_sub hd h.dvd
    have e : (g : Int) - a * y - ((g : Int) - a * x) = a * (x - y) := by rw [Int.mul_sub]; omega
    rwa [e] at this
  have h2 : b.natAbs ∣ a.natAbs * (x - y).natAbs := by rw [← Int.natAbs_mul]; exact Int.natAbs_dvd_natAbs.2 h1
  have ga : g ∣ a.natAbs := h.gcd ▸ Nat.gcd_dvd_left _ _
  have gb : g ∣ b.natAbs := h.gcd ▸ Nat.gcd_dvd_right _ _
  have co : Nat.Coprime (a.natAbs / g) (b.natAbs / g) := by rw [h.gcd]; exact Nat.coprime_div_gcd_div_gcd (gcd_pos hb)
  have eb : g * (b.natAbs / g) = b.natAbs := Nat.mul_div_cancel' gb
  have ea : g * (a.natAbs / g) = a.natAbs := Nat.mul_div_cancel' ga
  have hi := h.hi
  rw [← eb, ← ea, Nat.mul_assoc] at h2
  have h3 := Nat.dvd_of_mul_dvd_mul_left hg h2
  have h4 := co.symm.dvd_of_dvd_mul_left h3
  have := Nat.le_of_dvd (by omega) h4
  omega

theorem IsSplit.unique {a b x y : Int} {g g' : Nat} (hb : b ≠ 0) (h : IsSplit a b g x) (h' : IsSplit a b g' y) : g = g' ∧ x = y := by
  have e : g = g' := h.gcd.trans h'.gcd.symm
  subst e
  refine ⟨rfl, ?_⟩
  rcases Int.lt_trichotomy x y with hl | he | hl
  · exact absurd h.dvd (h'.least hb h.lo hl)
  · exact he
  · exact absurd h'.dvd (h.least hb h'.lo hl)

end Go.Proofs.Ytdcapokamdmneab
