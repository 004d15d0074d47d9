/-
  Plain facts on numbers for the proofs of layer 1.
-/
namespace Go.Proofs.Ytbjkijifpikhkaa

theorem tmod_cases (a b : Int) (hb : 1 ≤ b) : (a.tmod b = a % b ∧ a.tdiv b = a / b ∧ (0 ≤ a ∨ a % b = 0)) ∨ (a.tmod b = a % b - b ∧ a.tdiv b = a / b + 1 ∧ a < 0 ∧ a % b ≠ 0) := by
  have h1 := @Int.tdiv_eq_ediv a b
  have h2 := @Int.tmod_eq_emod a b
  have hs : b.sign = 1 := Int.sign_eq_one_of_pos (by omega)
  have hn : (b.natAbs : Int) = b := by omega
  rw [hs] at h1
  by_cases h : 0 ≤ a ∨ b ∣ a
  · rw [if_pos h] at h1 h2
    refine .inl ⟨by omega, by omega, ?_⟩
    rcases h with h | h
    · exact .inl h
    · exact .inr (Int.emod_eq_zero_of_dvd h)
  · rw [if_neg h] at h1 h2
    refine .inr ⟨by omega, h1, by omega, fun hz => h (.inr (Int.dvd_of_emod_eq_zero hz))⟩

theorem div_bd (a b : Int) (hb : 1 ≤ b) : (0 ≤ a → 0 ≤ a / b ∧ a / b ≤ a) ∧ (a < 0 → a ≤ a / b ∧ a / b < 0) := by
  refine ⟨fun h => ⟨Int.ediv_nonneg h (by omega), Int.ediv_le_self b h⟩, fun h => ⟨?_, Int.ediv_neg_of_neg_of_pos h (by omega)⟩⟩
  rw [Int.le_ediv_iff_mul_le (by omega)]
  have := Int.mul_le_mul_of_nonpos_left (a := a) (show a ≤ 0 by omega) hb
  omega

def ceilDiv (a b : Int) : Int := if a % b = 0 then a / b else a / b + 1

theorem ceil_lt (a b : Int) (hb : 1 ≤ b) : a % b ≠ 0 → 0 ≤ a → a / b < a := by
  intro h h0
  have h1 : b ≠ 1 := fun e => h (by rw [e]; omega)
  have h2 : 0 < a := by
    rcases Int.lt_or_eq_of_le h0 with h2 | h2
    · exact h2
    · exact absurd (by rw [← h2]; simp) h
  rw [Int.ediv_lt_iff_lt_mul (by omega)]
  have := Int.mul_lt_mul_of_pos_left (show 1 < b by omega) h2
  omega

end Go.Proofs.Ytbjkijifpikhkaa
