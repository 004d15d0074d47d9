/-
  Plain facts on gcd and lcm of lists for the proofs of layer 1.
-/
namespace Go.Proofs.Ytbjkijifpikhkaa

def gcdStep (a : Nat) (n : Int) : Nat := Nat.gcd a n.natAbs
def mulStep (m : Nat) (n : Int) : Nat := if 512 < m ∨ 512 < n then 513 else m / Nat.gcd m n.toNat * n.toNat
def okStep (g : Bool) (n : Int) : Bool := g && decide (1 ≤ n)

theorem okStep_all (xs : List Int) : ∀ g, xs.foldl okStep g = (g && xs.all fun n => decide (1 ≤ n)) := by
  induction xs with
  | nil => intro g; simp
  | cons x r ih => intro g; simp only [List.foldl_cons, ih, okStep, List.all_cons]; rw [Bool.and_assoc]

theorem mulStep_pos {m : Nat} {n : Int} (hm : 1 ≤ m ∧ m ≤ 262144) (hn : 1 ≤ n) : 1 ≤ mulStep m n ∧ mulStep m n ≤ 262144 := by
  unfold mulStep
  split
  · omega
  · rename_i h
    have hg : 0 < Nat.gcd m n.toNat := Nat.gcd_pos_of_pos_left _ (by omega)
    have h1 : 0 < m / Nat.gcd m n.toNat := Nat.div_pos (Nat.gcd_le_left _ (by omega)) hg
    have h2 : m / Nat.gcd m n.toNat ≤ 512 := Nat.le_trans (Nat.div_le_self _ _) (by omega)
    have h3 : 1 * 1 ≤ m / Nat.gcd m n.toNat * n.toNat := Nat.mul_le_mul h1 (by omega)
    have h4 : m / Nat.gcd m n.toNat * n.toNat ≤ 512 * 512 := Nat.mul_le_mul h2 (by omega)
    omega

/-- m is the least number from 1 on that all of xs divide. -/
def IsLcm (xs : List Int) (m : Nat) : Prop := 1 ≤ m ∧ (∀ x ∈ xs, x.toNat ∣ m) ∧ ∀ k, 1 ≤ k → (∀ x ∈ xs, x.toNat ∣ k) → m ∣ k

theorem lcm_fold (ys : List Int) : ∀ (xs : List Int) (m : Nat), (∀ y ∈ ys, 1 ≤ y) → ((m ≤ 512 ∧ IsLcm xs m) ∨ (512 < m ∧ ∀ k, 1 ≤ k → (∀ x ∈ xs, x.toNat ∣ k) → 512 < k)) →
    ((ys.foldl mulStep m ≤ 512 ∧ IsLcm (xs ++ ys) (ys.foldl mulStep m)) ∨ (512 < ys.foldl mulStep m ∧ ∀ k, 1 ≤ k → (∀ x ∈ xs ++ ys, x.toNat ∣ k) → 512 < k)) := by
  induction ys with
  | nil => intro xs m _ h; simpa using h
  | cons y r ih =>
    intro xs m hy h
    have e : xs ++ y :: r = (xs ++ [y]) ++ r := by simp
    rw [List.foldl_cons, e]
    refine ih (xs ++ [y]) (mulStep m y) (fun z hz => hy z (List.mem_cons_of_mem _ hz)) ?_
    have hy1 := hy y List.mem_cons_self
    rcases h with ⟨hm, h1, h2, h3⟩ | ⟨hm, h⟩
    · unfold mulStep
      by_cases hb : 512 < y
      · rw [if_pos (.inr hb)]
        refine .inr ⟨by omega, fun k hk hx => ?_⟩
        have := Nat.le_of_dvd hk (hx y (by simp))
        omega
      · rw [if_neg (by omega)]
        have el : m / Nat.gcd m y.toNat * y.toNat = Nat.lcm m y.toNat := by
          unfold Nat.lcm
          rw [Nat.div_mul_right_comm (Nat.gcd_dvd_left _ _)]
        rw [el]
        have hl : IsLcm (xs ++ [y]) (Nat.lcm m y.toNat) := by
          refine ⟨Nat.lcm_pos (by omega) (by omega), fun x hx => ?_, fun k hk hx => ?_⟩
          · rcases List.mem_append.1 hx with hx | hx
            · exact Nat.dvd_trans (h2 x hx) (Nat.dvd_lcm_left _ _)
            · simp at hx; subst hx; exact Nat.dvd_lcm_right _ _
          · exact Nat.lcm_dvd (h3 k hk fun x h' => hx x (by simp [h'])) (hx y (by simp))
        by_cases hs : Nat.lcm m y.toNat ≤ 512
        · exact .inl ⟨hs, hl⟩
        · refine .inr ⟨by omega, fun k hk hx => ?_⟩
          have := Nat.le_of_dvd hk (hl.2.2 k hk hx)
          omega
    · unfold mulStep
      rw [if_pos (.inl hm)]
      exact .inr ⟨by omega, fun k hk hx => h k hk fun x h' => hx x (by simp [h'])⟩

theorem lcm_list (ys : List Int) (hy : ∀ y ∈ ys, 1 ≤ y) : (ys.foldl mulStep 1 ≤ 512 ∧ IsLcm ys (ys.foldl mulStep 1)) ∨ (512 < ys.foldl mulStep 1 ∧ ∀ k, 1 ≤ k → (∀ x ∈ ys, x.toNat ∣ k) → 512 < k) := by
  have := lcm_fold ys [] 1 hy (.inl ⟨by omega, by omega, by simp, by simp⟩)
  simpa using this

theorem gcd_fold (ys : List Int) : ∀ a : Nat, ys.foldl gcdStep a ∣ a ∧ (∀ y ∈ ys, ys.foldl gcdStep a ∣ y.natAbs) ∧ ∀ d, d ∣ a → (∀ y ∈ ys, d ∣ y.natAbs) → d ∣ ys.foldl gcdStep a := by
  induction ys with
  | nil => intro a; simp
  | cons y r ih =>
    intro a
    rw [List.foldl_cons]
    obtain ⟨h1, h2, h3⟩ := ih (gcdStep a y)
    refine ⟨Nat.dvd_trans h1 (Nat.gcd_dvd_left _ _), fun z hz => ?_, fun d hd hz => h3 d (Nat.dvd_gcd hd (hz y List.mem_cons_self)) fun z h' => hz z (List.mem_cons_of_mem _ h')⟩
    rcases List.mem_cons.1 hz with rfl | hz
    · exact Nat.dvd_trans h1 (Nat.gcd_dvd_right _ _)
    · exact h2 z hz

theorem gcd_fold_le (ys : List Int) (hy : ∀ y ∈ ys, -9223372036854775808 ≤ y ∧ y ≤ 9223372036854775807) : ∀ a : Nat, a ≤ 9223372036854775808 → ys.foldl gcdStep a ≤ 9223372036854775808 := by
  induction ys with
  | nil => intro a h; simpa using h
  | cons y r ih =>
    intro a h
    rw [List.foldl_cons]
    refine ih (fun z hz => hy z (List.mem_cons_of_mem _ hz)) _ ?_
    unfold gcdStep
    have := hy y List.mem_cons_self
    by_cases h0 : a = 0
    · subst h0; rw [Nat.gcd_zero_left]; omega
    · exact Nat.le_trans (Nat.gcd_le_left _ (by omega)) h

end Go.Proofs.Ytbjkijifpikhkaa
