/-
  Contracts for Dot of package num and of its reference.
-/
import Derived.Test.YtbjkijifpikhkaaProg
import Derived.Test.YtbjkijifpikhkaaKit
import Derived.Test.YtbjkijifpikhkaaNumBase
namespace Go.Proofs.Ytbjkijifpikhkaa
open Go.RowKit
set_option linter.unusedVariables false

def dotSum (cs xs : List Int) : Nat → Int
  | 0 => 0
  | i + 1 => dotSum cs xs i + cs[i]?.getD 0 * xs[i]?.getD 0
def goodAt (cs xs : List Int) (i : Nat) : Prop := (-1048576 ≤ cs[i]?.getD 0 ∧ cs[i]?.getD 0 ≤ 1048576) ∧ -4294967296 ≤ xs[i]?.getD 0 ∧ xs[i]?.getD 0 ≤ 4294967296
open Classical in
noncomputable def dotErr (cs xs : List Int) : Int := if cs.length ≠ xs.length then 2 else if 12 < cs.length then 3 else if ∀ i, i < cs.length → goodAt cs xs i then 0 else 6
noncomputable def dotVal (cs xs : List Int) : Int := if dotErr cs xs = 0 then dotSum cs xs cs.length else 0

theorem mul_bd {x y A B : Int} (hx : -A ≤ x ∧ x ≤ A) (hy : -B ≤ y ∧ y ≤ B) : -(A * B) ≤ x * y ∧ x * y ≤ A * B := by
  have h : (x * y).natAbs ≤ A.natAbs * B.natAbs := by rw [Int.natAbs_mul]; exact Nat.mul_le_mul (by omega) (by omega)
  have e : ((A.natAbs * B.natAbs : Nat) : Int) = A * B := by
    rw [Int.natCast_mul]
    have h1 : (A.natAbs : Int) = A := by omega
    have h2 : (B.natAbs : Int) = B := by omega
    rw [h1, h2]
  omega

theorem dotSum_bd {cs xs : List Int} : ∀ i, (∀ j, j < i → goodAt cs xs j) → -(4503599627370496 * (i : Int)) ≤ dotSum cs xs i ∧ dotSum cs xs i ≤ 4503599627370496 * (i : Int)
  | 0, _ => by simp [dotSum]
  | i + 1, h => by
    have ih := dotSum_bd i fun j hj => h j (by omega)
    obtain ⟨h1, h2⟩ := h i (by omega)
    have hm := mul_bd h1 h2
    simp only [dotSum, Int.natCast_add]
    omega

theorem good_succ {cs xs : List Int} {i : Nat} (hg : ∀ j, j < i → goodAt cs xs j) (h : goodAt cs xs i) : ∀ j, j < i + 1 → goodAt cs xs j := fun j hj => by
  rcases Nat.lt_or_eq_of_le (Nat.le_of_lt_succ hj) with h1 | h1
  · exact hg j h1
  · exact h1 ▸ h

/-- A valid coordinate. -/
def coordB (n : Int) : Bool := decide (-4294967296 ≤ n ∧ n ≤ 4294967296)
theorem coordB_true {n : Int} : coordB n = true ↔ -4294967296 ≤ n ∧ n ≤ 4294967296 := by unfold coordB; simp
theorem coordB_false {n : Int} : coordB n = false ↔ ¬ (-4294967296 ≤ n ∧ n ≤ 4294967296) := by unfold coordB; simp

theorem coord_any (n : Int) (w : World) : Calls Try.prog 41 #[.int .i64 n] w fun e w' => e = .returned (.bool (coordB n)) ∧ w = w' := by
  by_cases h1 : -4294967296 ≤ n
  all_goals
    go_enter Try.func41, Try.ntmps41
    go_wp2
    go_ret
    exact ⟨ret_bool (by unfold coordB; simp; omega), rfl⟩

theorem dot_bad {cs xs : List Int} {i : Nat} (hl : cs.length = xs.length) (h12 : ¬ 12 < cs.length) (hi : i < cs.length) (hb : ¬ goodAt cs xs i) : 0 = dotVal cs xs ∧ 6 = dotErr cs xs := by
  have e1 : dotErr cs xs = 6 := by
    unfold dotErr
    rw [if_neg (by simpa using hl), if_neg h12, if_neg (fun h => hb (h i hi))]
  exact ⟨by unfold dotVal; rw [if_neg (by rw [e1]; decide)], e1.symm⟩

theorem dot_ok {cs xs : List Int} (hl : cs.length = xs.length) (h12 : ¬ 12 < cs.length) (h : ∀ i, i < cs.length → goodAt cs xs i) : dotSum cs xs cs.length = dotVal cs xs ∧ 0 = dotErr cs xs := by
  have e1 : dotErr cs xs = 0 := by
    unfold dotErr
    rw [if_neg (by simpa using hl), if_neg h12, if_pos h]
  exact ⟨by unfold dotVal; rw [if_pos e1], e1.symm⟩

theorem not_good {cs xs : List Int} {i : Nat} (h : ¬ goodAt cs xs i) : ¬ (-1048576 ≤ cs[i]?.getD 0 ∧ cs[i]?.getD 0 ≤ 1048576) ∨
    ((-1048576 ≤ cs[i]?.getD 0 ∧ cs[i]?.getD 0 ≤ 1048576) ∧ xs[i]?.getD 0 < -4294967296) ∨ ((-1048576 ≤ cs[i]?.getD 0 ∧ cs[i]?.getD 0 ≤ 1048576) ∧ -4294967296 ≤ xs[i]?.getD 0 ∧ 4294967296 < xs[i]?.getD 0) := by
  unfold goodAt at h; omega

theorem num_dot (w : World) (B : Nat) (A A' : Option Addr) (n c n' c' : Nat) (cs xs : List Int) (h : Ints w B A n cs) (h' : Ints w B A' n' xs) :
    Calls Try.prog 40 #[.slice A n c, .slice A' n' c'] w fun e w' => e = .returned (.tuple #[.int .i64 (dotVal cs xs), .int .i64 (dotErr cs xs)]) ∧ ∃ k, w' = w.drewN k := by
  have hn := h.small
  have hn' := h'.small
  by_cases hl : n = n'
  · subst hl
    by_cases h12 : 12 < n
    · have e1 : dotErr cs xs = 3 := by unfold dotErr; rw [if_neg (by rw [h.len, h'.len]; simp), if_pos (by rw [h.len]; exact h12)]
      have e2 : dotVal cs xs = 0 := by unfold dotVal; rw [if_neg (by rw [e1]; decide)]
      have HE := Lib.hid (And.intro e2.symm e1.symm)
      clear e1 e2
      have h12' : (12 : Int) < n := by omega
      go_enter Try.func40, Try.ntmps40
      go_wp2
      go_ret2
      exact ⟨ret2 (vint HE.out.1) (vint HE.out.2), 0, rfl⟩
    · have h12' : (n : Int) ≤ 12 := by omega
      go_enter Try.func40, Try.ntmps40
      go_wp2
      go_loopw [6, 18] (fun u v wr => ∃ (i k : Nat), i ≤ n ∧ v = .int .i64 i ∧ u = .int .i64 (dotSum cs xs i) ∧ (∀ j, j < i → goodAt cs xs j) ∧ wr = w.drewN k) (fun _ v _ => n - (intOf v).toNat)
      case atStart => exact ⟨0, 0, Nat.zero_le _, rfl, rfl, fun j hj => absurd hj (by omega), rfl⟩
      case round =>
        obtain ⟨i, k, hi, rfl, rfl, hg, rfl⟩ := hrel
        by_cases hlt : i < n
        · obtain ⟨bl, off, rfl, hb, hc⟩ := h.cells (by omega)
          obtain ⟨bl', off', rfl, hb', hc'⟩ := h'.cells (by omega)
          have hcell := hc i hlt
          have hcell' := hc' i hlt
          clear hc hc'
          by_cases hgood : goodAt cs xs i
          · have hs := dotSum_bd i hg
            have hs' := dotSum_bd (cs := cs) (xs := xs) (i + 1) (good_succ hg hgood)
            have hm := mul_bd hgood.1 hgood.2
            have HG := Lib.hid (And.intro hg hgood)
            have gd := coordB_true.2 hgood.2
            have gf := fitsB_true.2 hgood.1
            obtain ⟨⟨g1, g2⟩, g3, g4⟩ := hgood
            simp only [dotSum] at hs'
            have HE := Lib.hid (show wrap64 (dotSum cs xs i + wrap64 (cs[i]?.getD 0 * xs[i]?.getD 0)) = dotSum cs xs (i + 1) by
              rw [IntWalk.wrap64_in (cs[i]?.getD 0 * xs[i]?.getD 0) (by omega)]
              exact IntWalk.wrap64_in _ (by omega))
            clear hs hs' hm hg
            have q1 : (0 : Int) ≤ i := by omega
            have q2 : (i : Int) < n := by omega
            go_wp2_with (first
              | (go_at_call 42; refine (num_fits _ _).mono ?_; rintro e w' ⟨rfl, rfl⟩)
              | (go_at_call 42; refine (coord_any _ _).mono ?_; rintro e w' ⟨rfl, rfl⟩))
            go_quiet (fail)
            go_wp2
            go_roundw
            case rel => exact ⟨i + 1, _, by omega, by go_num, vint HE.out, good_succ HG.out.1 HG.out.2, rfl⟩
            case measure => simp [intOf]; omega
          · have HB := Lib.hid (dot_bad (h.len.trans h'.len.symm) (by rw [h.len]; exact h12) (by rw [h.len]; exact hlt) hgood)
            have q1 : (0 : Int) ≤ i := by omega
            have q2 : (i : Int) < n := by omega
            rcases not_good hgood with g | ⟨⟨g1, g2⟩, g3⟩ | ⟨⟨g1, g2⟩, g3, g4⟩
            · have gd := fitsB_false.2 g
              clear g hgood hg
              go_wp2_with (first
                | (go_at_call 42; refine (num_fits _ _).mono ?_; rintro e w' ⟨rfl, rfl⟩)
                | (go_at_call 42; refine (coord_any _ _).mono ?_; rintro e w' ⟨rfl, rfl⟩))
              go_ret2
              exact ⟨ret2 (vint HB.out.1) (vint HB.out.2), _, rfl⟩
            · have gd : coordB (xs[i]?.getD 0) = false := coordB_false.2 (by omega)
              have gf := fitsB_true.2 ⟨g1, g2⟩
              clear hgood hg
              go_wp2_with (first
                | (go_at_call 42; refine (num_fits _ _).mono ?_; rintro e w' ⟨rfl, rfl⟩)
                | (go_at_call 42; refine (coord_any _ _).mono ?_; rintro e w' ⟨rfl, rfl⟩))
              go_ret2
              exact ⟨ret2 (vint HB.out.1) (vint HB.out.2), _, rfl⟩
            · have gd : coordB (xs[i]?.getD 0) = false := coordB_false.2 (by omega)
              have gf := fitsB_true.2 ⟨g1, g2⟩
              clear hgood hg
              go_wp2_with (first
                | (go_at_call 42; refine (num_fits _ _).mono ?_; rintro e w' ⟨rfl, rfl⟩)
                | (go_at_call 42; refine (coord_any _ _).mono ?_; rintro e w' ⟨rfl, rfl⟩))
              go_ret2
              exact ⟨ret2 (vint HB.out.1) (vint HB.out.2), _, rfl⟩
        · have e : n = i := by omega
          have HB := Lib.hid (dot_ok (h.len.trans h'.len.symm) (by rw [h.len]; exact h12) (fun j hj => hg j (by rw [h.len] at hj; omega)))
          have HL := Lib.hid (h.len.trans e)
          have hge : ¬ i < n := hlt
          clear e hg
          go_wp2
          go_ret2
          exact ⟨ret2 (vint (by rw [← HB.out.1, HL.out])) (vint HB.out.2), _, rfl⟩
  · have e1 : dotErr cs xs = 2 := by unfold dotErr; rw [if_pos (by rw [h.len, h'.len]; exact hl)]
    have e2 : dotVal cs xs = 0 := by unfold dotVal; rw [if_neg (by rw [e1]; decide)]
    have HE := Lib.hid (And.intro e2.symm e1.symm)
    have hne : ((n : Int) != n') = true := by simp; omega
    clear e1 e2
    go_enter Try.func40, Try.ntmps40
    go_wp2
    go_ret2
    exact ⟨ret2 (vint HE.out.1) (vint HE.out.2), 0, rfl⟩


end Go.Proofs.Ytbjkijifpikhkaa
