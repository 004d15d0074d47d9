/-
  Contracts for Gcd and Lcm of the reference of package num.
-/
import Derived.Test.YtbjkijifpikhkaaProg
import Derived.Test.YtbjkijifpikhkaaKit
import Derived.Test.YtbjkijifpikhkaaNumBase
import Derived.Test.YtbjkijifpikhkaaNumMath
import Derived.Test.YtbjkijifpikhkaaNumGcd
namespace Go.Proofs.Ytbjkijifpikhkaa
open Go.RowKit
set_option linter.unusedVariables false

theorem ref_gcd (w : World) (B : Nat) (A : Option Addr) (n c : Nat) (xs : List Int) (h : Ints w B A n xs) :
    Calls Try.prog 47 #[.slice A n c] w fun e w' => e = .returned (.tuple #[.int .i64 (gcdVal xs), .int .i64 (gcdErr xs)]) ∧ ∃ k, w' = w.drewN k := by
  have hn := h.small
  go_enter Try.func47, Try.ntmps47
  go_wp2
  go_loopw [4, 10] (fun u v wr => ∃ i k b : Nat, i ≤ n ∧ v = .int .i64 i ∧ u = .int .u64 b ∧ b < 18446744073709551616 ∧ b = (xs.take i).foldl gcdStep 0 ∧ wr = w.drewN k) (fun _ v _ => n - (intOf v).toNat)
  case atStart => exact ⟨0, 0, 0, Nat.zero_le _, rfl, rfl, by omega, rfl, rfl⟩
  case round =>
    obtain ⟨i, k, b, hi, rfl, rfl, hb64, eb, rfl⟩ := hrel
    have EB := Lib.hid eb
    clear eb
    by_cases hlt : i < n
    · obtain ⟨bl, off, rfl, hb, hc⟩ := h.cells (by omega)
      have hcell := hc i hlt
      have hr1 := (h.rng i).1
      have hr2 := (h.rng i).2
      have HE := Lib.hid (foldl_take gcdStep 0 xs (i := i) (by rw [h.len]; exact hlt))
      have HS := Lib.hid (gcdStep_lt b _ hb64 hr1 hr2)
      clear hc
      go_wp2_with (go_at_call 63; refine (headlandref01_size _ hr1 hr2 _).mono ?_; rintro e w' ⟨rfl, rfl⟩)
      go_loopw [4, 7] (fun u v wr => ∃ x y k' : Nat, u = .int .u64 x ∧ v = .int .u64 y ∧ x < 18446744073709551616 ∧ y < 18446744073709551616 ∧ Nat.gcd x y = gcdStep b (xs[i]?.getD 0) ∧ wr = w.drewN k') (fun _ v _ => (intOf v).toNat)
      case atStart => exact ⟨b, (xs[i]?.getD 0).natAbs, k, rfl, rfl, hb64, by omega, rfl, rfl⟩
      case round =>
        obtain ⟨x, y, k', rfl, rfl, hx, hy, hg, rfl⟩ := hrel
        have HG := Lib.hid hg
        clear hg
        by_cases h0 : y = 0
        · subst h0
          go_wp2
          go_roundw
          case rel => exact ⟨i + 1, k', x, by omega, by go_num, rfl, hx, by rw [HE.out, ← EB.out, ← HG.out]; simp, rfl⟩
          case measure => simp [intOf]; omega
        · have hy0 : (0 : Int) < y := by omega
          go_wp2
          go_quiet (fail)
          go_wp2
          go_roundw
          case rel =>
            exact ⟨y, x % y, k' + nq, rfl, by rw [Int.natCast_emod], hy, by have := Nat.mod_lt x (Nat.pos_of_ne_zero h0); omega, by rw [← HG.out, Nat.gcd_comm x y, Nat.gcd_rec y x]; exact Nat.gcd_comm _ _, by simp⟩
          case measure => simp [intOf]; have := Nat.mod_lt x (Nat.pos_of_ne_zero h0); omega
    · have e : n = i := by omega
      have HE := Lib.hid (show b = xs.foldl gcdStep 0 by rw [EB.out, List.take_of_length_le (by rw [h.len, e]; exact Nat.le_refl _)])
      have hge : ¬ i < n := hlt
      have hle := gcd_fold_le xs h.wf 0 (by omega)
      rw [← HE.out] at hle
      clear e
      by_cases hz : b = 9223372036854775808
      · have HZ := Lib.hid (show gcdVal xs = 0 ∧ gcdErr xs = 3 from ⟨by unfold gcdVal; rw [if_pos (HE.out ▸ hz)], by unfold gcdErr; rw [if_pos (HE.out ▸ hz)]⟩)
        subst hz
        go_wp2
        go_ret2
        exact ⟨ret2 (vint HZ.out.1.symm) (vint HZ.out.2.symm), _, rfl⟩
      · have HZ := Lib.hid (show gcdVal xs = (b : Nat) ∧ gcdErr xs = 0 from ⟨by unfold gcdVal; rw [if_neg (HE.out ▸ hz), HE.out], by unfold gcdErr; rw [if_neg (HE.out ▸ hz)]⟩)
        have hlt2 : (b : Int) < 9223372036854775808 := by omega
        have hq : ((b : Int) == 9223372036854775808) = false := by simp; omega
        go_wp2
        go_ret2
        exact ⟨ret2 (vint HZ.out.1.symm) (vint HZ.out.2.symm), _, rfl⟩

def divStep (m : Nat) (g : Bool) (x : Int) : Bool := g && decide ((m : Int) % x = 0)

theorem divStep_all (m : Nat) (xs : List Int) : ∀ g, xs.foldl (divStep m) g = (g && xs.all fun x => decide ((m : Int) % x = 0)) := by
  induction xs with
  | nil => intro g; simp
  | cons x r ih => intro g; simp only [List.foldl_cons, ih, divStep, List.all_cons]; rw [Bool.and_assoc]

theorem div_iff {m : Nat} {xs : List Int} (hx : ∀ x ∈ xs, 1 ≤ x) : xs.foldl (divStep m) true = true ↔ ∀ x ∈ xs, x.toNat ∣ m := by
  rw [divStep_all, Bool.true_and, List.all_eq_true]
  have key : ∀ x : Int, 1 ≤ x → (((m : Int) % x = 0) ↔ x.toNat ∣ m) := fun x h => by
    obtain ⟨j, rfl⟩ : ∃ j : Nat, x = j := ⟨x.toNat, by omega⟩
    rw [Int.toNat_natCast, ← Int.natCast_emod, Nat.dvd_iff_mod_eq_zero]; omega
  exact ⟨fun h x hm => (key x (hx x hm)).1 (by simpa using h x hm), fun h x hm => by simpa using (key x (hx x hm)).2 (h x hm)⟩

theorem lcm_found {xs : List Int} {m : Nat} (hx : ∀ x ∈ xs, 1 ≤ x) (h1 : 1 ≤ m) (h2 : m ≤ 512) (hno : ∀ j, 1 ≤ j → j < m → ¬ xs.foldl (divStep j) true = true) (hd : xs.foldl (divStep m) true = true) :
    (m : Int) = lcmVal xs ∧ 0 = lcmErr xs := by
  have hm := (div_iff hx).1 hd
  rcases lcm_list xs hx with ⟨h3, h4⟩ | ⟨h3, h4⟩
  · have hle := Nat.le_of_dvd h1 (h4.2.2 m h1 hm)
    have hge : ¬ xs.foldl mulStep 1 < m := fun hl => hno _ h4.1 hl ((div_iff hx).2 h4.2.1)
    have e : xs.foldl mulStep 1 = m := by omega
    exact ⟨by unfold lcmVal; rw [if_pos hx, if_pos h3, e], by unfold lcmErr; rw [if_pos hx, if_pos h3]⟩
  · exact absurd (h4 m h1 hm) (by omega)

theorem lcm_none {xs : List Int} (hx : ∀ x ∈ xs, 1 ≤ x) (hno : ∀ j, 1 ≤ j → j < 513 → ¬ xs.foldl (divStep j) true = true) : 0 = lcmVal xs ∧ 3 = lcmErr xs := by
  rcases lcm_list xs hx with ⟨h3, h4⟩ | ⟨h3, h4⟩
  · exact absurd ((div_iff hx).2 h4.2.1) (hno _ h4.1 (by omega))
  · exact ⟨by unfold lcmVal; rw [if_pos hx, if_neg (by omega)], by unfold lcmErr; rw [if_pos hx, if_neg (by omega)]⟩

theorem lcm_bad {xs : List Int} {i : Nat} (hi : i < xs.length) (h : xs[i]?.getD 0 < 1) : 0 = lcmVal xs ∧ 1 = lcmErr xs := by
  have hx : ¬ ∀ x ∈ xs, 1 ≤ x := fun hx => by
    have e : xs[i]?.getD 0 = xs[i] := by simp [hi]
    have := hx _ (List.getElem_mem hi)
    omega
  exact ⟨by unfold lcmVal; rw [if_neg hx], by unfold lcmErr; rw [if_neg hx]⟩

theorem take_good {xs : List Int} {i : Nat} (hi : i < xs.length) (hg : ∀ j, j < i → 1 ≤ xs[j]?.getD 0) (h : ¬ xs[i]?.getD 0 < 1) : ∀ j, j < i + 1 → 1 ≤ xs[j]?.getD 0 := fun j hj => by
  rcases Nat.lt_or_eq_of_le (Nat.le_of_lt_succ hj) with h1 | h1
  · exact hg j h1
  · subst h1; omega

theorem all_good {xs : List Int} (h : ∀ j, j < xs.length → 1 ≤ xs[j]?.getD 0) : ∀ x ∈ xs, 1 ≤ x := fun x hx => by
  obtain ⟨j, hj, rfl⟩ := List.getElem_of_mem hx
  have := h j hj
  have e : xs[j]?.getD 0 = xs[j] := by simp [hj]
  omega

end Go.Proofs.Ytbjkijifpikhkaa