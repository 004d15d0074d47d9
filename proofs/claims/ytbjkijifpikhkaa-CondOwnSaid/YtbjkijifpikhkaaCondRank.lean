/-
  Ranks of kinds; cmp.Or.
-/
import Derived.Test.YtbjkijifpikhkaaProg
import Derived.Test.YtbjkijifpikhkaaKit
import Derived.Test.YtbjkijifpikhkaaLinKit
import Derived.Test.YtbjkijifpikhkaaLinCmp
import Derived.Test.YtbjkijifpikhkaaNumBase
import Derived.Test.YtbjkijifpikhkaaWideBase
namespace Go.Proofs.Ytbjkijifpikhkaa
open Go.RowKit
set_option linter.unusedVariables false
set_option linter.unusedSimpArgs false

def rankI (q : Int) : Int := if q = 1 then 0 else if q = 0 then 1 else 2

theorem cond_rank (q : Int) (hq : q = 0 ∨ q = 1 ∨ q = 2) (w : World) : Calls Try.prog 37 #[.int .i64 q] w fun e w' => e = .returned (.int .i64 (rankI q)) ∧ w = w' := by
  rcases hq with rfl | rfl | rfl
  · have x0 : ∀ w : World, (Instr.index 72 (.agg #[.int .i64 1, .int .i64 0, .int .i64 2]) (.int .i64 0)).run Try.prog w = .ok (.int .i64 1) w := fun _ => rfl
    go_enter Try.func37, Try.ntmps37
    go_wp2
    go_ret
    exact ⟨rfl, rfl⟩
  · have x0 : ∀ w : World, (Instr.index 72 (.agg #[.int .i64 1, .int .i64 0, .int .i64 2]) (.int .i64 1)).run Try.prog w = .ok (.int .i64 0) w := fun _ => rfl
    go_enter Try.func37, Try.ntmps37
    go_wp2
    go_ret
    exact ⟨rfl, rfl⟩
  · have x0 : ∀ w : World, (Instr.index 72 (.agg #[.int .i64 1, .int .i64 0, .int .i64 2]) (.int .i64 2)).run Try.prog w = .ok (.int .i64 2) w := fun _ => rfl
    go_enter Try.func37, Try.ntmps37
    go_wp2
    go_ret
    exact ⟨rfl, rfl⟩

theorem ref_rank (q : Int) (w : World) : Calls Try.prog 57 #[.int .i64 q] w fun e w' => e = .returned (.int .i64 (rankI q)) ∧ w = w' := by
  by_cases h1 : q = 1
  · subst h1
    go_enter Try.func57, Try.ntmps57
    go_wp2
    go_ret
    exact ⟨rfl, rfl⟩
  · by_cases h0 : q = 0
    · subst h0
      go_enter Try.func57, Try.ntmps57
      go_wp2
      go_ret
      exact ⟨rfl, rfl⟩
    · have HR := Lib.hid (show rankI q = 2 by unfold rankI; rw [if_neg h1, if_neg h0])
      have q1 : (q == 1) = false := by simpa using h1
      have q0 : (q == 0) = false := by simpa using h0
      clear h1 h0
      go_enter Try.func57, Try.ntmps57
      go_wp2
      go_ret
      exact ⟨ret1 (vint HR.out.symm), rfl⟩

theorem cmp_or (A : Option Addr) (n c : Nat) (xs : List Int) (w : World) (hI : IntsAt w A n xs) :
    Calls Try.prog 35 #[.slice A n c] w fun e w' => e = .returned (.int .i64 (leadI xs)) ∧ w = w' := by
  have hsm := hI.small
  have HL := Lib.hid hI.len
  go_enter Try.func35, Try.ntmps35
  go_wp2
  go_loop [8] (fun v => ∃ i : Nat, i ≤ n ∧ v = .int .i64 i ∧ ∀ j, j < i → xs[j]?.getD 0 = 0) (fun v => n - (intOf v).toNat)
  case atStart => exact ⟨0, Nat.zero_le _, rfl, fun j hj => absurd hj (by omega)⟩
  case round =>
    obtain ⟨i, hi, rfl, hz⟩ := hrel
    have HZ := Lib.hid hz
    clear hz
    by_cases hlt : i < n
    · obtain ⟨bl, off, rfl, hbl, hc⟩ := hI.cells (by omega)
      have hcell := hc i hlt
      have q1 : (i : Int) < n := by omega
      clear hc
      by_cases hx : xs[i]?.getD 0 = 0
      · have HXX := Lib.hid hx
        rw [hx] at hcell
        clear hx
        go_wp2
        go_round
        case rel => exact ⟨i + 1, by omega, by go_num, fun j hj => by
          rcases Nat.lt_or_eq_of_le (Nat.le_of_lt_succ hj) with h1 | h1
          · exact HZ.out j h1
          · exact h1 ▸ HXX.out⟩
        case measure => simp [intOf]; omega
      · have HV := Lib.hid (lead_at (by rw [HL.out]; exact hlt) HZ.out hx)
        generalize xs[i]?.getD 0 = x at *
        have q2 : (x != 0) = true := by simpa using hx
        have q3 : (x == 0) = false := by simpa using hx
        clear hx
        go_wp2
        go_ret
        exact ⟨ret1 (vint HV.out.symm), rfl⟩
    · obtain rfl : i = n := by omega
      have HV := Lib.hid (show leadI xs = 0 by rw [lead_skip i xs (by rw [HL.out]; exact Nat.le_refl _) HZ.out, List.drop_of_length_le (by rw [HL.out]; exact Nat.le_refl _)]; rfl)
      have hge : ¬ ((i : Int) < i) := by omega
      go_wp2
      go_ret
      exact ⟨ret1 (vint HV.out.symm), rfl⟩
end Go.Proofs.Ytbjkijifpikhkaa
