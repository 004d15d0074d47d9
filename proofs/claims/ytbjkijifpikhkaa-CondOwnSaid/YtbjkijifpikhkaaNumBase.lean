/-
  Contracts for the functions of package num, and of its reference, that only compute with numbers.
-/
import Derived.Test.YtbjkijifpikhkaaProg
import Derived.Test.YtbjkijifpikhkaaMath
import Derived.WalkKit
import Derived.Handy
import Derived.Deep.QuietTactic
import Derived.BigQuiet
import Derived.Lib.Hide
namespace Go.Proofs.Ytbjkijifpikhkaa
open Go.RowKit
set_option linter.unusedVariables false

theorem own : ownKnob Try.prog.godebug = none := by kernel_rfl
theorem laidOut : laidOutB Try.prog = true := by kernel_rfl

theorem ret_bool {a b : Bool} (h : a = b) : Ending.returned (.bool a) = .returned (.bool b) := by rw [h]
theorem ret1 {a b : Value} (h : a = b) : Ending.returned a = .returned b := by rw [h]
theorem ret2 {a b c d : Value} (h : a = b) (h' : c = d) : Ending.returned (.tuple #[a, c]) = .returned (.tuple #[b, d]) := by rw [h, h']
theorem vint {k : IntKind} {a b : Int} (h : a = b) : Value.int k a = .int k b := by rw [h]

/-- A valid coefficient. -/
def fitsB (n : Int) : Bool := decide (-1048576 ≤ n ∧ n ≤ 1048576)
theorem fitsB_true {n : Int} : fitsB n = true ↔ -1048576 ≤ n ∧ n ≤ 1048576 := by unfold fitsB; simp
theorem fitsB_false {n : Int} : fitsB n = false ↔ ¬ (-1048576 ≤ n ∧ n ≤ 1048576) := by unfold fitsB; simp

theorem num_fits (n : Int) (w : World) : Calls Try.prog 42 #[.int .i64 n] w fun e w' => e = .returned (.bool (fitsB n)) ∧ w = w' := by
  by_cases h1 : -1048576 ≤ n
  all_goals
    go_enter Try.func42, Try.ntmps42
    go_wp2
    go_ret
    exact ⟨ret_bool (by unfold fitsB; simp; omega), rfl⟩

theorem num_mod (a b : Int) (wa : -9223372036854775808 ≤ a) (wa' : a ≤ 9223372036854775807) (wb : b ≤ 9223372036854775807) (hb : 1 ≤ b) (w : World) : Calls Try.prog 25 #[.int .i64 a, .int .i64 b] w fun e w' => e = .returned (.tuple #[.int .i64 (a % b), .int .i64 0]) ∧ w = w' := by
  have hc := tmod_cases a b hb
  have m0 := Int.emod_nonneg a (show b ≠ 0 by omega)
  have m1 := Int.emod_lt_of_pos a (show 0 < b by omega)
  have HC := Lib.hid (And.intro hc (And.intro m0 m1))
  clear hc m0 m1
  by_cases g1 : a.tmod b < 0
  · go_enter Try.func25, Try.ntmps25
    go_wp2
    go_ret2
    exact ⟨ret2 (vint (by have := HC.out; unfold wrap64; omega)) rfl, rfl⟩
  · go_enter Try.func25, Try.ntmps25
    go_wp2
    go_ret2
    exact ⟨ret2 (vint (by have := HC.out; omega)) rfl, rfl⟩

theorem num_Mod_bad (a b : Int) (hb : b < 1) (w : World) : Calls Try.prog 25 #[.int .i64 a, .int .i64 b] w fun e w' => e = .returned (.tuple #[.int .i64 0, .int .i64 1]) ∧ w = w' := by
  go_enter Try.func25, Try.ntmps25
  go_wp2
  go_ret2
  exact ⟨rfl, rfl⟩

theorem headlandref01_fits (n : Int) (w : World) : Calls Try.prog 44 #[.int .i64 n] w fun e w' => e = .returned (.bool (fitsB n)) ∧ w = w' := by
  by_cases h1 : -1048576 ≤ n
  all_goals
    go_enter Try.func44, Try.ntmps44
    go_wp2
    go_ret
    exact ⟨ret_bool (by unfold fitsB; simp; omega), rfl⟩

theorem headlandref01_floor (a b : Int) (wa : -9223372036854775808 ≤ a) (wa' : a ≤ 9223372036854775807) (wb : b ≤ 9223372036854775807) (hb : 1 ≤ b) (w : World) : Calls Try.prog 49 #[.int .i64 a, .int .i64 b] w fun e w' => e = .returned (.tuple #[.int .i64 (a / b), .int .i64 0]) ∧ w = w' := by
  have hc := tmod_cases a b hb
  have hd := div_bd a b hb
  have m0 := Int.emod_nonneg a (show b ≠ 0 by omega)
  have m1 := Int.emod_lt_of_pos a (show 0 < b by omega)
  rcases hc with ⟨h1, h2, h3⟩ | ⟨h1, h2, h3, h4⟩
  · have HC := Lib.hid (And.intro h1 h2)
    clear h1 h2
    have g1 : 0 ≤ a.tmod b := by have := HC.out; omega
    clear m0 m1 hd
    go_enter Try.func49, Try.ntmps49
    go_wp2
    go_ret2
    exact ⟨ret2 (vint HC.out.2) rfl, rfl⟩
  · have HC := Lib.hid (And.intro h1 (And.intro h2 (And.intro h3 (And.intro hd h4))))
    have g1 : a.tmod b < 0 := by omega
    clear h1 h2 h4 hd m0 m1
    go_enter Try.func49, Try.ntmps49
    go_wp2
    go_ret2
    exact ⟨ret2 (vint (by have := HC.out; unfold wrap64; omega)) rfl, rfl⟩

theorem headlandref01_mod (a b : Int) (wa : -9223372036854775808 ≤ a) (wa' : a ≤ 9223372036854775807) (wb : b ≤ 9223372036854775807) (hb : 1 ≤ b) (w : World) : Calls Try.prog 51 #[.int .i64 a, .int .i64 b] w fun e w' => e = .returned (.tuple #[.int .i64 (a % b), .int .i64 0]) ∧ w = w' := by
  have hc := tmod_cases a b hb
  have m0 := Int.emod_nonneg a (show b ≠ 0 by omega)
  have m1 := Int.emod_lt_of_pos a (show 0 < b by omega)
  have HC := Lib.hid (And.intro hc (And.intro m0 m1))
  clear hc m0 m1
  by_cases g1 : a.tmod b < 0
  · go_enter Try.func51, Try.ntmps51
    go_wp2
    go_ret2
    exact ⟨ret2 (vint (by have := HC.out; unfold wrap64; omega)) rfl, rfl⟩
  · go_enter Try.func51, Try.ntmps51
    go_wp2
    go_ret2
    exact ⟨ret2 (vint (by have := HC.out; omega)) rfl, rfl⟩

theorem headlandref01_Floor_bad (a b : Int) (hb : b < 1) (w : World) : Calls Try.prog 49 #[.int .i64 a, .int .i64 b] w fun e w' => e = .returned (.tuple #[.int .i64 0, .int .i64 1]) ∧ w = w' := by
  go_enter Try.func49, Try.ntmps49
  go_wp2
  go_ret2
  exact ⟨rfl, rfl⟩

theorem headlandref01_Mod_bad (a b : Int) (hb : b < 1) (w : World) : Calls Try.prog 51 #[.int .i64 a, .int .i64 b] w fun e w' => e = .returned (.tuple #[.int .i64 0, .int .i64 1]) ∧ w = w' := by
  go_enter Try.func51, Try.ntmps51
  go_wp2
  go_ret2
  exact ⟨rfl, rfl⟩

end Go.Proofs.Ytbjkijifpikhkaa