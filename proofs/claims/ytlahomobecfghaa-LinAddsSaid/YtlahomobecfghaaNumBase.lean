/-
  Contracts for the functions of package num, and of its reference, that only compute with numbers.
-/
import Derived.Test.YtlahomobecfghaaProg
import Derived.Test.YtlahomobecfghaaMath
import Derived.WalkKit
import Derived.Handy
import Derived.Deep.QuietTactic
import Derived.BigQuiet
import Derived.Lib.Hide
namespace Go.Proofs.Ytlahomobecfghaa
open Go.RowKit
set_option linter.unusedVariables false

theorem own : ownKnob Try.prog.godebug = none := by kernel_rfl
theorem laidOut : laidOutB Try.prog = true := by kernel_rfl

theorem ret_bool {a b : Bool} (h : a = b) : Ending.returned (.bool a) = .returned (.bool b) := by rw [h]
theorem ret1 {a b : Value} (h : a = b) : Ending.returned a = .returned b := by rw [h]
theorem ret2 {a b c d : Value} (h : a = b) (h' : c = d) : Ending.returned (.tuple #[a, c]) = .returned (.tuple #[b, d]) := by rw [h, h']
theorem vint {k : IntKind} {a b : Int} (h : a = b) : Value.int k a = .int k b := by rw [h]

/-- A valid coefficient. -/
def fitsB (n : Int) : Bool := decide (-1048576 ≤ n ∧ n ≤ 1048576)
theorem fitsB_true {n : Int} : fitsB n = true ↔ -1048576 ≤ n ∧ n ≤ 1048576 := by unfold fitsB; simp
theorem fitsB_false {n : Int} : fitsB n = false ↔ ¬ (-1048576 ≤ n ∧ n ≤ 1048576) := by unfold fitsB; simp

theorem num_fits (n : Int) (w : World) : Calls Try.prog 26 #[.int .i64 n] w fun e w' => e = .returned (.bool (fitsB n)) ∧ w = w' := by
  by_cases h1 : -1048576 ≤ n
  all_goals
    go_enter Try.func26, Try.ntmps26
    go_wp2
    go_ret
    exact ⟨ret_bool (by unfold fitsB; simp; omega), rfl⟩

theorem num_floor (a b : Int) (wa : -9223372036854775808 ≤ a) (wa' : a ≤ 9223372036854775807) (wb : b ≤ 9223372036854775807) (hb : 1 ≤ b) (w : World) : Calls Try.prog 15 #[.int .i64 a, .int .i64 b] w fun e w' => e = .returned (.tuple #[.int .i64 (a / b), .int .i64 0]) ∧ w = w' := by
  have hc := tmod_cases a b hb
  have hd := div_bd a b hb
  have m0 := Int.emod_nonneg a (show b ≠ 0 by omega)
  have m1 := Int.emod_lt_of_pos a (show 0 < b by omega)
  rcases hc with ⟨h1, h2, h3⟩ | ⟨h1, h2, h3, h4⟩
  · have HC := Lib.hid (And.intro h1 h2)
    clear h1 h2
    have g1 : 0 ≤ a.tmod b := by have := HC.out; omega
    clear m0 m1 hd
    go_enter Try.func15, Try.ntmps15
    go_wp2
    go_ret2
    exact ⟨ret2 (vint HC.out.2) rfl, rfl⟩
  · have HC := Lib.hid (And.intro h1 (And.intro h2 (And.intro h3 (And.intro hd h4))))
    have g1 : a.tmod b < 0 := by omega
    clear h1 h2 h4 hd m0 m1
    go_enter Try.func15, Try.ntmps15
    go_wp2
    go_ret2
    exact ⟨ret2 (vint (by have := HC.out; unfold wrap64; omega)) rfl, rfl⟩

theorem num_ceil (a b : Int) (wa : -9223372036854775808 ≤ a) (wa' : a ≤ 9223372036854775807) (wb : b ≤ 9223372036854775807) (hb : 1 ≤ b) (w : World) : Calls Try.prog 16 #[.int .i64 a, .int .i64 b] w fun e w' => e = .returned (.tuple #[.int .i64 (ceilDiv a b), .int .i64 0]) ∧ w = w' := by
  have hc := tmod_cases a b hb
  have hd := div_bd a b hb
  have m0 := Int.emod_nonneg a (show b ≠ 0 by omega)
  have m1 := Int.emod_lt_of_pos a (show 0 < b by omega)
  have m2 : a % b ≠ 0 → 0 ≤ a → a / b < a := ceil_lt a b hb
  have HC := Lib.hid (And.intro hc (And.intro hd (And.intro m0 (And.intro m1 m2))))
  clear hc hd m0 m1 m2
  by_cases g1 : 0 < a.tmod b
  · go_enter Try.func16, Try.ntmps16
    go_wp2
    go_ret2
    exact ⟨ret2 (vint (by have := HC.out; unfold wrap64 ceilDiv; split <;> omega)) rfl, rfl⟩
  · go_enter Try.func16, Try.ntmps16
    go_wp2
    go_ret2
    exact ⟨ret2 (vint (by have := HC.out; unfold ceilDiv; split <;> omega)) rfl, rfl⟩

theorem num_mod (a b : Int) (wa : -9223372036854775808 ≤ a) (wa' : a ≤ 9223372036854775807) (wb : b ≤ 9223372036854775807) (hb : 1 ≤ b) (w : World) : Calls Try.prog 17 #[.int .i64 a, .int .i64 b] w fun e w' => e = .returned (.tuple #[.int .i64 (a % b), .int .i64 0]) ∧ w = w' := by
  have hc := tmod_cases a b hb
  have m0 := Int.emod_nonneg a (show b ≠ 0 by omega)
  have m1 := Int.emod_lt_of_pos a (show 0 < b by omega)
  have HC := Lib.hid (And.intro hc (And.intro m0 m1))
  clear hc m0 m1
  by_cases g1 : a.tmod b < 0
  · go_enter Try.func17, Try.ntmps17
    go_wp2
    go_ret2
    exact ⟨ret2 (vint (by have := HC.out; unfold wrap64; omega)) rfl, rfl⟩
  · go_enter Try.func17, Try.ntmps17
    go_wp2
    go_ret2
    exact ⟨ret2 (vint (by have := HC.out; omega)) rfl, rfl⟩

theorem num_Floor_bad (a b : Int) (hb : b < 1) (w : World) : Calls Try.prog 15 #[.int .i64 a, .int .i64 b] w fun e w' => e = .returned (.tuple #[.int .i64 0, .int .i64 1]) ∧ w = w' := by
  go_enter Try.func15, Try.ntmps15
  go_wp2
  go_ret2
  exact ⟨rfl, rfl⟩
theorem num_Ceil_bad (a b : Int) (hb : b < 1) (w : World) : Calls Try.prog 16 #[.int .i64 a, .int .i64 b] w fun e w' => e = .returned (.tuple #[.int .i64 0, .int .i64 1]) ∧ w = w' := by
  go_enter Try.func16, Try.ntmps16
  go_wp2
  go_ret2
  exact ⟨rfl, rfl⟩
theorem num_Mod_bad (a b : Int) (hb : b < 1) (w : World) : Calls Try.prog 17 #[.int .i64 a, .int .i64 b] w fun e w' => e = .returned (.tuple #[.int .i64 0, .int .i64 1]) ∧ w = w' := by
  go_enter Try.func17, Try.ntmps17
  go_wp2
  go_ret2
  exact ⟨rfl, rfl⟩

theorem num_wrap (n : Int) (w : World) : Calls Try.prog 28 #[.int .i64 n] w fun e w' => e = .returned (.int .i64 (wrap32 n)) ∧ w = w' := by
  go_enter Try.func28, Try.ntmps28
  go_wp2
  go_ret
  exact ⟨ret1 (vint (by unfold wrap64 wrap32; omega)), rfl⟩
theorem headlandref01_fits (n : Int) (w : World) : Calls Try.prog 27 #[.int .i64 n] w fun e w' => e = .returned (.bool (fitsB n)) ∧ w = w' := by
  by_cases h1 : -1048576 ≤ n
  all_goals
    go_enter Try.func27, Try.ntmps27
    go_wp2
    go_ret
    exact ⟨ret_bool (by unfold fitsB; simp; omega), rfl⟩

theorem headlandref01_floor (a b : Int) (wa : -9223372036854775808 ≤ a) (wa' : a ≤ 9223372036854775807) (wb : b ≤ 9223372036854775807) (hb : 1 ≤ b) (w : World) : Calls Try.prog 18 #[.int .i64 a, .int .i64 b] w fun e w' => e = .returned (.tuple #[.int .i64 (a / b), .int .i64 0]) ∧ w = w' := by
  have hc := tmod_cases a b hb
  have hd := div_bd a b hb
  have m0 := Int.emod_nonneg a (show b ≠ 0 by omega)
  have m1 := Int.emod_lt_of_pos a (show 0 < b by omega)
  rcases hc with ⟨h1, h2, h3⟩ | ⟨h1, h2, h3, h4⟩
  · have HC := Lib.hid (And.intro h1 h2)
    clear h1 h2
    have g1 : 0 ≤ a.tmod b := by have := HC.out; omega
    clear m0 m1 hd
    go_enter Try.func18, Try.ntmps18
    go_wp2
    go_ret2
    exact ⟨ret2 (vint HC.out.2) rfl, rfl⟩
  · have HC := Lib.hid (And.intro h1 (And.intro h2 (And.intro h3 (And.intro hd h4))))
    have g1 : a.tmod b < 0 := by omega
    clear h1 h2 h4 hd m0 m1
    go_enter Try.func18, Try.ntmps18
    go_wp2
    go_ret2
    exact ⟨ret2 (vint (by have := HC.out; unfold wrap64; omega)) rfl, rfl⟩

theorem headlandref01_ceil (a b : Int) (wa : -9223372036854775808 ≤ a) (wa' : a ≤ 9223372036854775807) (wb : b ≤ 9223372036854775807) (hb : 1 ≤ b) (w : World) : Calls Try.prog 19 #[.int .i64 a, .int .i64 b] w fun e w' => e = .returned (.tuple #[.int .i64 (ceilDiv a b), .int .i64 0]) ∧ w = w' := by
  have hc := tmod_cases a b hb
  have hd := div_bd a b hb
  have m0 := Int.emod_nonneg a (show b ≠ 0 by omega)
  have m1 := Int.emod_lt_of_pos a (show 0 < b by omega)
  have m2 : a % b ≠ 0 → 0 ≤ a → a / b < a := ceil_lt a b hb
  have HC := Lib.hid (And.intro hc (And.intro hd (And.intro m0 (And.intro m1 m2))))
  clear hc hd m0 m1 m2
  by_cases g1 : 0 < a.tmod b
  · go_enter Try.func19, Try.ntmps19
    go_wp2
    go_ret2
    exact ⟨ret2 (vint (by have := HC.out; unfold wrap64 ceilDiv; split <;> omega)) rfl, rfl⟩
  · go_enter Try.func19, Try.ntmps19
    go_wp2
    go_ret2
    exact ⟨ret2 (vint (by have := HC.out; unfold ceilDiv; split <;> omega)) rfl, rfl⟩

theorem headlandref01_mod (a b : Int) (wa : -9223372036854775808 ≤ a) (wa' : a ≤ 9223372036854775807) (wb : b ≤ 9223372036854775807) (hb : 1 ≤ b) (w : World) : Calls Try.prog 20 #[.int .i64 a, .int .i64 b] w fun e w' => e = .returned (.tuple #[.int .i64 (a % b), .int .i64 0]) ∧ w = w' := by
  have hc := tmod_cases a b hb
  have m0 := Int.emod_nonneg a (show b ≠ 0 by omega)
  have m1 := Int.emod_lt_of_pos a (show 0 < b by omega)
  have HC := Lib.hid (And.intro hc (And.intro m0 m1))
  clear hc m0 m1
  by_cases g1 : a.tmod b < 0
  · go_enter Try.func20, Try.ntmps20
    go_wp2
    go_ret2
    exact ⟨ret2 (vint (by have := HC.out; unfold wrap64; omega)) rfl, rfl⟩
  · go_enter Try.func20, Try.ntmps20
    go_wp2
    go_ret2
    exact ⟨ret2 (vint (by have := HC.out; omega)) rfl, rfl⟩

theorem headlandref01_Floor_bad (a b : Int) (hb : b < 1) (w : World) : Calls Try.prog 18 #[.int .i64 a, .int .i64 b] w fun e w' => e = .returned (.tuple #[.int .i64 0, .int .i64 1]) ∧ w = w' := by
  go_enter Try.func18, Try.ntmps18
  go_wp2
  go_ret2
  exact ⟨rfl, rfl⟩
theorem headlandref01_Ceil_bad (a b : Int) (hb : b < 1) (w : World) : Calls Try.prog 19 #[.int .i64 a, .int .i64 b] w fun e w' => e = .returned (.tuple #[.int .i64 0, .int .i64 1]) ∧ w = w' := by
  go_enter Try.func19, Try.ntmps19
  go_wp2
  go_ret2
  exact ⟨rfl, rfl⟩
theorem headlandref01_Mod_bad (a b : Int) (hb : b < 1) (w : World) : Calls Try.prog 20 #[.int .i64 a, .int .i64 b] w fun e w' => e = .returned (.tuple #[.int .i64 0, .int .i64 1]) ∧ w = w' := by
  go_enter Try.func20, Try.ntmps20
  go_wp2
  go_ret2
  exact ⟨rfl, rfl⟩

theorem headlandref01_wrap (n : Int) (w : World) : Calls Try.prog 29 #[.int .i64 n] w fun e w' => e = .returned (.int .i64 (wrap32 n)) ∧ w = w' := by
  go_enter Try.func29, Try.ntmps29
  go_wp2
  go_ret
  exact ⟨ret1 (vint (by unfold wrap64 wrap32; omega)), rfl⟩

theorem split64 (w : World) : Calls Try.prog 32 #[.int .i64 6, .int .i64 4] w fun e w' => e = .returned (.tuple #[.int .i64 2, .int .i64 1, .int .i64 (-1), .int .i64 0]) ∧ ∃ k, w' = w.drewN k := by
  go_enter Try.func32, Try.ntmps32
  go_wp2
  refine wp_loop_rounds 3 ?_
  rw [rounds_succ]
  go_wp2
  rw [rounds_succ]
  go_wp2
  rw [rounds_succ]
  go_wp2
  go_quiet (fail)
  all_goals
    go_wp2
    refine bodyPost_ret (v := .tuple #[.int .i64 2, .int .i64 1, .int .i64 (-1), .int .i64 0]) (by simp [results, Try.results32, go_sem]) rfl ⟨rfl, ?_⟩
    exact ⟨_, rfl⟩

theorem awake1 (w : World) : Calls Try.prog 21 #[] w fun e w' => e = .returned (.bool true) ∧ ∃ k, w' = w.drewN k := by
  go_enter Try.func21, Try.ntmps21
  go_wp2_with (first
    | (go_at_call 15; refine (num_floor _ _ (by decide) (by decide) (by decide) (by decide) _).mono ?_; rintro e w' ⟨rfl, rfl⟩)
    | (go_at_call 16; refine (num_ceil _ _ (by decide) (by decide) (by decide) (by decide) _).mono ?_; rintro e w' ⟨rfl, rfl⟩)
    | (go_at_call 17; refine (num_mod _ _ (by decide) (by decide) (by decide) (by decide) _).mono ?_; rintro e w' ⟨rfl, rfl⟩)
    | (go_at_call 28; refine (num_wrap _ _).mono ?_; rintro e w' ⟨rfl, rfl⟩)
    | (go_at_call 32; refine (split64 _).mono ?_; rintro e w' ⟨rfl, k, rfl⟩))
  go_ret
  exact ⟨ret_bool (by kernel_rfl), _, rfl⟩
end Go.Proofs.Ytlahomobecfghaa
