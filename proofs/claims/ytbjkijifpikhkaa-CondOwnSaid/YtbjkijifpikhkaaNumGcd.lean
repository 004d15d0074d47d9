/-
  Contracts for the functions of package num, and of its reference, on lists: size, divisor, fold, Gcd, Lcm.
-/
import Derived.Test.YtbjkijifpikhkaaProg
import Derived.Test.YtbjkijifpikhkaaKit
import Derived.Test.YtbjkijifpikhkaaNumBase
import Derived.Test.YtbjkijifpikhkaaNumMath
namespace Go.Proofs.Ytbjkijifpikhkaa
open Go.RowKit
set_option linter.unusedVariables false

theorem headlandref01_size (n : Int) (wa : -9223372036854775808 ≤ n) (wa' : n ≤ 9223372036854775807) (w : World) :
    Calls Try.prog 63 #[.int .i64 n] w fun e w' => e = .returned (.int .u64 (n.natAbs : Int)) ∧ w = w' := by
  by_cases h : n < 0
  all_goals
    go_enter Try.func63, Try.ntmps63
    go_wp2
    go_ret
    exact ⟨ret1 (vint (by (try simp only [IntKind.wrap_u64]); omega)), rfl⟩


theorem gcdStep_lt (b : Nat) (x : Int) (hb : b < 18446744073709551616) (h1 : -9223372036854775808 ≤ x) (h2 : x ≤ 9223372036854775807) : gcdStep b x < 18446744073709551616 := by
  unfold gcdStep
  by_cases h0 : b = 0
  · subst h0; rw [Nat.gcd_zero_left]; omega
  · exact Nat.lt_of_le_of_lt (Nat.gcd_le_left _ (by omega)) hb

/-- 'num.Gcd': an error where the gcd is 2^63, which no int holds. -/
def gcdVal (xs : List Int) : Int := if xs.foldl gcdStep 0 = 9223372036854775808 then 0 else (xs.foldl gcdStep 0 : Nat)
def gcdErr (xs : List Int) : Int := if xs.foldl gcdStep 0 = 9223372036854775808 then 3 else 0

/-- 'num.Lcm' -/
def lcmVal (xs : List Int) : Int := if ∀ x ∈ xs, 1 ≤ x then (if xs.foldl mulStep 1 ≤ 512 then (xs.foldl mulStep 1 : Nat) else 0) else 0
def lcmErr (xs : List Int) : Int := if ∀ x ∈ xs, 1 ≤ x then (if xs.foldl mulStep 1 ≤ 512 then 0 else 3) else 1

end Go.Proofs.Ytbjkijifpikhkaa