/-
  The reference of layer 3: truth. (To come: over, Made, Normal.)
-/
import Derived.Test.YtbjkijifpikhkaaProg
import Derived.Test.YtbjkijifpikhkaaKit
import Derived.Test.YtbjkijifpikhkaaLinKit
import Derived.Test.YtbjkijifpikhkaaCondKit
namespace Go.Proofs.Ytbjkijifpikhkaa
open Go.RowKit
set_option linter.unusedVariables false
set_option linter.unusedSimpArgs false

/-- What a condition without variables comes to, in the reference. -/
theorem ref_truth (b : Bool) (w : World) : Calls Try.prog 48 #[.bool b] w fun e w' => e = .returned (.tuple #[condV 0 0 none 0 0 0, .int .i64 (if b then 1 else -1)]) ∧ Below w.heap.size w w' := by
  have hB := below_alloc w (.cells #[.int .i64 0, .int .i64 0, .slice none 0 0, .int .i64 0] 26)
  have B1 := CBox.new w 0 0 none 0 0 0
  cases b
  all_goals
    go_enter Try.func48, Try.ntmps48
    go_wp2
    first
      | exact bodyPost_ret (v := .tuple #[condV 0 0 none 0 0 0, .int .i64 (-1)]) (by simp [results, Try.results48, go_sem]) rfl ⟨rfl, hB⟩
      | exact bodyPost_ret (v := .tuple #[condV 0 0 none 0 0 0, .int .i64 1]) (by simp [results, Try.results48, go_sem]) rfl ⟨rfl, hB⟩
end Go.Proofs.Ytbjkijifpikhkaa
