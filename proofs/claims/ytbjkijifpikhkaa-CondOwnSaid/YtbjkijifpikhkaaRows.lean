/-
  No cell of these rows narrows 'for every input' (looked for: loops, veiled, ifaces, maps, wideKeys, modest, calm, conditions, laid).
  DERIVED. THE GIVEN ROWS OF THIS SEAT. 7 by the template 'for every input the law returns true; each argument reads behind the call as it read before'; 0 by the template 'total and deterministic' (their statements: YtbjkijifpikhkaaTotals.lean).
  GIVEN WITH THE SEED: the statements are not yours to turn. If you find one false, say at which input.
  Laid BY PROGRAM, IN A SANDBOX (cutbox-rows.mjs): the forced cells as the released guide's own fill.sh prints them over the translation e48f2802b7e37dfe… (all of the seat's roots in one cut). By AI agents, Wed Nov 11 2026. No macro, syntax, notation, axiom, sorry.
-/
import Derived.Test.YtbjkijifpikhkaaChecked
import GoSem.Claim
import GoSem.ClaimJoined
import GoSem.ClaimMapViews
import Derived.JoinedTies
import Derived.KernelRfl
namespace Go.Proofs.Ytbjkijifpikhkaa
/- THE CELL 'sum', in the pinned program and in every row, IS THE sha256 OF THE DUMP (.gsa) THAT YtbjkijifpikhkaaProg.lean LOADS. Nothing in Lean hashes anything: it is a label: what it is worth is what the hold of that sum in a sandbox is worth. -/
noncomputable def Try.pinned : Pinned := { name := "ytbjkijifpikhkaa", sum := "e48f2802b7e37dfe40deb911b5ccf98bb53de30c7cab439e525ec485db9bf7b2", checked := Try.checked }
namespace Rows
def none {H : Type} : Left H := { results := [], args := [] }

/-- 'headlandlaw03.CondHolds': WHATEVER THE INPUT: true; the input reads as it did. -/
def condHoldsSpec : ChangeSpec := { name := "condHolds", fn := fun _ => fun
  | [d1, d2] => { results := [.lit (.bool true)], args := [d1, d2] }
  | _ => none }
def condHoldsRow : OpenClaim := { program := "ytbjkijifpikhkaa", sum := "e48f2802b7e37dfe40deb911b5ccf98bb53de30c7cab439e525ec485db9bf7b2", func := "headland/headlandlaw03.CondHolds", spec := "condHolds", unfollowed := true, recurses := true, apart := false }
def CondHoldsSaid : Prop := condHoldsRow.holds Try.pinned (OpenSpec.ofChange condHoldsSpec)

/-- ITS FALSE NEIGHBOUR: 'it returns false'. Refute it at one input. -/
def condHoldsWrong : ChangeSpec := { name := "condHolds", fn := fun _ => fun
  | [d1, d2] => { results := [.lit (.bool false)], args := [d1, d2] }
  | _ => none }
def CondHoldsWrongFalsely : Prop := condHoldsRow.holds Try.pinned (OpenSpec.ofChange condHoldsWrong)

/-- 'headlandlaw03.CondNormal': WHATEVER THE INPUT: true; the input reads as it did. -/
def condNormalSpec : ChangeSpec := { name := "condNormal", fn := fun _ => fun
  | [d] => { results := [.lit (.bool true)], args := [d] }
  | _ => none }
def condNormalRow : OpenClaim := { program := "ytbjkijifpikhkaa", sum := "e48f2802b7e37dfe40deb911b5ccf98bb53de30c7cab439e525ec485db9bf7b2", func := "headland/headlandlaw03.CondNormal", spec := "condNormal", unfollowed := true, recurses := true, apart := false }
def CondNormalSaid : Prop := condNormalRow.holds Try.pinned (OpenSpec.ofChange condNormalSpec)

/-- ITS FALSE NEIGHBOUR: 'it returns false'. Refute it at one input. -/
def condNormalWrong : ChangeSpec := { name := "condNormal", fn := fun _ => fun
  | [d] => { results := [.lit (.bool false)], args := [d] }
  | _ => none }
def CondNormalWrongFalsely : Prop := condNormalRow.holds Try.pinned (OpenSpec.ofChange condNormalWrong)

/-- 'headlandlaw03.CondNegates': WHATEVER THE INPUT: true; the input reads as it did. -/
def condNegatesSpec : ChangeSpec := { name := "condNegates", fn := fun _ => fun
  | [d] => { results := [.lit (.bool true)], args := [d] }
  | _ => none }
def condNegatesRow : OpenClaim := { program := "ytbjkijifpikhkaa", sum := "e48f2802b7e37dfe40deb911b5ccf98bb53de30c7cab439e525ec485db9bf7b2", func := "headland/headlandlaw03.CondNegates", spec := "condNegates", unfollowed := true, recurses := true, apart := false }
def CondNegatesSaid : Prop := condNegatesRow.holds Try.pinned (OpenSpec.ofChange condNegatesSpec)

/-- ITS FALSE NEIGHBOUR: 'it returns false'. Refute it at one input. -/
def condNegatesWrong : ChangeSpec := { name := "condNegates", fn := fun _ => fun
  | [d] => { results := [.lit (.bool false)], args := [d] }
  | _ => none }
def CondNegatesWrongFalsely : Prop := condNegatesRow.holds Try.pinned (OpenSpec.ofChange condNegatesWrong)

/-- 'headlandlaw03.CondCompares': WHATEVER THE INPUT: true; the input reads as it did. -/
def condComparesSpec : ChangeSpec := { name := "condCompares", fn := fun _ => fun
  | [d1, d2] => { results := [.lit (.bool true)], args := [d1, d2] }
  | _ => none }
def condComparesRow : OpenClaim := { program := "ytbjkijifpikhkaa", sum := "e48f2802b7e37dfe40deb911b5ccf98bb53de30c7cab439e525ec485db9bf7b2", func := "headland/headlandlaw03.CondCompares", spec := "condCompares", unfollowed := true, recurses := true, apart := false }
def CondComparesSaid : Prop := condComparesRow.holds Try.pinned (OpenSpec.ofChange condComparesSpec)

/-- ITS FALSE NEIGHBOUR: 'it returns false'. Refute it at one input. -/
def condComparesWrong : ChangeSpec := { name := "condCompares", fn := fun _ => fun
  | [d1, d2] => { results := [.lit (.bool false)], args := [d1, d2] }
  | _ => none }
def CondComparesWrongFalsely : Prop := condComparesRow.holds Try.pinned (OpenSpec.ofChange condComparesWrong)

/-- 'headlandlaw03.CondPoints': WHATEVER THE INPUT: true; the input reads as it did. -/
def condPointsSpec : ChangeSpec := { name := "condPoints", fn := fun _ => fun
  | [d1, d2] => { results := [.lit (.bool true)], args := [d1, d2] }
  | _ => none }
def condPointsRow : OpenClaim := { program := "ytbjkijifpikhkaa", sum := "e48f2802b7e37dfe40deb911b5ccf98bb53de30c7cab439e525ec485db9bf7b2", func := "headland/headlandlaw03.CondPoints", spec := "condPoints", unfollowed := true, recurses := true, apart := false }
def CondPointsSaid : Prop := condPointsRow.holds Try.pinned (OpenSpec.ofChange condPointsSpec)

/-- ITS FALSE NEIGHBOUR: 'it returns false'. Refute it at one input. -/
def condPointsWrong : ChangeSpec := { name := "condPoints", fn := fun _ => fun
  | [d1, d2] => { results := [.lit (.bool false)], args := [d1, d2] }
  | _ => none }
def CondPointsWrongFalsely : Prop := condPointsRow.holds Try.pinned (OpenSpec.ofChange condPointsWrong)

/-- 'headlandlaw03.CondOther': WHATEVER THE INPUT: true; the input reads as it did. -/
def condOtherSpec : ChangeSpec := { name := "condOther", fn := fun _ => fun
  | [d1, d2] => { results := [.lit (.bool true)], args := [d1, d2] }
  | _ => none }
def condOtherRow : OpenClaim := { program := "ytbjkijifpikhkaa", sum := "e48f2802b7e37dfe40deb911b5ccf98bb53de30c7cab439e525ec485db9bf7b2", func := "headland/headlandlaw03.CondOther", spec := "condOther", unfollowed := true, recurses := true, apart := false }
def CondOtherSaid : Prop := condOtherRow.holds Try.pinned (OpenSpec.ofChange condOtherSpec)

/-- ITS FALSE NEIGHBOUR: 'it returns false'. Refute it at one input. -/
def condOtherWrong : ChangeSpec := { name := "condOther", fn := fun _ => fun
  | [d1, d2] => { results := [.lit (.bool false)], args := [d1, d2] }
  | _ => none }
def CondOtherWrongFalsely : Prop := condOtherRow.holds Try.pinned (OpenSpec.ofChange condOtherWrong)

/-- 'headlandlaw03.CondOwn': WHATEVER THE INPUT: true; the input reads as it did. -/
def condOwnSpec : ChangeSpec := { name := "condOwn", fn := fun _ => fun
  | [d] => { results := [.lit (.bool true)], args := [d] }
  | _ => none }
def condOwnRow : OpenClaim := { program := "ytbjkijifpikhkaa", sum := "e48f2802b7e37dfe40deb911b5ccf98bb53de30c7cab439e525ec485db9bf7b2", func := "headland/headlandlaw03.CondOwn", spec := "condOwn", unfollowed := true, recurses := true, apart := false }
def CondOwnSaid : Prop := condOwnRow.holds Try.pinned (OpenSpec.ofChange condOwnSpec)

/-- ITS FALSE NEIGHBOUR: 'it returns false'. Refute it at one input. -/
def condOwnWrong : ChangeSpec := { name := "condOwn", fn := fun _ => fun
  | [d] => { results := [.lit (.bool false)], args := [d] }
  | _ => none }
def CondOwnWrongFalsely : Prop := condOwnRow.holds Try.pinned (OpenSpec.ofChange condOwnWrong)

/- THE SECOND FORM. 'bulk': how many values and letters a reading holds, each counted each time it is reached (what is shared counts as often as it is met; a slice's spare places count too). A statement '..UptoSaid' is the law's where the arguments, and the package variables that the reading takes, are together of bulk at most 1048576: NARROWER than '..Said'. Prove '..Said' where nothing that the law and all that it calls make is longer than what came in: it says more and counts as full. Else prove '..UptoSaid'. A law counts once. -/
mutual
def uptoBulk {H : Type} : DataW H → Nat
  | .lit (.string bytes) => bytes.length + 1
  | .lit _ => 1
  | .nil => 1
  | .ptr d => uptoBulk d + 1
  | .slice elems spare => uptoBulkAll elems + uptoBulkAll spare + 1
  | .agg parts => uptoBulkAll parts + 1
  | .iface _ d => uptoBulk d + 1
  | .map entries => uptoBulkEntries entries + 1
  | .held _ => 1
def uptoBulkAll {H : Type} : List (DataW H) → Nat
  | [] => 0
  | d :: r => uptoBulk d + uptoBulkAll r
def uptoBulkEntries {H : Type} : List (Lit × DataW H) → Nat
  | [] => 0
  | x :: r => uptoBulkEntry x + uptoBulkEntries r
def uptoBulkEntry {H : Type} : Lit × DataW H → Nat
  | (.string bytes, d) => bytes.length + uptoBulk d + 1
  | (_, d) => uptoBulk d + 1
 end
def uptoSmall : (H : Type) → List (DataW H) → Bool := fun _ ds => decide (uptoBulkAll ds ≤ 1048576)
def OpenSpec.upto (s : _root_.Go.ChangeSpec) : _root_.Go.OpenSpec := { _root_.Go.OpenSpec.ofChange s with cond := some uptoSmall }

/-- 'headlandlaw03.CondHolds', WHERE WHAT IT READS IS OF BULK AT MOST 1048576: true; the input reads as it did. -/
def condHoldsUptoRow : OpenClaim := { program := "ytbjkijifpikhkaa", sum := "e48f2802b7e37dfe40deb911b5ccf98bb53de30c7cab439e525ec485db9bf7b2", func := "headland/headlandlaw03.CondHolds", spec := "condHolds", unfollowed := true, recurses := true, apart := false, narrowed := true }
def CondHoldsUptoSaid : Prop := condHoldsUptoRow.holds Try.pinned (OpenSpec.upto condHoldsSpec)

/-- 'headlandlaw03.CondNormal', WHERE WHAT IT READS IS OF BULK AT MOST 1048576: true; the input reads as it did. -/
def condNormalUptoRow : OpenClaim := { program := "ytbjkijifpikhkaa", sum := "e48f2802b7e37dfe40deb911b5ccf98bb53de30c7cab439e525ec485db9bf7b2", func := "headland/headlandlaw03.CondNormal", spec := "condNormal", unfollowed := true, recurses := true, apart := false, narrowed := true }
def CondNormalUptoSaid : Prop := condNormalUptoRow.holds Try.pinned (OpenSpec.upto condNormalSpec)

/-- 'headlandlaw03.CondNegates', WHERE WHAT IT READS IS OF BULK AT MOST 1048576: true; the input reads as it did. -/
def condNegatesUptoRow : OpenClaim := { program := "ytbjkijifpikhkaa", sum := "e48f2802b7e37dfe40deb911b5ccf98bb53de30c7cab439e525ec485db9bf7b2", func := "headland/headlandlaw03.CondNegates", spec := "condNegates", unfollowed := true, recurses := true, apart := false, narrowed := true }
def CondNegatesUptoSaid : Prop := condNegatesUptoRow.holds Try.pinned (OpenSpec.upto condNegatesSpec)

/-- 'headlandlaw03.CondCompares', WHERE WHAT IT READS IS OF BULK AT MOST 1048576: true; the input reads as it did. -/
def condComparesUptoRow : OpenClaim := { program := "ytbjkijifpikhkaa", sum := "e48f2802b7e37dfe40deb911b5ccf98bb53de30c7cab439e525ec485db9bf7b2", func := "headland/headlandlaw03.CondCompares", spec := "condCompares", unfollowed := true, recurses := true, apart := false, narrowed := true }
def CondComparesUptoSaid : Prop := condComparesUptoRow.holds Try.pinned (OpenSpec.upto condComparesSpec)

/-- 'headlandlaw03.CondPoints', WHERE WHAT IT READS IS OF BULK AT MOST 1048576: true; the input reads as it did. -/
def condPointsUptoRow : OpenClaim := { program := "ytbjkijifpikhkaa", sum := "e48f2802b7e37dfe40deb911b5ccf98bb53de30c7cab439e525ec485db9bf7b2", func := "headland/headlandlaw03.CondPoints", spec := "condPoints", unfollowed := true, recurses := true, apart := false, narrowed := true }
def CondPointsUptoSaid : Prop := condPointsUptoRow.holds Try.pinned (OpenSpec.upto condPointsSpec)

/-- 'headlandlaw03.CondOther', WHERE WHAT IT READS IS OF BULK AT MOST 1048576: true; the input reads as it did. -/
def condOtherUptoRow : OpenClaim := { program := "ytbjkijifpikhkaa", sum := "e48f2802b7e37dfe40deb911b5ccf98bb53de30c7cab439e525ec485db9bf7b2", func := "headland/headlandlaw03.CondOther", spec := "condOther", unfollowed := true, recurses := true, apart := false, narrowed := true }
def CondOtherUptoSaid : Prop := condOtherUptoRow.holds Try.pinned (OpenSpec.upto condOtherSpec)

/-- 'headlandlaw03.CondOwn', WHERE WHAT IT READS IS OF BULK AT MOST 1048576: true; the input reads as it did. -/
def condOwnUptoRow : OpenClaim := { program := "ytbjkijifpikhkaa", sum := "e48f2802b7e37dfe40deb911b5ccf98bb53de30c7cab439e525ec485db9bf7b2", func := "headland/headlandlaw03.CondOwn", spec := "condOwn", unfollowed := true, recurses := true, apart := false, narrowed := true }
def CondOwnUptoSaid : Prop := condOwnUptoRow.holds Try.pinned (OpenSpec.upto condOwnSpec)

end Rows
end Go.Proofs.Ytbjkijifpikhkaa
