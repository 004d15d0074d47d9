/-
  No cell of these rows narrows 'for every input' (looked for: loops, veiled, ifaces, maps, wideKeys, modest, calm, conditions, laid).
  DERIVED. THE GIVEN ROWS OF THIS SEAT. 4 by the template 'for every input the law returns true; each argument reads behind the call as it read before'; 0 by the template 'total and deterministic' (their statements: YtdcapokamdmneabTotals.lean).
  GIVEN WITH THE SEED: the statements are not yours to turn. If you find one false, say at which input.
  Laid BY PROGRAM, IN A SANDBOX (cutbox-rows.mjs): the forced cells as the released guide's own fill.sh prints them over the translation 0e74284caa16a4cb… (all of the seat's roots in one cut). By AI agents, Wed Nov 11 2026. No macro, syntax, notation, axiom, sorry.
-/
import Derived.Test.YtdcapokamdmneabChecked
import GoSem.Claim
import GoSem.ClaimJoined
import GoSem.ClaimMapViews
import Derived.JoinedTies
import Derived.KernelRfl
namespace Go.Proofs.Ytdcapokamdmneab
/- THE CELL 'sum', in the pinned program and in every row, IS THE sha256 OF THE DUMP (.gsa) THAT YtdcapokamdmneabProg.lean LOADS. Nothing in Lean hashes anything: it is a label: what it is worth is what the hold of that sum in a sandbox is worth. -/
noncomputable def Try.pinned : Pinned := { name := "ytdcapokamdmneab", sum := "0e74284caa16a4cb99761873fb0da94a6c2266b7c2144e4cf8aa050fb5e80624", checked := Try.checked }
namespace Rows
def none {H : Type} : Left H := { results := [], args := [] }

/-- 'headlandlaw02.LinPuts': WHATEVER THE INPUT: true; the input reads as it did. -/
def linPutsSpec : ChangeSpec := { name := "linPuts", fn := fun _ => fun
  | [d1, d2, d3, d4] => { results := [.lit (.bool true)], args := [d1, d2, d3, d4] }
  | _ => none }
def linPutsRow : OpenClaim := { program := "ytdcapokamdmneab", sum := "0e74284caa16a4cb99761873fb0da94a6c2266b7c2144e4cf8aa050fb5e80624", func := "headland/headlandlaw02.LinPuts", spec := "linPuts", unfollowed := true, recurses := true, apart := false }
def LinPutsSaid : Prop := linPutsRow.holds Try.pinned (OpenSpec.ofChange linPutsSpec)

/-- ITS FALSE NEIGHBOUR: 'it returns false'. Refute it at one input. -/
def linPutsWrong : ChangeSpec := { name := "linPuts", fn := fun _ => fun
  | [d1, d2, d3, d4] => { results := [.lit (.bool false)], args := [d1, d2, d3, d4] }
  | _ => none }
def LinPutsWrongFalsely : Prop := linPutsRow.holds Try.pinned (OpenSpec.ofChange linPutsWrong)

/-- 'headlandlaw02.LinCompares': WHATEVER THE INPUT: true; the input reads as it did. -/
def linComparesSpec : ChangeSpec := { name := "linCompares", fn := fun _ => fun
  | [d1, d2] => { results := [.lit (.bool true)], args := [d1, d2] }
  | _ => none }
def linComparesRow : OpenClaim := { program := "ytdcapokamdmneab", sum := "0e74284caa16a4cb99761873fb0da94a6c2266b7c2144e4cf8aa050fb5e80624", func := "headland/headlandlaw02.LinCompares", spec := "linCompares", unfollowed := true, recurses := true, apart := false }
def LinComparesSaid : Prop := linComparesRow.holds Try.pinned (OpenSpec.ofChange linComparesSpec)

/-- ITS FALSE NEIGHBOUR: 'it returns false'. Refute it at one input. -/
def linComparesWrong : ChangeSpec := { name := "linCompares", fn := fun _ => fun
  | [d1, d2] => { results := [.lit (.bool false)], args := [d1, d2] }
  | _ => none }
def LinComparesWrongFalsely : Prop := linComparesRow.holds Try.pinned (OpenSpec.ofChange linComparesWrong)

/-- 'headlandlaw02.LinValues': WHATEVER THE INPUT: true; the input reads as it did. -/
def linValuesSpec : ChangeSpec := { name := "linValues", fn := fun _ => fun
  | [d1, d2, d3, d4, d5] => { results := [.lit (.bool true)], args := [d1, d2, d3, d4, d5] }
  | _ => none }
def linValuesRow : OpenClaim := { program := "ytdcapokamdmneab", sum := "0e74284caa16a4cb99761873fb0da94a6c2266b7c2144e4cf8aa050fb5e80624", func := "headland/headlandlaw02.LinValues", spec := "linValues", unfollowed := true, recurses := true, apart := false }
def LinValuesSaid : Prop := linValuesRow.holds Try.pinned (OpenSpec.ofChange linValuesSpec)

/-- ITS FALSE NEIGHBOUR: 'it returns false'. Refute it at one input. -/
def linValuesWrong : ChangeSpec := { name := "linValues", fn := fun _ => fun
  | [d1, d2, d3, d4, d5] => { results := [.lit (.bool false)], args := [d1, d2, d3, d4, d5] }
  | _ => none }
def LinValuesWrongFalsely : Prop := linValuesRow.holds Try.pinned (OpenSpec.ofChange linValuesWrong)

/-- 'headlandlaw02.LinOwn': WHATEVER THE INPUT: true; the input reads as it did. -/
def linOwnSpec : ChangeSpec := { name := "linOwn", fn := fun _ => fun
  | [d1, d2, d3, d4] => { results := [.lit (.bool true)], args := [d1, d2, d3, d4] }
  | _ => none }
def linOwnRow : OpenClaim := { program := "ytdcapokamdmneab", sum := "0e74284caa16a4cb99761873fb0da94a6c2266b7c2144e4cf8aa050fb5e80624", func := "headland/headlandlaw02.LinOwn", spec := "linOwn", unfollowed := true, recurses := true, apart := false }
def LinOwnSaid : Prop := linOwnRow.holds Try.pinned (OpenSpec.ofChange linOwnSpec)

/-- ITS FALSE NEIGHBOUR: 'it returns false'. Refute it at one input. -/
def linOwnWrong : ChangeSpec := { name := "linOwn", fn := fun _ => fun
  | [d1, d2, d3, d4] => { results := [.lit (.bool false)], args := [d1, d2, d3, d4] }
  | _ => none }
def LinOwnWrongFalsely : Prop := linOwnRow.holds Try.pinned (OpenSpec.ofChange linOwnWrong)

/- THE SECOND FORM. 'bulk': how many values and letters a reading holds, each counted each time it is reached (what is shared counts as often as it is met; a slice's spare places count too). A statement '..UptoSaid' is the law's where the arguments, and the package variables that the reading takes, are together of bulk at most 1048576: NARROWER than '..Said'. Prove '..Said' where nothing that the law and all that it calls make is longer than what came in: it says more and counts as full. Else prove '..UptoSaid'. A law counts once. -/
mutual
def uptoBulk {H : Type} : DataW H → Nat
  | .lit (.string bytes) => bytes.length + 1
  | .lit _ => 1
  | .nil => 1
  | .ptr d => uptoBulk d + 1
  | .slice elems spare => uptoBulkAll elems + uptoBulkAll spare + 1
  | .agg parts => uptoBulkAll parts + 1
  | .iface _ d => uptoBulk d + 1
  | .map entries => uptoBulkEntries entries + 1
  | .held _ => 1
def uptoBulkAll {H : Type} : List (DataW H) → Nat
  | [] => 0
  | d :: r => uptoBulk d + uptoBulkAll r
def uptoBulkEntries {H : Type} : List (Lit × DataW H) → Nat
  | [] => 0
  | x :: r => uptoBulkEntry x + uptoBulkEntries r
def uptoBulkEntry {H : Type} : Lit × DataW H → Nat
  | (.string bytes, d) => bytes.length + uptoBulk d + 1
  | (_, d) => uptoBulk d + 1
 end
def uptoSmall : (H : Type) → List (DataW H) → Bool := fun _ ds => decide (uptoBulkAll ds ≤ 1048576)
def OpenSpec.upto (s : _root_.Go.ChangeSpec) : _root_.Go.OpenSpec := { _root_.Go.OpenSpec.ofChange s with cond := some uptoSmall }

/-- 'headlandlaw02.LinPuts', WHERE WHAT IT READS IS OF BULK AT MOST 1048576: true; the input reads as it did. -/
def linPutsUptoRow : OpenClaim := { program := "ytdcapokamdmneab", sum := "0e74284caa16a4cb99761873fb0da94a6c2266b7c2144e4cf8aa050fb5e80624", func := "headland/headlandlaw02.LinPuts", spec := "linPuts", unfollowed := true, recurses := true, apart := false, narrowed := true }
def LinPutsUptoSaid : Prop := linPutsUptoRow.holds Try.pinned (OpenSpec.upto linPutsSpec)

/-- 'headlandlaw02.LinCompares', WHERE WHAT IT READS IS OF BULK AT MOST 1048576: true; the input reads as it did. -/
def linComparesUptoRow : OpenClaim := { program := "ytdcapokamdmneab", sum := "0e74284caa16a4cb99761873fb0da94a6c2266b7c2144e4cf8aa050fb5e80624", func := "headland/headlandlaw02.LinCompares", spec := "linCompares", unfollowed := true, recurses := true, apart := false, narrowed := true }
def LinComparesUptoSaid : Prop := linComparesUptoRow.holds Try.pinned (OpenSpec.upto linComparesSpec)

/-- 'headlandlaw02.LinValues', WHERE WHAT IT READS IS OF BULK AT MOST 1048576: true; the input reads as it did. -/
def linValuesUptoRow : OpenClaim := { program := "ytdcapokamdmneab", sum := "0e74284caa16a4cb99761873fb0da94a6c2266b7c2144e4cf8aa050fb5e80624", func := "headland/headlandlaw02.LinValues", spec := "linValues", unfollowed := true, recurses := true, apart := false, narrowed := true }
def LinValuesUptoSaid : Prop := linValuesUptoRow.holds Try.pinned (OpenSpec.upto linValuesSpec)

/-- 'headlandlaw02.LinOwn', WHERE WHAT IT READS IS OF BULK AT MOST 1048576: true; the input reads as it did. -/
def linOwnUptoRow : OpenClaim := { program := "ytdcapokamdmneab", sum := "0e74284caa16a4cb99761873fb0da94a6c2266b7c2144e4cf8aa050fb5e80624", func := "headland/headlandlaw02.LinOwn", spec := "linOwn", unfollowed := true, recurses := true, apart := false, narrowed := true }
def LinOwnUptoSaid : Prop := linOwnUptoRow.holds Try.pinned (OpenSpec.upto linOwnSpec)

end Rows
end Go.Proofs.Ytdcapokamdmneab
