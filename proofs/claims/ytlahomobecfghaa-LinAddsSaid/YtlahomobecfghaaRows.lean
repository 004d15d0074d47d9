/-
  No cell of these rows narrows 'for every input' (looked for: loops, veiled, ifaces, maps, wideKeys, modest, calm, conditions, laid).
  DERIVED. THE GIVEN ROWS OF THIS SEAT. 12 by the template 'for every input the law returns true; each argument reads behind the call as it read before'; 0 by the template 'total and deterministic' (their statements: YtlahomobecfghaaTotals.lean).
  GIVEN WITH THE SEED: the statements are not yours to turn. If you find one false, say at which input.
  Laid BY PROGRAM, IN A SANDBOX (cutbox-rows.mjs): the forced cells as the released guide's own fill.sh prints them over the translation 7ac831f9b3e2f332… (all of the seat's roots in one cut). By AI agents, Wed Nov 11 2026. No macro, syntax, notation, axiom, sorry.
-/
import Derived.Test.YtlahomobecfghaaChecked
import GoSem.Claim
import GoSem.ClaimJoined
import GoSem.ClaimMapViews
import Derived.JoinedTies
import Derived.KernelRfl
namespace Go.Proofs.Ytlahomobecfghaa
/- THE CELL 'sum', in the pinned program and in every row, IS THE sha256 OF THE DUMP (.gsa) THAT YtlahomobecfghaaProg.lean LOADS. Nothing in Lean hashes anything: it is a label: what it is worth is what the hold of that sum in a sandbox is worth. -/
noncomputable def Try.pinned : Pinned := { name := "ytlahomobecfghaa", sum := "7ac831f9b3e2f332168f4399f741e056bd5a3b7ec59194e8a280c48244a28ad4", checked := Try.checked }
namespace Rows
def none {H : Type} : Left H := { results := [], args := [] }

/-- 'headlandlaw01.NumDivides': WHATEVER THE INPUT: true; the input reads as it did. -/
def numDividesSpec : ChangeSpec := { name := "numDivides", fn := fun _ => fun
  | [d1, d2] => { results := [.lit (.bool true)], args := [d1, d2] }
  | _ => none }
def numDividesRow : OpenClaim := { program := "ytlahomobecfghaa", sum := "7ac831f9b3e2f332168f4399f741e056bd5a3b7ec59194e8a280c48244a28ad4", func := "headland/headlandlaw01.NumDivides", spec := "numDivides", apart := false }
def NumDividesSaid : Prop := numDividesRow.holds Try.pinned (OpenSpec.ofChange numDividesSpec)

/-- ITS FALSE NEIGHBOUR: 'it returns false'. Refute it at one input. -/
def numDividesWrong : ChangeSpec := { name := "numDivides", fn := fun _ => fun
  | [d1, d2] => { results := [.lit (.bool false)], args := [d1, d2] }
  | _ => none }
def NumDividesWrongFalsely : Prop := numDividesRow.holds Try.pinned (OpenSpec.ofChange numDividesWrong)

/-- 'headlandlaw01.NumCommon': WHATEVER THE INPUT: true; the input reads as it did. -/
def numCommonSpec : ChangeSpec := { name := "numCommon", fn := fun _ => fun
  | [d] => { results := [.lit (.bool true)], args := [d] }
  | _ => none }
def numCommonRow : OpenClaim := { program := "ytlahomobecfghaa", sum := "7ac831f9b3e2f332168f4399f741e056bd5a3b7ec59194e8a280c48244a28ad4", func := "headland/headlandlaw01.NumCommon", spec := "numCommon", unfollowed := true, recurses := true, apart := false }
def NumCommonSaid : Prop := numCommonRow.holds Try.pinned (OpenSpec.ofChange numCommonSpec)

/-- ITS FALSE NEIGHBOUR: 'it returns false'. Refute it at one input. -/
def numCommonWrong : ChangeSpec := { name := "numCommon", fn := fun _ => fun
  | [d] => { results := [.lit (.bool false)], args := [d] }
  | _ => none }
def NumCommonWrongFalsely : Prop := numCommonRow.holds Try.pinned (OpenSpec.ofChange numCommonWrong)

/-- 'headlandlaw01.NumFits': WHATEVER THE INPUT: true; the input reads as it did. -/
def numFitsSpec : ChangeSpec := { name := "numFits", fn := fun _ => fun
  | [d] => { results := [.lit (.bool true)], args := [d] }
  | _ => none }
def numFitsRow : OpenClaim := { program := "ytlahomobecfghaa", sum := "7ac831f9b3e2f332168f4399f741e056bd5a3b7ec59194e8a280c48244a28ad4", func := "headland/headlandlaw01.NumFits", spec := "numFits", apart := false }
def NumFitsSaid : Prop := numFitsRow.holds Try.pinned (OpenSpec.ofChange numFitsSpec)

/-- ITS FALSE NEIGHBOUR: 'it returns false'. Refute it at one input. -/
def numFitsWrong : ChangeSpec := { name := "numFits", fn := fun _ => fun
  | [d] => { results := [.lit (.bool false)], args := [d] }
  | _ => none }
def NumFitsWrongFalsely : Prop := numFitsRow.holds Try.pinned (OpenSpec.ofChange numFitsWrong)

/-- 'headlandlaw01.NumDots': WHATEVER THE INPUT: true; the input reads as it did. -/
def numDotsSpec : ChangeSpec := { name := "numDots", fn := fun _ => fun
  | [d1, d2] => { results := [.lit (.bool true)], args := [d1, d2] }
  | _ => none }
def numDotsRow : OpenClaim := { program := "ytlahomobecfghaa", sum := "7ac831f9b3e2f332168f4399f741e056bd5a3b7ec59194e8a280c48244a28ad4", func := "headland/headlandlaw01.NumDots", spec := "numDots", apart := false }
def NumDotsSaid : Prop := numDotsRow.holds Try.pinned (OpenSpec.ofChange numDotsSpec)

/-- ITS FALSE NEIGHBOUR: 'it returns false'. Refute it at one input. -/
def numDotsWrong : ChangeSpec := { name := "numDots", fn := fun _ => fun
  | [d1, d2] => { results := [.lit (.bool false)], args := [d1, d2] }
  | _ => none }
def NumDotsWrongFalsely : Prop := numDotsRow.holds Try.pinned (OpenSpec.ofChange numDotsWrong)

/-- 'headlandlaw01.NumSplits': WHATEVER THE INPUT: true; the input reads as it did. -/
def numSplitsSpec : ChangeSpec := { name := "numSplits", fn := fun _ => fun
  | [d1, d2] => { results := [.lit (.bool true)], args := [d1, d2] }
  | _ => none }
def numSplitsRow : OpenClaim := { program := "ytlahomobecfghaa", sum := "7ac831f9b3e2f332168f4399f741e056bd5a3b7ec59194e8a280c48244a28ad4", func := "headland/headlandlaw01.NumSplits", spec := "numSplits", apart := false }
def NumSplitsSaid : Prop := numSplitsRow.holds Try.pinned (OpenSpec.ofChange numSplitsSpec)

/-- ITS FALSE NEIGHBOUR: 'it returns false'. Refute it at one input. -/
def numSplitsWrong : ChangeSpec := { name := "numSplits", fn := fun _ => fun
  | [d1, d2] => { results := [.lit (.bool false)], args := [d1, d2] }
  | _ => none }
def NumSplitsWrongFalsely : Prop := numSplitsRow.holds Try.pinned (OpenSpec.ofChange numSplitsWrong)

/-- 'headlandlaw01.NumDivision': WHATEVER THE INPUT: true; the input reads as it did. -/
def numDivisionSpec : ChangeSpec := { name := "numDivision", fn := fun _ => fun
  | [d1, d2] => { results := [.lit (.bool true)], args := [d1, d2] }
  | _ => none }
def numDivisionRow : OpenClaim := { program := "ytlahomobecfghaa", sum := "7ac831f9b3e2f332168f4399f741e056bd5a3b7ec59194e8a280c48244a28ad4", func := "headland/headlandlaw01.NumDivision", spec := "numDivision", apart := false }
def NumDivisionSaid : Prop := numDivisionRow.holds Try.pinned (OpenSpec.ofChange numDivisionSpec)

/-- ITS FALSE NEIGHBOUR: 'it returns false'. Refute it at one input. -/
def numDivisionWrong : ChangeSpec := { name := "numDivision", fn := fun _ => fun
  | [d1, d2] => { results := [.lit (.bool false)], args := [d1, d2] }
  | _ => none }
def NumDivisionWrongFalsely : Prop := numDivisionRow.holds Try.pinned (OpenSpec.ofChange numDivisionWrong)

/-- 'headlandlaw01.NumDivisors': WHATEVER THE INPUT: true; the input reads as it did. -/
def numDivisorsSpec : ChangeSpec := { name := "numDivisors", fn := fun _ => fun
  | [d1, d2] => { results := [.lit (.bool true)], args := [d1, d2] }
  | _ => none }
def numDivisorsRow : OpenClaim := { program := "ytlahomobecfghaa", sum := "7ac831f9b3e2f332168f4399f741e056bd5a3b7ec59194e8a280c48244a28ad4", func := "headland/headlandlaw01.NumDivisors", spec := "numDivisors", unfollowed := true, recurses := true, apart := false }
def NumDivisorsSaid : Prop := numDivisorsRow.holds Try.pinned (OpenSpec.ofChange numDivisorsSpec)

/-- ITS FALSE NEIGHBOUR: 'it returns false'. Refute it at one input. -/
def numDivisorsWrong : ChangeSpec := { name := "numDivisors", fn := fun _ => fun
  | [d1, d2] => { results := [.lit (.bool false)], args := [d1, d2] }
  | _ => none }
def NumDivisorsWrongFalsely : Prop := numDivisorsRow.holds Try.pinned (OpenSpec.ofChange numDivisorsWrong)

/-- 'headlandlaw01.NumWraps': WHATEVER THE INPUT: true; the input reads as it did. -/
def numWrapsSpec : ChangeSpec := { name := "numWraps", fn := fun _ => fun
  | [d1, d2] => { results := [.lit (.bool true)], args := [d1, d2] }
  | _ => none }
def numWrapsRow : OpenClaim := { program := "ytlahomobecfghaa", sum := "7ac831f9b3e2f332168f4399f741e056bd5a3b7ec59194e8a280c48244a28ad4", func := "headland/headlandlaw01.NumWraps", spec := "numWraps", apart := false }
def NumWrapsSaid : Prop := numWrapsRow.holds Try.pinned (OpenSpec.ofChange numWrapsSpec)

/-- ITS FALSE NEIGHBOUR: 'it returns false'. Refute it at one input. -/
def numWrapsWrong : ChangeSpec := { name := "numWraps", fn := fun _ => fun
  | [d1, d2] => { results := [.lit (.bool false)], args := [d1, d2] }
  | _ => none }
def NumWrapsWrongFalsely : Prop := numWrapsRow.holds Try.pinned (OpenSpec.ofChange numWrapsWrong)

/-- 'headlandlaw01.NumSplit': WHATEVER THE INPUT: true; the input reads as it did. -/
def numSplitSpec : ChangeSpec := { name := "numSplit", fn := fun _ => fun
  | [d1, d2] => { results := [.lit (.bool true)], args := [d1, d2] }
  | _ => none }
def numSplitRow : OpenClaim := { program := "ytlahomobecfghaa", sum := "7ac831f9b3e2f332168f4399f741e056bd5a3b7ec59194e8a280c48244a28ad4", func := "headland/headlandlaw01.NumSplit", spec := "numSplit", apart := false }
def NumSplitSaid : Prop := numSplitRow.holds Try.pinned (OpenSpec.ofChange numSplitSpec)

/-- ITS FALSE NEIGHBOUR: 'it returns false'. Refute it at one input. -/
def numSplitWrong : ChangeSpec := { name := "numSplit", fn := fun _ => fun
  | [d1, d2] => { results := [.lit (.bool false)], args := [d1, d2] }
  | _ => none }
def NumSplitWrongFalsely : Prop := numSplitRow.holds Try.pinned (OpenSpec.ofChange numSplitWrong)

/-- 'headlandlaw02.LinMakes': WHATEVER THE INPUT: true; the input reads as it did. -/
def linMakesSpec : ChangeSpec := { name := "linMakes", fn := fun _ => fun
  | [d1, d2, d3] => { results := [.lit (.bool true)], args := [d1, d2, d3] }
  | _ => none }
def linMakesRow : OpenClaim := { program := "ytlahomobecfghaa", sum := "7ac831f9b3e2f332168f4399f741e056bd5a3b7ec59194e8a280c48244a28ad4", func := "headland/headlandlaw02.LinMakes", spec := "linMakes", unfollowed := true, recurses := true, apart := false }
def LinMakesSaid : Prop := linMakesRow.holds Try.pinned (OpenSpec.ofChange linMakesSpec)

/-- ITS FALSE NEIGHBOUR: 'it returns false'. Refute it at one input. -/
def linMakesWrong : ChangeSpec := { name := "linMakes", fn := fun _ => fun
  | [d1, d2, d3] => { results := [.lit (.bool false)], args := [d1, d2, d3] }
  | _ => none }
def LinMakesWrongFalsely : Prop := linMakesRow.holds Try.pinned (OpenSpec.ofChange linMakesWrong)

/-- 'headlandlaw02.LinAdds': WHATEVER THE INPUT: true; the input reads as it did. -/
def linAddsSpec : ChangeSpec := { name := "linAdds", fn := fun _ => fun
  | [d1, d2, d3] => { results := [.lit (.bool true)], args := [d1, d2, d3] }
  | _ => none }
def linAddsRow : OpenClaim := { program := "ytlahomobecfghaa", sum := "7ac831f9b3e2f332168f4399f741e056bd5a3b7ec59194e8a280c48244a28ad4", func := "headland/headlandlaw02.LinAdds", spec := "linAdds", unfollowed := true, recurses := true, apart := false }
def LinAddsSaid : Prop := linAddsRow.holds Try.pinned (OpenSpec.ofChange linAddsSpec)

/-- ITS FALSE NEIGHBOUR: 'it returns false'. Refute it at one input. -/
def linAddsWrong : ChangeSpec := { name := "linAdds", fn := fun _ => fun
  | [d1, d2, d3] => { results := [.lit (.bool false)], args := [d1, d2, d3] }
  | _ => none }
def LinAddsWrongFalsely : Prop := linAddsRow.holds Try.pinned (OpenSpec.ofChange linAddsWrong)

/-- 'headlandlaw02.LinAt': WHATEVER THE INPUT: true; the input reads as it did. -/
def linAtSpec : ChangeSpec := { name := "linAt", fn := fun _ => fun
  | [d1, d2] => { results := [.lit (.bool true)], args := [d1, d2] }
  | _ => none }
def linAtRow : OpenClaim := { program := "ytlahomobecfghaa", sum := "7ac831f9b3e2f332168f4399f741e056bd5a3b7ec59194e8a280c48244a28ad4", func := "headland/headlandlaw02.LinAt", spec := "linAt", unfollowed := true, recurses := true, apart := false }
def LinAtSaid : Prop := linAtRow.holds Try.pinned (OpenSpec.ofChange linAtSpec)

/-- ITS FALSE NEIGHBOUR: 'it returns false'. Refute it at one input. -/
def linAtWrong : ChangeSpec := { name := "linAt", fn := fun _ => fun
  | [d1, d2] => { results := [.lit (.bool false)], args := [d1, d2] }
  | _ => none }
def LinAtWrongFalsely : Prop := linAtRow.holds Try.pinned (OpenSpec.ofChange linAtWrong)

/- THE SECOND FORM. 'bulk': how many values and letters a reading holds, each counted each time it is reached (what is shared counts as often as it is met; a slice's spare places count too). A statement '..UptoSaid' is the law's where the arguments, and the package variables that the reading takes, are together of bulk at most 1048576: NARROWER than '..Said'. Prove '..Said' where nothing that the law and all that it calls make is longer than what came in: it says more and counts as full. Else prove '..UptoSaid'. A law counts once. -/
mutual
def uptoBulk {H : Type} : DataW H → Nat
  | .lit (.string bytes) => bytes.length + 1
  | .lit _ => 1
  | .nil => 1
  | .ptr d => uptoBulk d + 1
  | .slice elems spare => uptoBulkAll elems + uptoBulkAll spare + 1
  | .agg parts => uptoBulkAll parts + 1
  | .iface _ d => uptoBulk d + 1
  | .map entries => uptoBulkEntries entries + 1
  | .held _ => 1
def uptoBulkAll {H : Type} : List (DataW H) → Nat
  | [] => 0
  | d :: r => uptoBulk d + uptoBulkAll r
def uptoBulkEntries {H : Type} : List (Lit × DataW H) → Nat
  | [] => 0
  | x :: r => uptoBulkEntry x + uptoBulkEntries r
def uptoBulkEntry {H : Type} : Lit × DataW H → Nat
  | (.string bytes, d) => bytes.length + uptoBulk d + 1
  | (_, d) => uptoBulk d + 1
 end
def uptoSmall : (H : Type) → List (DataW H) → Bool := fun _ ds => decide (uptoBulkAll ds ≤ 1048576)
def OpenSpec.upto (s : _root_.Go.ChangeSpec) : _root_.Go.OpenSpec := { _root_.Go.OpenSpec.ofChange s with cond := some uptoSmall }

/-- 'headlandlaw01.NumDivides', WHERE WHAT IT READS IS OF BULK AT MOST 1048576: true; the input reads as it did. -/
def numDividesUptoRow : OpenClaim := { program := "ytlahomobecfghaa", sum := "7ac831f9b3e2f332168f4399f741e056bd5a3b7ec59194e8a280c48244a28ad4", func := "headland/headlandlaw01.NumDivides", spec := "numDivides", apart := false, narrowed := true }
def NumDividesUptoSaid : Prop := numDividesUptoRow.holds Try.pinned (OpenSpec.upto numDividesSpec)

/-- 'headlandlaw01.NumCommon', WHERE WHAT IT READS IS OF BULK AT MOST 1048576: true; the input reads as it did. -/
def numCommonUptoRow : OpenClaim := { program := "ytlahomobecfghaa", sum := "7ac831f9b3e2f332168f4399f741e056bd5a3b7ec59194e8a280c48244a28ad4", func := "headland/headlandlaw01.NumCommon", spec := "numCommon", unfollowed := true, recurses := true, apart := false, narrowed := true }
def NumCommonUptoSaid : Prop := numCommonUptoRow.holds Try.pinned (OpenSpec.upto numCommonSpec)

/-- 'headlandlaw01.NumFits', WHERE WHAT IT READS IS OF BULK AT MOST 1048576: true; the input reads as it did. -/
def numFitsUptoRow : OpenClaim := { program := "ytlahomobecfghaa", sum := "7ac831f9b3e2f332168f4399f741e056bd5a3b7ec59194e8a280c48244a28ad4", func := "headland/headlandlaw01.NumFits", spec := "numFits", apart := false, narrowed := true }
def NumFitsUptoSaid : Prop := numFitsUptoRow.holds Try.pinned (OpenSpec.upto numFitsSpec)

/-- 'headlandlaw01.NumDots', WHERE WHAT IT READS IS OF BULK AT MOST 1048576: true; the input reads as it did. -/
def numDotsUptoRow : OpenClaim := { program := "ytlahomobecfghaa", sum := "7ac831f9b3e2f332168f4399f741e056bd5a3b7ec59194e8a280c48244a28ad4", func := "headland/headlandlaw01.NumDots", spec := "numDots", apart := false, narrowed := true }
def NumDotsUptoSaid : Prop := numDotsUptoRow.holds Try.pinned (OpenSpec.upto numDotsSpec)

/-- 'headlandlaw01.NumSplits', WHERE WHAT IT READS IS OF BULK AT MOST 1048576: true; the input reads as it did. -/
def numSplitsUptoRow : OpenClaim := { program := "ytlahomobecfghaa", sum := "7ac831f9b3e2f332168f4399f741e056bd5a3b7ec59194e8a280c48244a28ad4", func := "headland/headlandlaw01.NumSplits", spec := "numSplits", apart := false, narrowed := true }
def NumSplitsUptoSaid : Prop := numSplitsUptoRow.holds Try.pinned (OpenSpec.upto numSplitsSpec)

/-- 'headlandlaw01.NumDivision', WHERE WHAT IT READS IS OF BULK AT MOST 1048576: true; the input reads as it did. -/
def numDivisionUptoRow : OpenClaim := { program := "ytlahomobecfghaa", sum := "7ac831f9b3e2f332168f4399f741e056bd5a3b7ec59194e8a280c48244a28ad4", func := "headland/headlandlaw01.NumDivision", spec := "numDivision", apart := false, narrowed := true }
def NumDivisionUptoSaid : Prop := numDivisionUptoRow.holds Try.pinned (OpenSpec.upto numDivisionSpec)

/-- 'headlandlaw01.NumDivisors', WHERE WHAT IT READS IS OF BULK AT MOST 1048576: true; the input reads as it did. -/
def numDivisorsUptoRow : OpenClaim := { program := "ytlahomobecfghaa", sum := "7ac831f9b3e2f332168f4399f741e056bd5a3b7ec59194e8a280c48244a28ad4", func := "headland/headlandlaw01.NumDivisors", spec := "numDivisors", unfollowed := true, recurses := true, apart := false, narrowed := true }
def NumDivisorsUptoSaid : Prop := numDivisorsUptoRow.holds Try.pinned (OpenSpec.upto numDivisorsSpec)

/-- 'headlandlaw01.NumWraps', WHERE WHAT IT READS IS OF BULK AT MOST 1048576: true; the input reads as it did. -/
def numWrapsUptoRow : OpenClaim := { program := "ytlahomobecfghaa", sum := "7ac831f9b3e2f332168f4399f741e056bd5a3b7ec59194e8a280c48244a28ad4", func := "headland/headlandlaw01.NumWraps", spec := "numWraps", apart := false, narrowed := true }
def NumWrapsUptoSaid : Prop := numWrapsUptoRow.holds Try.pinned (OpenSpec.upto numWrapsSpec)

/-- 'headlandlaw01.NumSplit', WHERE WHAT IT READS IS OF BULK AT MOST 1048576: true; the input reads as it did. -/
def numSplitUptoRow : OpenClaim := { program := "ytlahomobecfghaa", sum := "7ac831f9b3e2f332168f4399f741e056bd5a3b7ec59194e8a280c48244a28ad4", func := "headland/headlandlaw01.NumSplit", spec := "numSplit", apart := false, narrowed := true }
def NumSplitUptoSaid : Prop := numSplitUptoRow.holds Try.pinned (OpenSpec.upto numSplitSpec)

/-- 'headlandlaw02.LinMakes', WHERE WHAT IT READS IS OF BULK AT MOST 1048576: true; the input reads as it did. -/
def linMakesUptoRow : OpenClaim := { program := "ytlahomobecfghaa", sum := "7ac831f9b3e2f332168f4399f741e056bd5a3b7ec59194e8a280c48244a28ad4", func := "headland/headlandlaw02.LinMakes", spec := "linMakes", unfollowed := true, recurses := true, apart := false, narrowed := true }
def LinMakesUptoSaid : Prop := linMakesUptoRow.holds Try.pinned (OpenSpec.upto linMakesSpec)

/-- 'headlandlaw02.LinAdds', WHERE WHAT IT READS IS OF BULK AT MOST 1048576: true; the input reads as it did. -/
def linAddsUptoRow : OpenClaim := { program := "ytlahomobecfghaa", sum := "7ac831f9b3e2f332168f4399f741e056bd5a3b7ec59194e8a280c48244a28ad4", func := "headland/headlandlaw02.LinAdds", spec := "linAdds", unfollowed := true, recurses := true, apart := false, narrowed := true }
def LinAddsUptoSaid : Prop := linAddsUptoRow.holds Try.pinned (OpenSpec.upto linAddsSpec)

/-- 'headlandlaw02.LinAt', WHERE WHAT IT READS IS OF BULK AT MOST 1048576: true; the input reads as it did. -/
def linAtUptoRow : OpenClaim := { program := "ytlahomobecfghaa", sum := "7ac831f9b3e2f332168f4399f741e056bd5a3b7ec59194e8a280c48244a28ad4", func := "headland/headlandlaw02.LinAt", spec := "linAt", unfollowed := true, recurses := true, apart := false, narrowed := true }
def LinAtUptoSaid : Prop := linAtUptoRow.holds Try.pinned (OpenSpec.upto linAtSpec)

end Rows
end Go.Proofs.Ytlahomobecfghaa
