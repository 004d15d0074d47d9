/-
  No cell of these rows narrows 'for every input' (looked for: loops, veiled, ifaces, maps, wideKeys, modest, calm, conditions, laid).
  DERIVED. THE GIVEN ROWS OF THIS SEAT. 6 by the template 'for every input the law returns true; each argument reads behind the call as it read before'; 0 by the template 'total and deterministic' (their statements: YtkgnlloioaobiaaGreatTotals.lean).
  GIVEN WITH THE SEED: the statements are not yours to turn. If you find one false, say at which input.
  Laid BY PROGRAM, IN A SANDBOX (cutbox-rows.mjs): the forced cells as the released guide's own fill.sh prints them over the translation 568ce7e704152a24… (all of the seat's roots in one cut). By AI agents, Wed Nov 11 2026. No macro, syntax, notation, axiom, sorry.
-/
import Derived.Test.YtkgnlloioaobiaaGreatChecked
import GoSem.Claim
import GoSem.ClaimJoined
import GoSem.ClaimMapViews
import Derived.JoinedTies
import Derived.KernelRfl
namespace Go.Proofs.YtkgnlloioaobiaaGreat
/- THE CELL 'sum', in the pinned program and in every row, IS THE sha256 OF THE DUMP (.gsa) THAT YtkgnlloioaobiaaGreatProg.lean LOADS. Nothing in Lean hashes anything: it is a label: what it is worth is what the hold of that sum in a sandbox is worth. -/
noncomputable def Tryz.pinned : Pinned := { name := "ytkgnlloioaobiaagreat", sum := "568ce7e704152a24b02a94e72ffd06dfb00c18545540f7682d5061b46d014998", checked := Tryz.checked }
namespace Rows
def none {H : Type} : Left H := { results := [], args := [] }

/-- 'headlandlaw04.SetNormal': WHATEVER THE INPUT: true; the input reads as it did. -/
def setNormalSpec : ChangeSpec := { name := "setNormal", fn := fun _ => fun
  | [d] => { results := [.lit (.bool true)], args := [d] }
  | _ => none }
def setNormalRow : OpenClaim := { program := "ytkgnlloioaobiaagreat", sum := "568ce7e704152a24b02a94e72ffd06dfb00c18545540f7682d5061b46d014998", func := "headland/headlandlaw04.SetNormal", spec := "setNormal", unfollowed := true, recurses := true, apart := false }
def SetNormalSaid : Prop := setNormalRow.holds Tryz.pinned (OpenSpec.ofChange setNormalSpec)

/-- ITS FALSE NEIGHBOUR: 'it returns false'. Refute it at one input. -/
def setNormalWrong : ChangeSpec := { name := "setNormal", fn := fun _ => fun
  | [d] => { results := [.lit (.bool false)], args := [d] }
  | _ => none }
def SetNormalWrongFalsely : Prop := setNormalRow.holds Tryz.pinned (OpenSpec.ofChange setNormalWrong)

/-- 'headlandlaw04.SetJoins': WHATEVER THE INPUT: true; the input reads as it did. -/
def setJoinsSpec : ChangeSpec := { name := "setJoins", fn := fun _ => fun
  | [d1, d2] => { results := [.lit (.bool true)], args := [d1, d2] }
  | _ => none }
def setJoinsRow : OpenClaim := { program := "ytkgnlloioaobiaagreat", sum := "568ce7e704152a24b02a94e72ffd06dfb00c18545540f7682d5061b46d014998", func := "headland/headlandlaw04.SetJoins", spec := "setJoins", unfollowed := true, recurses := true, apart := false }
def SetJoinsSaid : Prop := setJoinsRow.holds Tryz.pinned (OpenSpec.ofChange setJoinsSpec)

/-- ITS FALSE NEIGHBOUR: 'it returns false'. Refute it at one input. -/
def setJoinsWrong : ChangeSpec := { name := "setJoins", fn := fun _ => fun
  | [d1, d2] => { results := [.lit (.bool false)], args := [d1, d2] }
  | _ => none }
def SetJoinsWrongFalsely : Prop := setJoinsRow.holds Tryz.pinned (OpenSpec.ofChange setJoinsWrong)

/-- 'headlandlaw04.SetMinus': WHATEVER THE INPUT: true; the input reads as it did. -/
def setMinusSpec : ChangeSpec := { name := "setMinus", fn := fun _ => fun
  | [d1, d2] => { results := [.lit (.bool true)], args := [d1, d2] }
  | _ => none }
def setMinusRow : OpenClaim := { program := "ytkgnlloioaobiaagreat", sum := "568ce7e704152a24b02a94e72ffd06dfb00c18545540f7682d5061b46d014998", func := "headland/headlandlaw04.SetMinus", spec := "setMinus", unfollowed := true, recurses := true, apart := false }
def SetMinusSaid : Prop := setMinusRow.holds Tryz.pinned (OpenSpec.ofChange setMinusSpec)

/-- ITS FALSE NEIGHBOUR: 'it returns false'. Refute it at one input. -/
def setMinusWrong : ChangeSpec := { name := "setMinus", fn := fun _ => fun
  | [d1, d2] => { results := [.lit (.bool false)], args := [d1, d2] }
  | _ => none }
def SetMinusWrongFalsely : Prop := setMinusRow.holds Tryz.pinned (OpenSpec.ofChange setMinusWrong)

/-- 'headlandlaw04.SetWhere': WHATEVER THE INPUT: true; the input reads as it did. -/
def setWhereSpec : ChangeSpec := { name := "setWhere", fn := fun _ => fun
  | [d1, d2, d3, d4] => { results := [.lit (.bool true)], args := [d1, d2, d3, d4] }
  | _ => none }
def setWhereRow : OpenClaim := { program := "ytkgnlloioaobiaagreat", sum := "568ce7e704152a24b02a94e72ffd06dfb00c18545540f7682d5061b46d014998", func := "headland/headlandlaw04.SetWhere", spec := "setWhere", unfollowed := true, recurses := true, apart := false }
def SetWhereSaid : Prop := setWhereRow.holds Tryz.pinned (OpenSpec.ofChange setWhereSpec)

/-- ITS FALSE NEIGHBOUR: 'it returns false'. Refute it at one input. -/
def setWhereWrong : ChangeSpec := { name := "setWhere", fn := fun _ => fun
  | [d1, d2, d3, d4] => { results := [.lit (.bool false)], args := [d1, d2, d3, d4] }
  | _ => none }
def SetWhereWrongFalsely : Prop := setWhereRow.holds Tryz.pinned (OpenSpec.ofChange setWhereWrong)

/-- 'headlandlaw04.SetPoints': WHATEVER THE INPUT: true; the input reads as it did. -/
def setPointsSpec : ChangeSpec := { name := "setPoints", fn := fun _ => fun
  | [d1, d2, d3, d4, d5] => { results := [.lit (.bool true)], args := [d1, d2, d3, d4, d5] }
  | _ => none }
def setPointsRow : OpenClaim := { program := "ytkgnlloioaobiaagreat", sum := "568ce7e704152a24b02a94e72ffd06dfb00c18545540f7682d5061b46d014998", func := "headland/headlandlaw04.SetPoints", spec := "setPoints", unfollowed := true, recurses := true, apart := false }
def SetPointsSaid : Prop := setPointsRow.holds Tryz.pinned (OpenSpec.ofChange setPointsSpec)

/-- ITS FALSE NEIGHBOUR: 'it returns false'. Refute it at one input. -/
def setPointsWrong : ChangeSpec := { name := "setPoints", fn := fun _ => fun
  | [d1, d2, d3, d4, d5] => { results := [.lit (.bool false)], args := [d1, d2, d3, d4, d5] }
  | _ => none }
def SetPointsWrongFalsely : Prop := setPointsRow.holds Tryz.pinned (OpenSpec.ofChange setPointsWrong)

/-- 'headlandlaw04.SetOwn': WHATEVER THE INPUT: true; the input reads as it did. -/
def setOwnSpec : ChangeSpec := { name := "setOwn", fn := fun _ => fun
  | [d1, d2, d3, d4, d5] => { results := [.lit (.bool true)], args := [d1, d2, d3, d4, d5] }
  | _ => none }
def setOwnRow : OpenClaim := { program := "ytkgnlloioaobiaagreat", sum := "568ce7e704152a24b02a94e72ffd06dfb00c18545540f7682d5061b46d014998", func := "headland/headlandlaw04.SetOwn", spec := "setOwn", unfollowed := true, recurses := true, apart := false }
def SetOwnSaid : Prop := setOwnRow.holds Tryz.pinned (OpenSpec.ofChange setOwnSpec)

/-- ITS FALSE NEIGHBOUR: 'it returns false'. Refute it at one input. -/
def setOwnWrong : ChangeSpec := { name := "setOwn", fn := fun _ => fun
  | [d1, d2, d3, d4, d5] => { results := [.lit (.bool false)], args := [d1, d2, d3, d4, d5] }
  | _ => none }
def SetOwnWrongFalsely : Prop := setOwnRow.holds Tryz.pinned (OpenSpec.ofChange setOwnWrong)

/- THE SECOND FORM. 'bulk': how many values and letters a reading holds, each counted each time it is reached (what is shared counts as often as it is met; a slice's spare places count too). A statement '..UptoSaid' is the law's where the arguments, and the package variables that the reading takes, are together of bulk at most 1048576: NARROWER than '..Said'. Prove '..Said' where nothing that the law and all that it calls make is longer than what came in: it says more and counts as full. Else prove '..UptoSaid'. A law counts once. -/
mutual
def uptoBulk {H : Type} : DataW H → Nat
  | .lit (.string bytes) => bytes.length + 1
  | .lit _ => 1
  | .nil => 1
  | .ptr d => uptoBulk d + 1
  | .slice elems spare => uptoBulkAll elems + uptoBulkAll spare + 1
  | .agg parts => uptoBulkAll parts + 1
  | .iface _ d => uptoBulk d + 1
  | .map entries => uptoBulkEntries entries + 1
  | .held _ => 1
def uptoBulkAll {H : Type} : List (DataW H) → Nat
  | [] => 0
  | d :: r => uptoBulk d + uptoBulkAll r
def uptoBulkEntries {H : Type} : List (Lit × DataW H) → Nat
  | [] => 0
  | x :: r => uptoBulkEntry x + uptoBulkEntries r
def uptoBulkEntry {H : Type} : Lit × DataW H → Nat
  | (.string bytes, d) => bytes.length + uptoBulk d + 1
  | (_, d) => uptoBulk d + 1
 end
def uptoSmall : (H : Type) → List (DataW H) → Bool := fun _ ds => decide (uptoBulkAll ds ≤ 1048576)
def OpenSpec.upto (s : _root_.Go.ChangeSpec) : _root_.Go.OpenSpec := { _root_.Go.OpenSpec.ofChange s with cond := some uptoSmall }

/-- 'headlandlaw04.SetNormal', WHERE WHAT IT READS IS OF BULK AT MOST 1048576: true; the input reads as it did. -/
def setNormalUptoRow : OpenClaim := { program := "ytkgnlloioaobiaagreat", sum := "568ce7e704152a24b02a94e72ffd06dfb00c18545540f7682d5061b46d014998", func := "headland/headlandlaw04.SetNormal", spec := "setNormal", unfollowed := true, recurses := true, apart := false, narrowed := true }
def SetNormalUptoSaid : Prop := setNormalUptoRow.holds Tryz.pinned (OpenSpec.upto setNormalSpec)

/-- 'headlandlaw04.SetJoins', WHERE WHAT IT READS IS OF BULK AT MOST 1048576: true; the input reads as it did. -/
def setJoinsUptoRow : OpenClaim := { program := "ytkgnlloioaobiaagreat", sum := "568ce7e704152a24b02a94e72ffd06dfb00c18545540f7682d5061b46d014998", func := "headland/headlandlaw04.SetJoins", spec := "setJoins", unfollowed := true, recurses := true, apart := false, narrowed := true }
def SetJoinsUptoSaid : Prop := setJoinsUptoRow.holds Tryz.pinned (OpenSpec.upto setJoinsSpec)

/-- 'headlandlaw04.SetMinus', WHERE WHAT IT READS IS OF BULK AT MOST 1048576: true; the input reads as it did. -/
def setMinusUptoRow : OpenClaim := { program := "ytkgnlloioaobiaagreat", sum := "568ce7e704152a24b02a94e72ffd06dfb00c18545540f7682d5061b46d014998", func := "headland/headlandlaw04.SetMinus", spec := "setMinus", unfollowed := true, recurses := true, apart := false, narrowed := true }
def SetMinusUptoSaid : Prop := setMinusUptoRow.holds Tryz.pinned (OpenSpec.upto setMinusSpec)

/-- 'headlandlaw04.SetWhere', WHERE WHAT IT READS IS OF BULK AT MOST 1048576: true; the input reads as it did. -/
def setWhereUptoRow : OpenClaim := { program := "ytkgnlloioaobiaagreat", sum := "568ce7e704152a24b02a94e72ffd06dfb00c18545540f7682d5061b46d014998", func := "headland/headlandlaw04.SetWhere", spec := "setWhere", unfollowed := true, recurses := true, apart := false, narrowed := true }
def SetWhereUptoSaid : Prop := setWhereUptoRow.holds Tryz.pinned (OpenSpec.upto setWhereSpec)

/-- 'headlandlaw04.SetPoints', WHERE WHAT IT READS IS OF BULK AT MOST 1048576: true; the input reads as it did. -/
def setPointsUptoRow : OpenClaim := { program := "ytkgnlloioaobiaagreat", sum := "568ce7e704152a24b02a94e72ffd06dfb00c18545540f7682d5061b46d014998", func := "headland/headlandlaw04.SetPoints", spec := "setPoints", unfollowed := true, recurses := true, apart := false, narrowed := true }
def SetPointsUptoSaid : Prop := setPointsUptoRow.holds Tryz.pinned (OpenSpec.upto setPointsSpec)

/-- 'headlandlaw04.SetOwn', WHERE WHAT IT READS IS OF BULK AT MOST 1048576: true; the input reads as it did. -/
def setOwnUptoRow : OpenClaim := { program := "ytkgnlloioaobiaagreat", sum := "568ce7e704152a24b02a94e72ffd06dfb00c18545540f7682d5061b46d014998", func := "headland/headlandlaw04.SetOwn", spec := "setOwn", unfollowed := true, recurses := true, apart := false, narrowed := true }
def SetOwnUptoSaid : Prop := setOwnUptoRow.holds Tryz.pinned (OpenSpec.upto setOwnSpec)

end Rows
end Go.Proofs.YtkgnlloioaobiaaGreat
