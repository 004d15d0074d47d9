/-
  No cell of these rows narrows 'for every input' (looked for: loops, veiled, ifaces, maps, wideKeys, modest, calm, conditions, laid).
  DERIVED. THE GIVEN ROWS OF THIS SEAT. 7 by the template 'for every input the law returns true; each argument reads behind the call as it read before'; 0 by the template 'total and deterministic' (their statements: YtkgnlloioaobiaaTotals.lean).
  GIVEN WITH THE SEED: the statements are not yours to turn. If you find one false, say at which input.
  Laid BY PROGRAM, IN A SANDBOX (cutbox-rows.mjs): the forced cells as the released guide's own fill.sh prints them over the translation 158ce29f0eb5e3a6… (all of the seat's roots in one cut). By AI agents, Wed Nov 11 2026. No macro, syntax, notation, axiom, sorry.
-/
import Derived.Test.YtkgnlloioaobiaaChecked
import GoSem.Claim
import GoSem.ClaimJoined
import GoSem.ClaimMapViews
import Derived.JoinedTies
import Derived.KernelRfl
namespace Go.Proofs.Ytkgnlloioaobiaa
/- THE CELL 'sum', in the pinned program and in every row, IS THE sha256 OF THE DUMP (.gsa) THAT YtkgnlloioaobiaaProg.lean LOADS. Nothing in Lean hashes anything: it is a label: what it is worth is what the hold of that sum in a sandbox is worth. -/
noncomputable def Try.pinned : Pinned := { name := "ytkgnlloioaobiaa", sum := "158ce29f0eb5e3a64a80f1fc539fee4eac96bea5f6c23e1913eb62433b70a8d9", checked := Try.checked }
namespace Rows
def none {H : Type} : Left H := { results := [], args := [] }

/-- 'headlandlaw04.SetMakes': WHATEVER THE INPUT: true; the input reads as it did. -/
def setMakesSpec : ChangeSpec := { name := "setMakes", fn := fun _ => fun
  | [d1, d2] => { results := [.lit (.bool true)], args := [d1, d2] }
  | _ => none }
def setMakesRow : OpenClaim := { program := "ytkgnlloioaobiaa", sum := "158ce29f0eb5e3a64a80f1fc539fee4eac96bea5f6c23e1913eb62433b70a8d9", func := "headland/headlandlaw04.SetMakes", spec := "setMakes", unfollowed := true, recurses := true, apart := false }
def SetMakesSaid : Prop := setMakesRow.holds Try.pinned (OpenSpec.ofChange setMakesSpec)

/-- ITS FALSE NEIGHBOUR: 'it returns false'. Refute it at one input. -/
def setMakesWrong : ChangeSpec := { name := "setMakes", fn := fun _ => fun
  | [d1, d2] => { results := [.lit (.bool false)], args := [d1, d2] }
  | _ => none }
def SetMakesWrongFalsely : Prop := setMakesRow.holds Try.pinned (OpenSpec.ofChange setMakesWrong)

/-- 'headlandlaw04.SetHas': WHATEVER THE INPUT: true; the input reads as it did. -/
def setHasSpec : ChangeSpec := { name := "setHas", fn := fun _ => fun
  | [d1, d2] => { results := [.lit (.bool true)], args := [d1, d2] }
  | _ => none }
def setHasRow : OpenClaim := { program := "ytkgnlloioaobiaa", sum := "158ce29f0eb5e3a64a80f1fc539fee4eac96bea5f6c23e1913eb62433b70a8d9", func := "headland/headlandlaw04.SetHas", spec := "setHas", unfollowed := true, recurses := true, apart := false }
def SetHasSaid : Prop := setHasRow.holds Try.pinned (OpenSpec.ofChange setHasSpec)

/-- ITS FALSE NEIGHBOUR: 'it returns false'. Refute it at one input. -/
def setHasWrong : ChangeSpec := { name := "setHas", fn := fun _ => fun
  | [d1, d2] => { results := [.lit (.bool false)], args := [d1, d2] }
  | _ => none }
def SetHasWrongFalsely : Prop := setHasRow.holds Try.pinned (OpenSpec.ofChange setHasWrong)

/-- 'headlandlaw04.SetTurns': WHATEVER THE INPUT: true; the input reads as it did. -/
def setTurnsSpec : ChangeSpec := { name := "setTurns", fn := fun _ => fun
  | [d1, d2, d3, d4] => { results := [.lit (.bool true)], args := [d1, d2, d3, d4] }
  | _ => none }
def setTurnsRow : OpenClaim := { program := "ytkgnlloioaobiaa", sum := "158ce29f0eb5e3a64a80f1fc539fee4eac96bea5f6c23e1913eb62433b70a8d9", func := "headland/headlandlaw04.SetTurns", spec := "setTurns", unfollowed := true, recurses := true, apart := false }
def SetTurnsSaid : Prop := setTurnsRow.holds Try.pinned (OpenSpec.ofChange setTurnsSpec)

/-- ITS FALSE NEIGHBOUR: 'it returns false'. Refute it at one input. -/
def setTurnsWrong : ChangeSpec := { name := "setTurns", fn := fun _ => fun
  | [d1, d2, d3, d4] => { results := [.lit (.bool false)], args := [d1, d2, d3, d4] }
  | _ => none }
def SetTurnsWrongFalsely : Prop := setTurnsRow.holds Try.pinned (OpenSpec.ofChange setTurnsWrong)

/-- 'headlandlaw04.SetSimple': WHATEVER THE INPUT: true; the input reads as it did. -/
def setSimpleSpec : ChangeSpec := { name := "setSimple", fn := fun _ => fun
  | [d1, d2] => { results := [.lit (.bool true)], args := [d1, d2] }
  | _ => none }
def setSimpleRow : OpenClaim := { program := "ytkgnlloioaobiaa", sum := "158ce29f0eb5e3a64a80f1fc539fee4eac96bea5f6c23e1913eb62433b70a8d9", func := "headland/headlandlaw04.SetSimple", spec := "setSimple", unfollowed := true, recurses := true, apart := false }
def SetSimpleSaid : Prop := setSimpleRow.holds Try.pinned (OpenSpec.ofChange setSimpleSpec)

/-- ITS FALSE NEIGHBOUR: 'it returns false'. Refute it at one input. -/
def setSimpleWrong : ChangeSpec := { name := "setSimple", fn := fun _ => fun
  | [d1, d2] => { results := [.lit (.bool false)], args := [d1, d2] }
  | _ => none }
def SetSimpleWrongFalsely : Prop := setSimpleRow.holds Try.pinned (OpenSpec.ofChange setSimpleWrong)

/-- 'headlandlaw04.SetApart': WHATEVER THE INPUT: true; the input reads as it did. -/
def setApartSpec : ChangeSpec := { name := "setApart", fn := fun _ => fun
  | [d1, d2] => { results := [.lit (.bool true)], args := [d1, d2] }
  | _ => none }
def setApartRow : OpenClaim := { program := "ytkgnlloioaobiaa", sum := "158ce29f0eb5e3a64a80f1fc539fee4eac96bea5f6c23e1913eb62433b70a8d9", func := "headland/headlandlaw04.SetApart", spec := "setApart", unfollowed := true, recurses := true, apart := false }
def SetApartSaid : Prop := setApartRow.holds Try.pinned (OpenSpec.ofChange setApartSpec)

/-- ITS FALSE NEIGHBOUR: 'it returns false'. Refute it at one input. -/
def setApartWrong : ChangeSpec := { name := "setApart", fn := fun _ => fun
  | [d1, d2] => { results := [.lit (.bool false)], args := [d1, d2] }
  | _ => none }
def SetApartWrongFalsely : Prop := setApartRow.holds Try.pinned (OpenSpec.ofChange setApartWrong)

/-- 'headlandlaw04.SetStays': WHATEVER THE INPUT: true; the input reads as it did. -/
def setStaysSpec : ChangeSpec := { name := "setStays", fn := fun _ => fun
  | [d1, d2, d3, d4] => { results := [.lit (.bool true)], args := [d1, d2, d3, d4] }
  | _ => none }
def setStaysRow : OpenClaim := { program := "ytkgnlloioaobiaa", sum := "158ce29f0eb5e3a64a80f1fc539fee4eac96bea5f6c23e1913eb62433b70a8d9", func := "headland/headlandlaw04.SetStays", spec := "setStays", unfollowed := true, recurses := true, apart := false }
def SetStaysSaid : Prop := setStaysRow.holds Try.pinned (OpenSpec.ofChange setStaysSpec)

/-- ITS FALSE NEIGHBOUR: 'it returns false'. Refute it at one input. -/
def setStaysWrong : ChangeSpec := { name := "setStays", fn := fun _ => fun
  | [d1, d2, d3, d4] => { results := [.lit (.bool false)], args := [d1, d2, d3, d4] }
  | _ => none }
def SetStaysWrongFalsely : Prop := setStaysRow.holds Try.pinned (OpenSpec.ofChange setStaysWrong)

/-- 'headlandlaw04.SetHolds': WHATEVER THE INPUT: true; the input reads as it did. -/
def setHoldsSpec : ChangeSpec := { name := "setHolds", fn := fun _ => fun
  | [d1, d2] => { results := [.lit (.bool true)], args := [d1, d2] }
  | _ => none }
def setHoldsRow : OpenClaim := { program := "ytkgnlloioaobiaa", sum := "158ce29f0eb5e3a64a80f1fc539fee4eac96bea5f6c23e1913eb62433b70a8d9", func := "headland/headlandlaw04.SetHolds", spec := "setHolds", unfollowed := true, recurses := true, apart := false }
def SetHoldsSaid : Prop := setHoldsRow.holds Try.pinned (OpenSpec.ofChange setHoldsSpec)

/-- ITS FALSE NEIGHBOUR: 'it returns false'. Refute it at one input. -/
def setHoldsWrong : ChangeSpec := { name := "setHolds", fn := fun _ => fun
  | [d1, d2] => { results := [.lit (.bool false)], args := [d1, d2] }
  | _ => none }
def SetHoldsWrongFalsely : Prop := setHoldsRow.holds Try.pinned (OpenSpec.ofChange setHoldsWrong)

/- THE SECOND FORM. 'bulk': how many values and letters a reading holds, each counted each time it is reached (what is shared counts as often as it is met; a slice's spare places count too). A statement '..UptoSaid' is the law's where the arguments, and the package variables that the reading takes, are together of bulk at most 1048576: NARROWER than '..Said'. Prove '..Said' where nothing that the law and all that it calls make is longer than what came in: it says more and counts as full. Else prove '..UptoSaid'. A law counts once. -/
mutual
def uptoBulk {H : Type} : DataW H → Nat
  | .lit (.string bytes) => bytes.length + 1
  | .lit _ => 1
  | .nil => 1
  | .ptr d => uptoBulk d + 1
  | .slice elems spare => uptoBulkAll elems + uptoBulkAll spare + 1
  | .agg parts => uptoBulkAll parts + 1
  | .iface _ d => uptoBulk d + 1
  | .map entries => uptoBulkEntries entries + 1
  | .held _ => 1
def uptoBulkAll {H : Type} : List (DataW H) → Nat
  | [] => 0
  | d :: r => uptoBulk d + uptoBulkAll r
def uptoBulkEntries {H : Type} : List (Lit × DataW H) → Nat
  | [] => 0
  | x :: r => uptoBulkEntry x + uptoBulkEntries r
def uptoBulkEntry {H : Type} : Lit × DataW H → Nat
  | (.string bytes, d) => bytes.length + uptoBulk d + 1
  | (_, d) => uptoBulk d + 1
 end
def uptoSmall : (H : Type) → List (DataW H) → Bool := fun _ ds => decide (uptoBulkAll ds ≤ 1048576)
def OpenSpec.upto (s : _root_.Go.ChangeSpec) : _root_.Go.OpenSpec := { _root_.Go.OpenSpec.ofChange s with cond := some uptoSmall }

/-- 'headlandlaw04.SetMakes', WHERE WHAT IT READS IS OF BULK AT MOST 1048576: true; the input reads as it did. -/
def setMakesUptoRow : OpenClaim := { program := "ytkgnlloioaobiaa", sum := "158ce29f0eb5e3a64a80f1fc539fee4eac96bea5f6c23e1913eb62433b70a8d9", func := "headland/headlandlaw04.SetMakes", spec := "setMakes", unfollowed := true, recurses := true, apart := false, narrowed := true }
def SetMakesUptoSaid : Prop := setMakesUptoRow.holds Try.pinned (OpenSpec.upto setMakesSpec)

/-- 'headlandlaw04.SetHas', WHERE WHAT IT READS IS OF BULK AT MOST 1048576: true; the input reads as it did. -/
def setHasUptoRow : OpenClaim := { program := "ytkgnlloioaobiaa", sum := "158ce29f0eb5e3a64a80f1fc539fee4eac96bea5f6c23e1913eb62433b70a8d9", func := "headland/headlandlaw04.SetHas", spec := "setHas", unfollowed := true, recurses := true, apart := false, narrowed := true }
def SetHasUptoSaid : Prop := setHasUptoRow.holds Try.pinned (OpenSpec.upto setHasSpec)

/-- 'headlandlaw04.SetTurns', WHERE WHAT IT READS IS OF BULK AT MOST 1048576: true; the input reads as it did. -/
def setTurnsUptoRow : OpenClaim := { program := "ytkgnlloioaobiaa", sum := "158ce29f0eb5e3a64a80f1fc539fee4eac96bea5f6c23e1913eb62433b70a8d9", func := "headland/headlandlaw04.SetTurns", spec := "setTurns", unfollowed := true, recurses := true, apart := false, narrowed := true }
def SetTurnsUptoSaid : Prop := setTurnsUptoRow.holds Try.pinned (OpenSpec.upto setTurnsSpec)

/-- 'headlandlaw04.SetSimple', WHERE WHAT IT READS IS OF BULK AT MOST 1048576: true; the input reads as it did. -/
def setSimpleUptoRow : OpenClaim := { program := "ytkgnlloioaobiaa", sum := "158ce29f0eb5e3a64a80f1fc539fee4eac96bea5f6c23e1913eb62433b70a8d9", func := "headland/headlandlaw04.SetSimple", spec := "setSimple", unfollowed := true, recurses := true, apart := false, narrowed := true }
def SetSimpleUptoSaid : Prop := setSimpleUptoRow.holds Try.pinned (OpenSpec.upto setSimpleSpec)

/-- 'headlandlaw04.SetApart', WHERE WHAT IT READS IS OF BULK AT MOST 1048576: true; the input reads as it did. -/
def setApartUptoRow : OpenClaim := { program := "ytkgnlloioaobiaa", sum := "158ce29f0eb5e3a64a80f1fc539fee4eac96bea5f6c23e1913eb62433b70a8d9", func := "headland/headlandlaw04.SetApart", spec := "setApart", unfollowed := true, recurses := true, apart := false, narrowed := true }
def SetApartUptoSaid : Prop := setApartUptoRow.holds Try.pinned (OpenSpec.upto setApartSpec)

/-- 'headlandlaw04.SetStays', WHERE WHAT IT READS IS OF BULK AT MOST 1048576: true; the input reads as it did. -/
def setStaysUptoRow : OpenClaim := { program := "ytkgnlloioaobiaa", sum := "158ce29f0eb5e3a64a80f1fc539fee4eac96bea5f6c23e1913eb62433b70a8d9", func := "headland/headlandlaw04.SetStays", spec := "setStays", unfollowed := true, recurses := true, apart := false, narrowed := true }
def SetStaysUptoSaid : Prop := setStaysUptoRow.holds Try.pinned (OpenSpec.upto setStaysSpec)

/-- 'headlandlaw04.SetHolds', WHERE WHAT IT READS IS OF BULK AT MOST 1048576: true; the input reads as it did. -/
def setHoldsUptoRow : OpenClaim := { program := "ytkgnlloioaobiaa", sum := "158ce29f0eb5e3a64a80f1fc539fee4eac96bea5f6c23e1913eb62433b70a8d9", func := "headland/headlandlaw04.SetHolds", spec := "setHolds", unfollowed := true, recurses := true, apart := false, narrowed := true }
def SetHoldsUptoSaid : Prop := setHoldsUptoRow.holds Try.pinned (OpenSpec.upto setHoldsSpec)

end Rows
end Go.Proofs.Ytkgnlloioaobiaa
