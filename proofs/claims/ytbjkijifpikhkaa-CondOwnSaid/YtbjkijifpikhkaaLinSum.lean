/-
  Add and Sub of package lin.
-/
import Derived.Test.YtbjkijifpikhkaaProg
import Derived.Test.YtbjkijifpikhkaaLinKit
import Derived.Test.YtbjkijifpikhkaaLinTerms
import Derived.Test.YtbjkijifpikhkaaLinAt
import Derived.Test.YtbjkijifpikhkaaLinMix
import Derived.Test.YtbjkijifpikhkaaLinMake
import Derived.Test.YtbjkijifpikhkaaLinSumRef
import Derived.Deep.RegionHeld3
namespace Go.Proofs.Ytbjkijifpikhkaa
open Go.RowKit
set_option linter.unusedVariables false
set_option linter.unusedSimpArgs false

/-- A function's answer is an expression, in memory of its own, and an error. -/
def RetF (w : World) (e : Ending) (w' : World) (ys : List Int) (K err : Int) : Prop :=
  ∃ A n c, e = .returned (.tuple #[.agg #[.slice A n c, .int .i64 K], .int .i64 err]) ∧ IntsAt w' A n ys ∧ Below w.heap.size w w' ∧ (n = 0 ∨ ∃ g, A = some ⟨g, 0, none⟩ ∧ w.heap.size ≤ g)
theorem RetF.lin {w : World} {e : Ending} {w' : World} {ys : List Int} {K err : Int} (h : RetF w e w' ys K err) : LinRet w e w' ys K err := by
  obtain ⟨A, n, c, h1, h2, h3, _⟩ := h
  exact ⟨A, n, c, h1, h2, h3⟩
theorem RetO.f {w : World} {e : Ending} {w' : World} {ys : List Int} {K err : Int} (h : RetO w e w' ys K err) : RetF w e w' ys K err := by
  obtain ⟨A, n, c, h1, h2, h3, h4⟩ := h
  exact ⟨A, n, c, h1, h2, h3, h4.imp id fun ⟨g, a, b, _⟩ => ⟨g, a, b⟩⟩
theorem RetF.o_nil {w : World} {e : Ending} {w' : World} {K err : Int} (h : RetF w e w' [] K err) : RetO w e w' [] K err := h.lin.o_nil
theorem ret_f {A : Option Addr} {n c : Nat} {K err : Int} {w w' : World} {ys : List Int} {K' err' : Int} (h1 : err' = err) (h2 : K' = K) (hI : IntsAt w' A n ys) (hb : Below w.heap.size w w') (hf : n = 0 ∨ ∃ g, A = some ⟨g, 0, none⟩ ∧ w.heap.size ≤ g) :
    RetF w (.returned (.tuple #[.agg #[.slice A n c, .int .i64 K], .int .i64 err])) w' ys K' err' := by
  subst h1; subst h2; exact ⟨A, n, c, rfl, hI, hb, hf⟩
theorem ints_far {w : World} {A : Option Addr} {n : Nat} {xs : List Int} (h : IntsAt w A n xs) {b : Nat} (hf : n = 0 ∨ ∃ g, A = some ⟨g, 0, none⟩ ∧ b ≠ g) (u v : Value) : IntsAt ((w.setCell ⟨b, 0, none⟩ u).setCell ⟨b, 1, none⟩ v) A n xs := by
  rcases hf with rfl | ⟨g, rfl, hg⟩
  · exact ⟨h.len, h.small, h.wf, fun hn => absurd hn (by omega)⟩
  · exact ints_store2 h rfl hg u v

/-- What the operation on two numbers answers. -/
def comb (s x y : Int) : Int := 1 * x + s * y
theorem comb_bd {s x y : Int} (hs : s = 1 ∨ s = -1) (hx : -1048576 ≤ x ∧ x ≤ 1048576) (hy : -1048576 ≤ y ∧ y ≤ 1048576) : -9223372036854775808 ≤ comb s x y ∧ comb s x y ≤ 9223372036854775807 := by
  unfold comb; rcases hs with rfl | rfl <;> omega

end Go.Proofs.Ytbjkijifpikhkaa
