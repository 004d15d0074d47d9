/-
  Arguments that are conditions.
-/
import Derived.Test.YtbjkijifpikhkaaKit
import Derived.Test.YtbjkijifpikhkaaLinKit
import Derived.Test.YtbjkijifpikhkaaLinArgsC
import Derived.Lib.SmallJoins
namespace Go.Proofs.Ytbjkijifpikhkaa
open Go.ChangeShapes Go.WideShapes Go.ChangeAt Go.RowKit Go.Joins Go.Deep
set_option linter.unusedVariables false

theorem cond_ofC {H : Type} {enc : TypeId × Value → H} {w : World} {r : Reach} {b0 : Nat} {v : Value} {d : DataW H} {p : List MemPlace}
    (hok : Value.okWide Try.prog w r b0 26 v) (hlt : ∀ x ∈ p, x.block < w.heap.size) (hsz : (d.weights Try.prog 26).all (· ≤ reachBytes) = true)
    (h : DataW.Trod enc Try.prog w 0 (fun _ => true) true 26 v d p) : ∃ q M A n c K xs, v = .agg #[.int .i64 q, .int .i64 M, .slice A n c, .int .i64 K] ∧ IntsAt w A n xs ∧ CapOf A n c ∧
      (-9223372036854775808 ≤ q ∧ q ≤ 9223372036854775807) ∧ (-9223372036854775808 ≤ M ∧ M ≤ 9223372036854775807) ∧ (-9223372036854775808 ≤ K ∧ K ≤ 9223372036854775807) := by
  obtain ⟨cs, rfl, hsz'⟩ := okWide_struct Try.underlying26 hok
  obtain ⟨c0, c1, c2, c3, rfl⟩ := array4 (hsz'.trans (show Try.prog.cellsOf 26 = 4 by kernel_rfl))
  obtain ⟨fuel, hf⟩ := h
  obtain ⟨y0, y1, y2, n, hx, _, h0, h1, h2⟩ := trod_struct3 Try.underlying26 hf
  simp only [Prod.mk.injEq] at hx
  obtain ⟨rfl, rfl⟩ := hx
  have k1 : Try.prog.cellsOf 3 = 1 := by kernel_rfl
  have k2 : Try.prog.cellsOf 24 = 2 := by kernel_rfl
  have k3 : Try.prog.cellsOf 22 = 1 := by kernel_rfl
  simp only [Value.cells, k1, k2, List.drop_zero, List.take_succ_cons, List.take_zero, List.drop_succ_cons] at h0 h1 h2
  simp only [DataW.weights, Try.underlying26, DataW.weightsEach, List.map_cons, List.all_append, Bool.and_eq_true] at hsz
  obtain ⟨q, hv0, hq⟩ := DataW.trod_int Try.underlying3 h0
  obtain ⟨M, hv1, hM⟩ := DataW.trod_int Try.underlying3 h1
  obtain ⟨z0, z1, m, hx2, _, g0, g1⟩ := trod_struct2 Try.underlying24 h2
  simp only [k1, k3, List.drop_zero, List.take_succ_cons, List.take_zero, List.drop_succ_cons] at g0 g1
  subst hx2
  have hsz2 := hsz.2.2.1
  simp only [DataW.weights, Try.underlying24, DataW.weightsEach, List.map_cons, List.all_append, Bool.and_eq_true] at hsz2
  obtain ⟨A, l, c, xs, rfl, hI, hC⟩ := ints_coreC Try.underlying22 Try.underlying3 (by kernel_rfl) (by kernel_rfl) (fun x hx => hlt x (List.mem_append_right _ (List.mem_append_right _ (List.mem_append_left _ hx)))) hsz2.1 g0
  obtain ⟨K, hv3, hK⟩ := DataW.trod_int Try.underlying3 g1
  simp only [List.cons.injEq, and_true] at hv0 hv1 hv3
  subst hv0 hv1 hv3
  exact ⟨q, M, A, l, c, K, xs, rfl, hI, hC, bounds_i64 hq.2, bounds_i64 hM.2, bounds_i64 hK.2⟩
end Go.Proofs.Ytbjkijifpikhkaa
