/-
  Arguments that are expressions.
-/
import Derived.Test.YtdcapokamdmneabKit
import Derived.Test.YtdcapokamdmneabLinKit
import Derived.Lib.SmallJoins
namespace Go.Proofs.Ytdcapokamdmneab
open Go.ChangeShapes Go.WideShapes Go.ChangeAt Go.RowKit Go.Joins
set_option linter.unusedVariables false

theorem ints_core {H : Type} {enc : TypeId × Value → H} {P : Program} {w : World} {t e : TypeId} {v : Value} {y : DataW H × List MemPlace} {fuel : Nat}
    (ht : P.underlying t = some (.slice e)) (he : P.underlying e = some (.int .i64)) (hc : P.cellsOf e = 1) (hbytes : P.bytesOf e = 8)
    (hlt : ∀ x ∈ y.2, x.block < w.heap.size) (hsz : (y.1.weights P t).all (· ≤ reachBytes) = true)
    (hf : DataW.trod enc P w 0 (fun _ => true) true fuel t [v] = some y) : ∃ A n c xs, v = .slice A n c ∧ Ints w w.heap.size A n xs := by
  rcases open_ints ht he hc hf with ⟨hcs, hx⟩ | ⟨a, len', cap', zs, hcs, _, hl, hm, hz, hx, hcell, hwz⟩
  · simp only [List.cons.injEq, and_true] at hcs
    exact ⟨none, 0, 0, [], hcs, ⟨rfl, by omega, fun x hx => by simp at hx, fun h => absurd h (by omega)⟩⟩
  · simp only [List.cons.injEq, and_true] at hcs
    subst hx
    simp only [if_true] at hz
    have hreach : (zs.length) * 8 ≤ reachBytes := by
      have := List.all_eq_true.1 hsz
      simp only [DataW.weights, ht] at this
      have h0 := this _ List.mem_cons_self
      rw [hbytes] at h0
      simp only [lits, List.length_map, List.length_take, List.length_drop, decide_eq_true_eq] at h0
      have : min len' zs.length + (zs.length - len') = zs.length := by omega
      rw [this] at h0
      exact h0
    have hn : len' ≤ 17592186044416 := by unfold reachBytes at hreach; omega
    refine ⟨some a, len', cap', zs.take len', hcs, ⟨by rw [List.length_take]; omega, hn, fun x hx => bounds_i64 (hwz x (List.mem_of_mem_take hx)), fun h0 => ?_⟩⟩
    obtain ⟨b, off, spot⟩ := a
    have hspot : spot = none := by simpa [Addr.add] using World.cell?_spot (hcell 0 (by omega))
    subst hspot
    refine ⟨b, off, rfl, hlt (.cell b off) (MemPlace.mem_row.2 ⟨0, by omega, by simp⟩), fun j hj => ?_⟩
    rw [← add_plain, hcell j (by omega)]
    congr 2
    simp [List.getD, hj]

theorem lin_of {H : Type} {enc : TypeId × Value → H} {w : World} {r : Reach} {b0 : Nat} {v : Value} {d : DataW H} {p : List MemPlace}
    (hok : Value.okWide Try.prog w r b0 24 v) (hlt : ∀ x ∈ p, x.block < w.heap.size) (hsz : (d.weights Try.prog 24).all (· ≤ reachBytes) = true)
    (h : DataW.Trod enc Try.prog w 0 (fun _ => true) true 24 v d p) : ∃ A n c K xs, v = .agg #[.slice A n c, .int .i64 K] ∧ IntsAt w A n xs ∧ -9223372036854775808 ≤ K ∧ K ≤ 9223372036854775807 := by
  obtain ⟨v0, v1, y0, y1, n, rfl, rfl, rfl, h0, h1⟩ := open_agg2 Try.underlying24 (by kernel_rfl) (by kernel_rfl) hok h
  simp only [DataW.weights, Try.underlying24, DataW.weightsEach, List.map_cons, List.all_append, Bool.and_eq_true] at hsz
  obtain ⟨A, m, c, xs, rfl, hI⟩ := ints_core Try.underlying22 Try.underlying3 (by kernel_rfl) (by kernel_rfl) (fun x hx => hlt x (List.mem_append_left _ hx)) hsz.1 h0
  obtain ⟨K, hv, hK⟩ := DataW.trod_int Try.underlying3 h1
  simp only [List.cons.injEq, and_true] at hv
  subst hv
  exact ⟨A, m, c, K, xs, rfl, hI, bounds_i64 hK.2⟩
end Go.Proofs.Ytdcapokamdmneab
