/-
  Arguments that are expressions, with what their lists' capacities are.
-/
import Derived.Test.YtbjkijifpikhkaaKit
import Derived.Test.YtbjkijifpikhkaaLinKit
import Derived.Lib.SmallJoins
namespace Go.Proofs.Ytbjkijifpikhkaa
open Go.ChangeShapes Go.WideShapes Go.ChangeAt Go.RowKit Go.Joins
set_option linter.unusedVariables false

/-- What the capacity of a given list is. -/
def CapOf (A : Option Addr) (n c : Nat) : Prop := (A = none → n = 0 ∧ c = 0) ∧ n ≤ c ∧ c ≤ 17592186044416

theorem ints_coreC {H : Type} {enc : TypeId × Value → H} {P : Program} {w : World} {t e : TypeId} {v : Value} {y : DataW H × List MemPlace} {fuel : Nat}
    (ht : P.underlying t = some (.slice e)) (he : P.underlying e = some (.int .i64)) (hc : P.cellsOf e = 1) (hbytes : P.bytesOf e = 8)
    (hlt : ∀ x ∈ y.2, x.block < w.heap.size) (hsz : (y.1.weights P t).all (· ≤ reachBytes) = true)
    (hf : DataW.trod enc P w 0 (fun _ => true) true fuel t [v] = some y) : ∃ A n c xs, v = .slice A n c ∧ Ints w w.heap.size A n xs ∧ CapOf A n c := by
  rcases open_ints ht he hc hf with ⟨hcs, hx⟩ | ⟨a, len', cap', zs, hcs, _, hl, hm, hz, hx, hcell, hwz⟩
  · simp only [List.cons.injEq, and_true] at hcs
    exact ⟨none, 0, 0, [], hcs, ⟨rfl, by omega, fun x hx => by simp at hx, fun h => absurd h (by omega)⟩, fun _ => ⟨rfl, rfl⟩, Nat.le_refl _, by omega⟩
  · simp only [List.cons.injEq, and_true] at hcs
    subst hx
    simp only [if_true] at hz
    have hreach : (zs.length) * 8 ≤ reachBytes := by
      have := List.all_eq_true.1 hsz
      simp only [DataW.weights, ht] at this
      have h0 := this _ List.mem_cons_self
      rw [hbytes] at h0
      simp only [lits, List.length_map, List.length_take, List.length_drop, decide_eq_true_eq] at h0
      have : min len' zs.length + (zs.length - len') = zs.length := by omega
      rw [this] at h0
      exact h0
    have hn : len' ≤ 17592186044416 := by unfold reachBytes at hreach; omega
    refine ⟨some a, len', cap', zs.take len', hcs, ⟨by rw [List.length_take]; omega, hn, fun x hx => bounds_i64 (hwz x (List.mem_of_mem_take hx)), fun h0 => ?_⟩, ⟨fun h => (by cases h), hl, by unfold reachBytes at hreach; omega⟩⟩
    obtain ⟨b, off, spot⟩ := a
    have hspot : spot = none := by simpa [Addr.add] using World.cell?_spot (hcell 0 (by omega))
    subst hspot
    refine ⟨b, off, rfl, hlt (.cell b off) (MemPlace.mem_row.2 ⟨0, by omega, by simp⟩), fun j hj => ?_⟩
    rw [← add_plain, hcell j (by omega)]
    congr 2
    simp [List.getD, hj]

theorem lin_ofC {H : Type} {enc : TypeId × Value → H} {w : World} {r : Reach} {b0 : Nat} {v : Value} {d : DataW H} {p : List MemPlace}
    (hok : Value.okWide Try.prog w r b0 24 v) (hlt : ∀ x ∈ p, x.block < w.heap.size) (hsz : (d.weights Try.prog 24).all (· ≤ reachBytes) = true)
    (h : DataW.Trod enc Try.prog w 0 (fun _ => true) true 24 v d p) : ∃ A n c K xs, v = .agg #[.slice A n c, .int .i64 K] ∧ IntsAt w A n xs ∧ CapOf A n c ∧ -9223372036854775808 ≤ K ∧ K ≤ 9223372036854775807 := by
  obtain ⟨v0, v1, y0, y1, n, rfl, rfl, rfl, h0, h1⟩ := open_agg2 Try.underlying24 (by kernel_rfl) (by kernel_rfl) hok h
  simp only [DataW.weights, Try.underlying24, DataW.weightsEach, List.map_cons, List.all_append, Bool.and_eq_true] at hsz
  obtain ⟨A, m, c, xs, rfl, hI, hC⟩ := ints_coreC Try.underlying22 Try.underlying3 (by kernel_rfl) (by kernel_rfl) (fun x hx => hlt x (List.mem_append_left _ hx)) hsz.1 h0
  obtain ⟨K, hv, hK⟩ := DataW.trod_int Try.underlying3 h1
  simp only [List.cons.injEq, and_true] at hv
  subst hv
  exact ⟨A, m, c, K, xs, rfl, hI, hC, bounds_i64 hK.2⟩

/-- The same, and where the list lies, if it is not nil. -/
def CapAt (N : Nat) (A : Option Addr) (n c : Nat) : Prop := CapOf A n c ∧ ∀ ad, A = some ad → ad.spot = none ∧ ad.block < N
theorem CapAt.mono {N N' : Nat} {A : Option Addr} {n c : Nat} (h : CapAt N A n c) (hN : N ≤ N') : CapAt N' A n c := ⟨h.1, fun ad e => ⟨(h.2 ad e).1, Nat.lt_of_lt_of_le (h.2 ad e).2 hN⟩⟩

theorem lin_ofD {H : Type} {enc : TypeId × Value → H} {w : World} {r : Reach} {b0 : Nat} {v : Value} {d : DataW H} {p : List MemPlace}
    (hok : Value.okWide Try.prog w r b0 24 v) (hlt : ∀ x ∈ p, x.block < w.heap.size) (hsz : (d.weights Try.prog 24).all (· ≤ reachBytes) = true)
    (h : DataW.Trod enc Try.prog w 0 (fun _ => true) true 24 v d p) : ∃ A n c K xs, v = .agg #[.slice A n c, .int .i64 K] ∧ IntsAt w A n xs ∧ CapAt w.heap.size A n c ∧ -9223372036854775808 ≤ K ∧ K ≤ 9223372036854775807 := by
  obtain ⟨A, n, c, K, xs, rfl, hI, hC, hK⟩ := lin_ofC hok hlt hsz h
  refine ⟨A, n, c, K, xs, rfl, hI, ⟨hC, fun ad e => ?_⟩, hK⟩
  subst e
  have hok2 : ∃ cs, Value.agg #[.slice (some ad) n c, .int .i64 K] = .agg cs ∧ cs.size = Try.prog.cellsOf 24 ∧ Row.okWide Try.prog w r b0 24 cs := by
    have h2 := hok
    unfold Value.okWide at h2
    rw [Try.underlying24] at h2
    exact h2
  obtain ⟨cs, e, _, ts, hts, _, hall⟩ := hok2
  cases e
  have ht : Try.prog.cellTypes Try.prog.depth 24 = some [22, 3] := by kernel_rfl
  rw [ht] at hts
  cases hts
  obtain ⟨u, hu, hc⟩ := hall 0 _ rfl
  cases hu
  unfold Cell.okWide at hc
  rw [Try.underlying22] at hc
  have hc : Cell.ok Try.prog w r b0 22 (.slice (some ad) n c) := hc
  unfold Cell.ok at hc
  rw [Try.underlying22] at hc
  obtain ⟨_, _, _, hs, row, cells, hsh, _⟩ := hc
  refine ⟨hs, ?_⟩
  rcases Nat.lt_or_ge ad.block w.heap.size with hlt' | hge
  · exact hlt'
  · exfalso
    unfold World.shape? at hsh
    rw [Array.getElem?_eq_none hge] at hsh
    cases hsh

theorem ints_ofD {H : Type} {enc : TypeId × Value → H} {w : World} {r : Reach} {b0 : Nat} {v : Value} {d : DataW H} {p : List MemPlace}
    (hok : Value.okWide Try.prog w r b0 22 v) (hlt : ∀ x ∈ p, x.block < w.heap.size) (hsz : (d.weights Try.prog 22).all (· ≤ reachBytes) = true)
    (h : DataW.Trod enc Try.prog w 0 (fun _ => true) true 22 v d p) : ∃ A n c xs, v = .slice A n c ∧ IntsAt w A n xs ∧ CapAt w.heap.size A n c := by
  obtain ⟨a0, len0, cap0, rfl⟩ := okWide_slice Try.underlying22 hok
  obtain ⟨fuel, hf⟩ := h
  obtain ⟨A, n, c, xs, e0, hI, hC⟩ := ints_coreC (y := (d, p)) (v := .slice a0 len0 cap0) Try.underlying22 Try.underlying3 (by kernel_rfl) (by kernel_rfl) hlt hsz hf
  refine ⟨A, n, c, xs, e0, hI, hC, fun ad e => ?_⟩
  subst e
  rw [e0] at hok
  unfold Value.okWide at hok
  rw [Try.underlying22] at hok
  have hok : Cell.okWide Try.prog w r b0 22 (.slice (some ad) n c) := hok
  unfold Cell.okWide at hok
  rw [Try.underlying22] at hok
  have hok : Cell.ok Try.prog w r b0 22 (.slice (some ad) n c) := hok
  unfold Cell.ok at hok
  rw [Try.underlying22] at hok
  obtain ⟨_, _, _, hs, row, cells, hsh, _⟩ := hok
  refine ⟨hs, ?_⟩
  rcases Nat.lt_or_ge ad.block w.heap.size with hlt' | hge
  · exact hlt'
  · exfalso
    unfold World.shape? at hsh
    rw [Array.getElem?_eq_none hge] at hsh
    cases hsh
end Go.Proofs.Ytbjkijifpikhkaa
