/-
  x[:j] and x[j:] as operations.
-/
import Derived.Test.YtdcapokamdmneabProg
import Derived.Test.YtdcapokamdmneabLinKit
import Derived.Test.YtdcapokamdmneabLinArgsC
import Derived.Test.YtdcapokamdmneabLinCut
import Derived.Test.YtdcapokamdmneabRefRoom
namespace Go.Proofs.Ytdcapokamdmneab
open Go.RowKit
set_option linter.unusedVariables false
set_option linter.unusedSimpArgs false

theorem slice_low {N np cp j : Nat} {Ap : Option Addr} (hC : CapAt N Ap np cp) (hj : j ≤ np) {a : Act} {W : World} {o : Oper} {k l : Nat} (ho : o.op = .slice 22 (.tmp k) none (some (.tmp l)) none)
    (hx : a.tmps.getD k undef = .slice Ap np cp) (hy : a.tmps.getD l undef = .int .i64 j) : (execOp a.eval o).run Try.prog W = .ok (.value (.slice Ap j cp)) W := by
  obtain ⟨⟨hnone, hnc, hcc⟩, hat⟩ := hC
  have e1 := getd hx
  have e2 := getd hy
  obtain ⟨dst, op, ty, pos, after, guard⟩ := o
  simp only at ho
  subst ho
  have hj1 : (j : Int) ≤ np := by omega
  have hj2 : (j : Int) ≤ cp := by omega
  have hn1 : (np : Int) ≤ cp := by omega
  cases Ap with
  | none =>
    obtain ⟨rfl, rfl⟩ := hnone rfl
    obtain rfl : j = 0 := by omega
    clear hx hy
    go_simp
  | some ad =>
    obtain ⟨b, off, sp⟩ := ad
    have h1 : sp = none := (hat _ rfl).1
    subst h1
    clear hx hy
    go_simp

theorem slice_high {N np cp j : Nat} {Ap : Option Addr} {ps : List Int} (hC : CapAt N Ap np cp) (hj : j ≤ np) (hl : ps.length = np) :
    ∃ Aq, (∀ {a : Act} {W : World} {o : Oper} {k l : Nat}, o.op = .slice 22 (.tmp k) (some (.tmp l)) none none → a.tmps.getD k undef = .slice Ap np cp → a.tmps.getD l undef = .int .i64 j → (execOp a.eval o).run Try.prog W = .ok (.value (.slice Aq (np - j) (cp - j))) W) ∧
      ∀ {W : World}, IntsAt W Ap np ps → IntsAt W Aq (np - j) (ps.drop j) := by
  obtain ⟨⟨hnone, hnc, hcc⟩, hat⟩ := hC
  have hj1 : (j : Int) ≤ np := by omega
  have hj2 : (j : Int) ≤ cp := by omega
  have hn1 : (np : Int) ≤ cp := by omega
  cases Ap with
  | none =>
    obtain ⟨rfl, rfl⟩ := hnone rfl
    obtain rfl : j = 0 := by omega
    refine ⟨none, ?_, ?_⟩
    · intro a W o k l ho hx hy
      have e1 := getd hx
      have e2 := getd hy
      obtain ⟨dst, op, ty, pos, after, guard⟩ := o
      simp only at ho
      subst ho
      clear hx hy
      go_simp
    · intro W h
      simpa using h
  | some ad =>
    obtain ⟨b, off, sp⟩ := ad
    have h1 : sp = none := (hat _ rfl).1
    subst h1
    obtain ⟨q, hq⟩ : ∃ q, (if cp = j then some (⟨b, off, none⟩ : Addr) else some ⟨b, off + j, none⟩) = q := ⟨_, rfl⟩
    refine ⟨q, ?_, ?_⟩
    · intro a W o k l ho hx hy
      have e1 := getd hx
      have e2 := getd hy
      obtain ⟨dst, op, ty, pos, after, guard⟩ := o
      simp only at ho
      subst ho
      clear hx hy hat
      go_simp
    · intro W h
      have h2 := sub_ints (d := j) (k := np - j) h (by omega)
      rw [List.take_of_length_le (by rw [List.length_drop, hl]; exact Nat.le_refl _)] at h2
      rw [← hq]
      split
      · have h0 : np - j = 0 := by omega
        exact ⟨h2.len, h2.small, h2.wf, fun hn => absurd hn (by omega)⟩
      · exact h2
end Go.Proofs.Ytdcapokamdmneab
