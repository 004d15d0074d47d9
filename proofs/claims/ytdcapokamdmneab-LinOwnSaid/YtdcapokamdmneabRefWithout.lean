/-
  the reference's Without.
-/
import Derived.Test.YtdcapokamdmneabProg
import Derived.Test.YtdcapokamdmneabLinKit
import Derived.Test.YtdcapokamdmneabLinClone
import Derived.Test.YtdcapokamdmneabLinMake
import Derived.Test.YtdcapokamdmneabLinSum
import Derived.Test.YtdcapokamdmneabLinPut
import Derived.Test.YtdcapokamdmneabRegInv
import Derived.Test.YtdcapokamdmneabAppendInts
namespace Go.Proofs.Ytdcapokamdmneab
open Go.RowKit
set_option linter.unusedVariables false
set_option linter.unusedSimpArgs false

def cutTo (xs : List Int) (i j : Nat) : List Int := (xs.take j).eraseIdx i
def cutLen (i j : Nat) : Nat := if i < j then j - 1 else j
theorem cut_same {xs : List Int} {i : Nat} (hi : i < xs.length) : cutTo xs i (i + 1) = cutTo xs i i := by
  unfold cutTo
  have hl : (xs.take i).length = i := by rw [List.length_take]; omega
  rw [List.take_succ_eq_append_getElem hi, List.eraseIdx_append_of_length_le (by omega), List.eraseIdx_of_length_le (l := xs.take i) (by omega), hl]
  simp
theorem cut_more {xs : List Int} {i j : Nat} (hj : j < xs.length) (hne : j ≠ i) : cutTo xs i (j + 1) = cutTo xs i j ++ [xs[j]?.getD 0] := by
  unfold cutTo
  rw [List.take_succ_eq_append_getElem hj]
  have e : xs[j]?.getD 0 = xs[j] := by simp [hj]
  rw [e]
  rcases Nat.lt_or_ge i j with h | h
  · rw [List.eraseIdx_append_of_lt_length (by rw [List.length_take]; omega)]
  · have hl : (xs.take j).length = j := by rw [List.length_take]; omega
    rw [List.eraseIdx_append_of_length_le (by omega), List.eraseIdx_of_length_le (l := xs.take j) (by omega), List.eraseIdx_of_length_le (l := [xs[j]]) (by simp; omega)]

theorem grown_set (w : World) (a : Addr) (u : Value) : w.grownBy (w.setCell a u) (some a.block) :=
  ⟨rfl, rfl, rfl, by simp [World.setCell], fun k hk hne => Below.heap_setCell w a u k (fun e => hne (by rw [e]))⟩
theorem LBox.set0 {w : World} {b : Nat} {A : Option Addr} {n c : Nat} {K : Int} (h : LBox w b A n c K) (A' : Option Addr) (n' c' : Nat) : LBox (w.setCell ⟨b, 0, none⟩ (.slice A' n' c')) b A' n' c' K := by
  unfold LBox at h ⊢
  simp only [World.setCell]
  rw [Array.getElem?_modify, if_pos rfl, h]
  rfl

theorem own_fresh {w : World} {B n : Nat} {t : TypeId} {A : Option Addr} {m c : Nat} {xs : List Value} (h : w.ownsRow B t 1 (.slice A m c) n xs) : n = 0 ∨ ∃ g, A = some ⟨g, 0, none⟩ ∧ B ≤ g := by
  rcases h.2 with ⟨_, h0⟩ | ⟨g, cap, cur, e, hb, _⟩
  · exact .inl h0
  · simp only [Value.slice.injEq] at e
    exact .inr ⟨g, e.1, hb⟩
theorem ints_keep2 {w : World} {b n : Nat} {xs : List Int} {A : Option Addr} (h : IntsAt w A n xs) (hf : n = 0 ∨ ∃ g, A = some ⟨g, 0, none⟩ ∧ b ≠ g) (u v : Value) : IntsAt ((w.setCell ⟨b, 0, none⟩ u).setCell ⟨b, 1, none⟩ v) A n xs := by
  rcases hf with h0 | ⟨g, rfl, hne⟩
  · exact ⟨h.len, h.small, h.wf, fun hn => absurd hn (by omega)⟩
  · exact ints_store2 h rfl hne u v

set_option maxHeartbeats 2000000 in
theorem ref_without (b off n c : Nat) (K : Int) (xs : List Int) (i : Nat) (w : World) (hI : IntsAt w (some ⟨b, off, none⟩) n xs) (hn : n ≤ 12) (hi : i < n) :
    Calls Try.prog 33 #[.agg #[.slice (some ⟨b, off, none⟩) n c, .int .i64 K], .int .i64 i] w fun e w' => ∃ A c', e = .returned (.agg #[.slice A (n - 1) c', .int .i64 K]) ∧ IntsAt w' A (n - 1) (xs.eraseIdx i) ∧ Below w.heap.size w w' ∧ (n - 1 = 0 ∨ ∃ g, A = some ⟨g, 0, none⟩ ∧ w.heap.size ≤ g) := by
  obtain ⟨w1, hw1⟩ : ∃ w1, w1 = ((w.alloc (.cells #[.slice (some ⟨b, off, none⟩) n c, .int .i64 K] 24)).alloc (.cells #[.slice none 0 0, .int .i64 0] 24)).alloc (.cells #[.slice none 0 0, .int .i64 K] 24) := ⟨_, rfl⟩
  have C1 : LBox w1 w.heap.size (some ⟨b, off, none⟩) n c K := by rw [hw1]; exact ((LBox.new w (some ⟨b, off, none⟩) n c K).alloc (.cells #[.slice none 0 0, .int .i64 0] 24)).alloc (.cells #[.slice none 0 0, .int .i64 K] 24)
  have C2 : LBox w1 (w.heap.size + 1) none 0 0 0 := by
    have h := (LBox.new (w.alloc (.cells #[.slice (some ⟨b, off, none⟩) n c, .int .i64 K] 24)) none 0 0 0).alloc (.cells #[.slice none 0 0, .int .i64 K] 24)
    rw [World.size_alloc] at h; rw [hw1]; exact h
  have C3 : LBox w1 (w.heap.size + 1 + 1) none 0 0 K := by
    have h := LBox.new ((w.alloc (.cells #[.slice (some ⟨b, off, none⟩) n c, .int .i64 K] 24)).alloc (.cells #[.slice none 0 0, .int .i64 0] 24)) none 0 0 K
    rw [World.size_alloc, World.size_alloc] at h; rw [hw1]; exact h
  have hB1 : Below w.heap.size w w1 := by
    rw [hw1]
    exact below_step (below_step (below_alloc w (.cells #[.slice (some ⟨b, off, none⟩) n c, .int .i64 K] 24)) (below_alloc _ (.cells #[.slice none 0 0, .int .i64 0] 24))) (below_alloc _ (.cells #[.slice none 0 0, .int .i64 K] 24))
  have s1 : w1.heap.size = w.heap.size + 3 := by rw [hw1]; simp only [World.size_alloc]
  have hlen := Lib.hid hI.len
  have hbl0 : b < w.heap.size := by
    obtain ⟨b', off', e', h0, _⟩ := hI.cells (by omega)
    simp only [Option.some.injEq, Addr.mk.injEq, and_true] at e'
    obtain ⟨rfl, rfl⟩ := e'
    exact h0
  have I1 := hI.step hB1
  clear hI
  go_enter Try.func33, Try.ntmps33
  go_wp2
  rw [← hw1]
  clear hw1
  go_loopw [14] (fun v wr => ∃ (j : Nat) (A0 : Option Addr) (c0 : Nat), j ≤ n ∧ v = .int .i64 j ∧ LBox wr (w.heap.size + 1 + 1) A0 (cutTo xs i j).length c0 K ∧ wr.ownsRow (w.heap.size + 3) 3 1 (.slice A0 (cutTo xs i j).length c0) (cutTo xs i j).length (vals (cutTo xs i j)) ∧ Below (w.heap.size + 1 + 1) w1 wr) (fun v _ => n - (intOf v).toNat)
  case atStart => exact ⟨0, none, 0, Nat.zero_le _, rfl, C3, World.ownsRow_nil _ _ _ _, Below.refl _ _⟩
  case round =>
    obtain ⟨j, A0, c0, hj, rfl, LB, hown, hbr⟩ := hrel
    have hsz := hbr.size
    have D1 := C1.below hbr (by omega)
    have D2 := C2.below hbr (by omega)
    by_cases hlt : j < n
    · have hcell : wr.cell? ⟨b, off + j, none⟩ = some (.int .i64 (xs[j]?.getD 0)) := by
        obtain ⟨b', off', e', _, hc⟩ := I1.cells (by omega)
        simp only [Option.some.injEq, Addr.mk.injEq, and_true] at e'
        obtain ⟨rfl, rfl⟩ := e'
        exact (hbr.cell (p := ⟨b, off + j, none⟩) (by show b < _; omega)).trans (hc j hlt)
      have hlt' : (j : Int) < n := by omega
      have hm : (cutTo xs i j).length ≤ 12 := by
        unfold cutTo
        rw [List.length_eraseIdx]
        have := hlen.out
        split <;> (rw [List.length_take]; omega)
      have hxj := I1.rng j
      by_cases he : j = i
      · subst he
        have HS := Lib.hid (cut_same (xs := xs) (i := j) (by rw [hlen.out]; exact hlt))
        generalize cutTo xs j j = z at *
        go_wp2
        go_roundw
        case rel => exact ⟨j + 1, A0, c0, by omega, by go_num, by rw [HS.out]; exact LB, by rw [HS.out]; exact hown, hbr⟩
        case measure => simp [intOf]; omega
      · have HS := Lib.hid (cut_more (xs := xs) (i := i) (j := j) (by rw [hlen.out]; exact hlt) he)
        have he1 : (j : Int) ≠ i := by omega
        generalize cutTo xs i j = z at *
        generalize hxx : xs[j]?.getD 0 = xj at *
        clear hxx
        have c00 := LB.c0
        have hsz1 : w.heap.size + 1 + 1 < wr.heap.size := by omega
        have hrw : IntsAt (wr.alloc (.cells #[.int .i64 xj] 3)) (some ⟨wr.heap.size, 0, none⟩) 1 [xj] := (Row.new wr [xj]).ints rfl (by omega) (fun x hx => by rw [List.mem_singleton.1 hx]; exact hxj)
        go_wp2_with (at_builtin; refine wpList_append_ints rfl _ _ rfl (w.heap.size + 3) _ _ _ rfl (hown.alloc _) _ _ _ _ rfl hrw (by omega) (by simp; omega) ?_; intro A1 c1 w2 hown2 hgr; have LB2 := (show LBox w2 (w.heap.size + 1 + 1) A0 z.length c0 K from (hgr.block (w.heap.size + 1 + 1) (by simp; omega) (fun e => by have := (hown.lt _ e.symm).1; omega)).trans (LB.alloc _)); have d0 := LB2.c0; have d1 := LB2.f 0)
        have hw2 := ((hbr.alloc (by omega) (.cells #[.int .i64 xj] 3)).grown hgr (by simp; omega) (fun k e => by have := (hown.lt k e).1; omega)).setCell (p := ⟨w.heap.size + 1 + 1, 0, none⟩) (Nat.le_refl _) (.slice A1 (z.length + 1) c1)
        have hown3 := World.ownsRow.kept hown2 (grown_set w2 ⟨w.heap.size + 1 + 1, 0, none⟩ (.slice A1 (z.length + 1) c1)) (.inr fun e => by have h : w.heap.size + 3 ≤ w.heap.size + 1 + 1 := (hown2.lt _ e).1; omega)
        have hl : (z ++ [xj]).length = z.length + 1 := by simp
        go_roundw
        case rel => exact ⟨j + 1, A1, c1, by omega, by go_num, by rw [HS.out, hl]; exact LB2.set0 _ _ _, by rw [HS.out, hl, vals_app]; exact hown3, hw2⟩
        case measure => simp [intOf]; omega
    · obtain rfl : j = n := by omega
      have hz : cutTo xs i j = xs.eraseIdx i := by unfold cutTo; rw [List.take_of_length_le (by rw [hlen.out]; exact Nat.le_refl _)]
      have hzl : (cutTo xs i j).length = j - 1 := by rw [hz, List.length_eraseIdx, hlen.out, if_pos hi]
      rw [hzl] at LB hown
      rw [hz] at hown
      have hown' := World.ownsRow.kept (World.ownsRow.kept hown (grown_set wr ⟨w.heap.size + 1, 0, none⟩ (.slice A0 (j - 1) c0)) (.inr fun e => by have h : w.heap.size + 3 ≤ w.heap.size + 1 := (hown.lt _ e).1; omega)) (grown_set _ ⟨w.heap.size + 1, 1, none⟩ (.int .i64 K)) (.inr fun e => by have h : w.heap.size + 3 ≤ w.heap.size + 1 := (hown.lt _ e).1; omega)
      obtain ⟨A2, c2, e2, I2⟩ := own_ints hown' (by omega) (fun x hx => I1.wf x (List.mem_of_mem_eraseIdx hx))
      simp only [Value.slice.injEq, true_and] at e2
      obtain ⟨rfl, rfl⟩ := e2
      have hfr := own_fresh hown'
      have hge : ¬ ((j : Int) < j) := by omega
      have k0 := LB.c0
      have k1 := LB.c1
      have f0 := D2.f 0
      have f1 := D2.f 1
      have g0 := D2.c0
      have g1 := D2.c1
      have k2 := D2.s0 (.slice A0 (j - 1) c0)
      have k3 := (D2.store A0 (j - 1) c0 K).c1
      have hBr := hB1.trans (hbr.mono (Nat.le_trans (Nat.le_succ _) (Nat.le_succ _)))
      clear hown hown' hz hzl D1 C1 C2 C3
      go_wp2
      refine bodyPost_ret (v := .agg #[.slice A0 (j - 1) c0, .int .i64 K]) (by simp [results, Try.results33, go_sem, k2, k3]) rfl ?_
      exact ⟨A0, ⟨c0, rfl⟩, I2, below_store2 hBr (Nat.le_succ _) _ _, hfr.imp id fun ⟨g, e, hg⟩ => ⟨g, e, by omega⟩⟩
end Go.Proofs.Ytdcapokamdmneab
