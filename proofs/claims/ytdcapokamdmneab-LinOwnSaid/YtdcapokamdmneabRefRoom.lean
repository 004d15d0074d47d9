/-
  the reference's Room and lin's: they answer the same.
-/
import Derived.Test.YtdcapokamdmneabProg
import Derived.Test.YtdcapokamdmneabLinKit
import Derived.Test.YtdcapokamdmneabLinTerms
import Derived.Test.YtdcapokamdmneabLinAt
import Derived.Test.YtdcapokamdmneabLinClone
import Derived.Test.YtdcapokamdmneabLinPut
import Derived.Test.YtdcapokamdmneabLinMake
import Derived.Test.YtdcapokamdmneabLinSum
import Derived.Test.YtdcapokamdmneabLinBase
import Derived.Test.YtdcapokamdmneabLinAwake
import Derived.Test.YtdcapokamdmneabLinArgsC
import Derived.Test.YtdcapokamdmneabLinCut
import Derived.Test.YtdcapokamdmneabLinRoom
import Derived.Test.YtdcapokamdmneabLinRoomErr
import Derived.Test.YtdcapokamdmneabLinRoomNil
import Derived.Test.YtdcapokamdmneabRefRoomErr
import Derived.Test.YtdcapokamdmneabRefWithout
import Derived.Test.YtdcapokamdmneabAppendZeros
import Derived.Deep.RegionLaw
import Derived.Deep.Cut
namespace Go.Proofs.Ytdcapokamdmneab
open Go.RowKit
set_option linter.unusedVariables false
set_option linter.unusedSimpArgs false

/-- The variable at block bo holds the integers zs, in memory of its own, and the constant. -/
def RoomAt (w1 W : World) (bo m : Nat) (K : Int) (zs : List Int) : Prop :=
  ∃ A0 c0, LBox W bo A0 m c0 K ∧ W.ownsRow (bo + 1) 3 1 (.slice A0 m c0) m (vals zs) ∧ Below bo w1 W ∧ bo < W.heap.size

theorem room_step {w1 W w2 : World} {bo m m' c0 c1 : Nat} {A0 A1 : Option Addr} {K : Int} {zs ys : List Int} (h : LBox W bo A0 m c0 K) (hown : W.ownsRow (bo + 1) 3 1 (.slice A0 m c0) m (vals zs)) (hb : Below bo w1 W) (hlt : bo < W.heap.size)
    (hown2 : w2.ownsRow (bo + 1) 3 1 (.slice A1 m' c1) m' (vals zs ++ vals ys)) (hgr : W.grownBy w2 (Value.slice A0 m c0).ownBlock) :
    LBox w2 bo A0 m c0 K ∧ RoomAt w1 (w2.setCell ⟨bo, 0, none⟩ (.slice A1 m' c1)) bo m' K (zs ++ ys) := by
  have L2 : LBox w2 bo A0 m c0 K := (hgr.block bo hlt (fun e => by have := (hown.lt _ e.symm).1; omega)).trans h
  refine ⟨L2, A1, c1, L2.set0 _ _ _, ?_, ?_, ?_⟩
  · rw [vals_app]
    exact World.ownsRow.kept hown2 (grown_set w2 ⟨bo, 0, none⟩ _) (.inr fun e => by have h : bo + 1 ≤ bo := (hown2.lt _ e).1; omega)
  · exact (hb.grown hgr (by omega) (fun k e => by have := (hown.lt k e).1; omega)).setCell (p := ⟨bo, 0, none⟩) (Nat.le_refl _) _
  · have := hgr.size
    simp only [World.setCell, Array.size_modify]
    omega

theorem sub_ints {w : World} {b off n d k : Nat} {xs : List Int} (h : IntsAt w (some ⟨b, off, none⟩) n xs) (hd : d + k ≤ n) : IntsAt w (some ⟨b, off + d, none⟩) k ((xs.drop d).take k) := by
  by_cases hk : k = 0
  · subst hk
    exact ⟨by simp, by omega, fun x hx => by simp at hx, fun h0 => absurd h0 (by omega)⟩
  · obtain ⟨b', off', e, hb, hc⟩ := h.cells (by omega)
    simp only [Option.some.injEq, Addr.mk.injEq, and_true] at e
    obtain ⟨rfl, rfl⟩ := e
    exact ints_sub h.len h.small h.wf hb hc hd

set_option maxHeartbeats 4000000 in
theorem ref_room_ok (b off n c : Nat) (K : Int) (xs : List Int) (i k : Nat) (w : World) (hI : IntsAt w (some ⟨b, off, none⟩) n xs) (hbl : 0 < n → b < w.heap.size) (hnc : n ≤ c) (hc63 : c ≤ 9223372036854775807)
    (hv : validB xs K = true) (hi : i ≤ n) (hk : n + k ≤ 12) :
    Calls Try.prog 12 #[.agg #[.slice (some ⟨b, off, none⟩) n c, .int .i64 K], .int .i64 i, .int .i64 k] w fun e w' => RetF w e w' (roomL xs i k) K 0 := by
  have hsm := hI.small
  have B1 := (LBox.new w (some ⟨b, off, none⟩) n c K).alloc (.cells #[.slice none 0 0, .int .i64 0] 24)
  have B2 := LBox.new (w.alloc (.cells #[.slice (some ⟨b, off, none⟩) n c, .int .i64 K] 24)) none 0 0 0
  have hB := below_step (below_alloc w (.cells #[.slice (some ⟨b, off, none⟩) n c, .int .i64 K] 24)) (below_alloc _ (.cells #[.slice none 0 0, .int .i64 0] 24))
  have h1 := hI.step hB
  rw [World.size_alloc] at B2
  have hi1 : (i : Int) ≤ n := by omega
  have hi2 : (i : Int) ≤ c := by omega
  have hk1 : (k : Int) ≤ 12 - (n : Int) := by omega
  have s6 : (n : Int) ≤ c := by omega
  clear hI
  go_enter Try.func12, Try.ntmps12
  go_wp2_with (go_at_call 32; refine (ref_valid _ _ _ _ xs _ h1).mono ?_; rintro e w1 ⟨rfl, hb⟩; replace h1 := h1.step hb; replace B1 := B1.step hb; replace B2 := B2.step hb; have c10 := B1.c0; have c11 := B1.c1; replace hB := below_step hB hb)
  have L3 := LBox.new w1 none 0 0 K
  have R0 : RoomAt w1 (w1.alloc (.cells #[.slice none 0 0, .int .i64 K] 24)) w1.heap.size 0 K [] := ⟨none, 0, L3, World.ownsRow_nil _ _ _ _, (Below.refl _ _).alloc (Nat.le_refl _) _, by simp⟩
  generalize hw2 : w1.alloc (.cells #[.slice none 0 0, .int .i64 K] 24) = w2 at *
  clear c10 c11 hb L3 hw2
  go_cut [] from 9 (fun W => RoomAt w1 W w1.heap.size i K (xs.take i))
  case first =>
    obtain ⟨A0, c0, LB0, hown0, hbw0, hlt0⟩ := R0
    have LB : LBox w2.drew w1.heap.size A0 0 c0 K := LB0
    have hown : w2.drew.ownsRow (w1.heap.size + 1) 3 1 (.slice A0 0 c0) 0 (vals []) := hown0
    have hbw := hbw0.drew
    have hlt : w1.heap.size < w2.drew.heap.size := hlt0
    have D1 := B1.below hbw B1.lt
    have c10 := D1.c0
    have c20 := LB.c0
    have J1 : IntsAt w2.drew (some ⟨b, off, none⟩) i (xs.take i) := by simpa using sub_ints (d := 0) (k := i) (h1.step hbw) (by omega)
    have hq1 : 0 + i ≤ 17592186044416 := by omega
    have hq2 : w1.heap.size + 1 ≤ w2.drew.heap.size := hlt
    clear LB0 hown0 hbw0 hlt0
    go_region_law (refine step_append_ints (A := some ⟨b, off, none⟩) (m := i) (c := c) (ys := xs.take i) (v := .slice A0 0 c0) (n := 0) (xs := vals []) (B := w1.heap.size + 1) rfl _ _ rfl ?a1 ?a2 ?a3 J1 hq1 hq2 ?_; (case a1 => rfl); (case a2 => exact hown); (case a3 => rfl); intro A1 c1 W2 hown2 hgr; obtain ⟨LB2, R1⟩ := room_step LB hown hbw hlt hown2 hgr; have d0 := LB2.c0; have d1 := LB2.f 0)
    all_goals
      go_wp2
      go_meet
      case rel => exact (by simpa using R1)
  case rest =>
    clear R0
    obtain ⟨A1, c1, LB, hown, hbw, hlt⟩ := hcut
    have c20 := LB.c0
    have hq1 : i + k ≤ 1000 := by omega
    go_wp2_with (at_builtin; refine wpList_append_zeros rfl _ _ rfl (w1.heap.size + 1) _ _ _ rfl hown k rfl hq1 hlt ?_; intro A2 c2 W2 hown2 hgr; obtain ⟨LB2, R1⟩ := room_step LB hown hbw hlt hown2 hgr; have d0 := LB2.c0; have d1 := LB2.f 0)
    generalize hw3 : W2.setCell ⟨w1.heap.size, 0, none⟩ (.slice A2 (i + k) c2) = w3 at *
    clear LB2 d0 d1 hw3 hgr hown2 W2 hown hbw hlt c20 LB
    go_cut [] from 9 (fun W => RoomAt w1 W w1.heap.size (i + k + (n - i)) K (xs.take i ++ zeros k ++ xs.drop i))
    case first =>
      obtain ⟨A3, c3, LB0, hown0, hbw0, hlt0⟩ := R1
      have LB : LBox w3.drew w1.heap.size A3 (i + k) c3 K := LB0
      have hown : w3.drew.ownsRow (w1.heap.size + 1) 3 1 (.slice A3 (i + k) c3) (i + k) (vals (xs.take i ++ zeros k)) := hown0
      have hbw := hbw0.drew
      have hlt : w1.heap.size < w3.drew.heap.size := hlt0
      have D1 := B1.below hbw B1.lt
      have c10 := D1.c0
      have c20 := LB.c0
      obtain ⟨q, hq⟩ : ∃ q, (if c = i then some (⟨b, off, none⟩ : Addr) else some ⟨b, off + i, none⟩) = q := ⟨_, rfl⟩
      have J1 : IntsAt w3.drew q (n - i) (xs.drop i) := by
        have h := sub_ints (d := i) (k := n - i) (h1.step hbw) (by omega)
        rw [List.take_of_length_le (by rw [List.length_drop, h1.len]; exact Nat.le_refl _)] at h
        rw [← hq]
        split
        · have h0 : n - i = 0 := by omega
          exact ⟨h.len, h.small, h.wf, fun hn => absurd hn (by omega)⟩
        · exact h
      have hq2 : i + k + (n - i) ≤ 17592186044416 := by omega
      have hq3 : w1.heap.size + 1 ≤ w3.drew.heap.size := hlt
      clear LB0 hown0 hbw0 hlt0
      go_region_law (refine step_append_ints (A := q) (m := n - i) (c := c - i) (ys := xs.drop i) (v := .slice A3 (i + k) c3) (n := i + k) (xs := vals (xs.take i ++ zeros k)) (B := w1.heap.size + 1) rfl _ _ rfl ?a1 ?a2 ?a3 J1 hq2 hq3 ?_; (case a1 => rfl); (case a2 => exact hown); (case a3 => rfl); intro A4 c4 W4 hown4 hgr; obtain ⟨LB4, R4⟩ := room_step LB hown hbw hlt hown4 hgr; have d0 := LB4.c0; have d1 := LB4.f 0)
      all_goals
        go_wp2
        go_meet
        case rel => exact R4
    case rest =>
      clear R1
      obtain ⟨A4, c4, LB, hown, hbw, hlt⟩ := hcut
      have hx : xs.take i ++ zeros k ++ xs.drop i = roomL xs i k := rfl
      have hm : i + k + (n - i) = n + k := by omega
      rw [hx, hm] at hown
      rw [hm] at LB
      have hfr := own_fresh hown
      obtain ⟨A5, c5, e5, I5⟩ := own_ints hown (by omega) (room_wf h1.wf)
      simp only [Value.slice.injEq, true_and] at e5
      obtain ⟨rfl, rfl⟩ := e5
      have D2 := B2.below hbw B2.lt
      have l2 := B2.lt
      have hEnd := below_step hB hbw
      have c20 := LB.c0
      have c21 := LB.c1
      have d20 := D2.c0
      have d21 := D2.c1
      have f20 := D2.f 0
      have f21 := D2.f 1
      have c50 := D2.s0 (.slice A4 (n + k) c4)
      have c51 := (D2.store A4 (n + k) c4 K).c1
      have hf6 : n + k = 0 ∨ ∃ g, A4 = some ⟨g, 0, none⟩ ∧ w.heap.size + 1 < g := hfr.imp id (fun ⟨g, h, h'⟩ => ⟨g, h, by omega⟩)
      clear hown hfr hx hm
      go_wp2
      refine bodyPost_ret (v := .tuple #[.agg #[.slice A4 (n + k) c4, .int .i64 K], .int .i64 0]) (by simp [results, Try.results12, go_sem, c50, c51]) rfl ?_
      exact ret_f rfl rfl (ints_keep2 I5 (hf6.imp id (fun ⟨g, h, h'⟩ => ⟨g, h, by omega⟩)) _ _) (below_store2 hEnd (by omega) _ _) (hf6.imp id (fun ⟨g, h, h'⟩ => ⟨g, h, by omega⟩))

set_option maxHeartbeats 4000000 in
theorem ref_room_nil (K : Int) (k : Nat) (w : World) (hv : validB [] K = true) (hk : k ≤ 12) :
    Calls Try.prog 12 #[.agg #[.slice none 0 0, .int .i64 K], .int .i64 0, .int .i64 k] w fun e w' => RetF w e w' (roomL [] 0 k) K 0 := by
  have hI : IntsAt w none 0 [] := ints_nil _ _
  have B1 := (LBox.new w none 0 0 K).alloc (.cells #[.slice none 0 0, .int .i64 0] 24)
  have B2 := LBox.new (w.alloc (.cells #[.slice none 0 0, .int .i64 K] 24)) none 0 0 0
  have hB := below_step (below_alloc w (.cells #[.slice none 0 0, .int .i64 K] 24)) (below_alloc _ (.cells #[.slice none 0 0, .int .i64 0] 24))
  have h1 := hI.step hB
  rw [World.size_alloc] at B2
  have hk1 : (k : Int) ≤ 12 := by omega
  clear hI
  go_enter Try.func12, Try.ntmps12
  go_wp2_with (go_at_call 32; refine (ref_valid _ _ _ _ [] _ h1).mono ?_; rintro e w1 ⟨rfl, hb⟩; replace h1 := h1.step hb; replace B1 := B1.step hb; replace B2 := B2.step hb; have c10 := B1.c0; have c11 := B1.c1; replace hB := below_step hB hb)
  have L3 := LBox.new w1 none 0 0 K
  have R0 : RoomAt w1 (w1.alloc (.cells #[.slice none 0 0, .int .i64 K] 24)) w1.heap.size 0 K [] := ⟨none, 0, L3, World.ownsRow_nil _ _ _ _, (Below.refl _ _).alloc (Nat.le_refl _) _, by simp⟩
  generalize hw2 : w1.alloc (.cells #[.slice none 0 0, .int .i64 K] 24) = w2 at *
  clear c10 c11 hb L3 hw2
  go_cut [] from 9 (fun W => RoomAt w1 W w1.heap.size 0 K [])
  case first =>
    obtain ⟨A0, c0, LB0, hown0, hbw0, hlt0⟩ := R0
    have LB : LBox w2.drew w1.heap.size A0 0 c0 K := LB0
    have hown : w2.drew.ownsRow (w1.heap.size + 1) 3 1 (.slice A0 0 c0) 0 (vals []) := hown0
    have hbw := hbw0.drew
    have hlt : w1.heap.size < w2.drew.heap.size := hlt0
    have D1 := B1.below hbw B1.lt
    have c10 := D1.c0
    have c20 := LB.c0
    have J1 : IntsAt w2.drew none 0 [] := ints_nil _ _
    have hq1 : 0 + 0 ≤ 17592186044416 := by omega
    have hq2 : w1.heap.size + 1 ≤ w2.drew.heap.size := hlt
    clear LB0 hown0 hbw0 hlt0
    go_region_law (refine step_append_ints (A := none) (m := 0) (c := 0) (ys := []) (v := .slice A0 0 c0) (n := 0) (xs := vals []) (B := w1.heap.size + 1) rfl _ _ rfl ?a1 ?a2 ?a3 J1 hq1 hq2 ?_; (case a1 => rfl); (case a2 => exact hown); (case a3 => rfl); intro A1 c1 W2 hown2 hgr; obtain ⟨LB2, R1⟩ := room_step LB hown hbw hlt hown2 hgr; have d0 := LB2.c0; have d1 := LB2.f 0)
    all_goals
      go_wp2
      go_meet
      case rel => exact (by simpa using R1)
  case rest =>
    clear R0
    obtain ⟨A1, c1, LB, hown, hbw, hlt⟩ := hcut
    have c20 := LB.c0
    have hq1 : 0 + k ≤ 1000 := by omega
    go_wp2_with (at_builtin; refine wpList_append_zeros rfl _ _ rfl (w1.heap.size + 1) _ _ _ rfl hown k rfl hq1 hlt ?_; intro A2 c2 W2 hown2 hgr; obtain ⟨LB2, R1⟩ := room_step LB hown hbw hlt hown2 hgr; have d0 := LB2.c0; have d1 := LB2.f 0)
    rw [List.nil_append] at R1
    try rw [Nat.zero_add] at R1
    generalize hw3 : W2.setCell ⟨w1.heap.size, 0, none⟩ (.slice A2 _ c2) = w3 at *
    clear LB2 d0 d1 hw3 hgr hown2 W2 hown hbw hlt c20 LB
    go_cut [] from 9 (fun W => RoomAt w1 W w1.heap.size k K (zeros k))
    case first =>
      obtain ⟨A3, c3, LB0, hown0, hbw0, hlt0⟩ := R1
      have LB : LBox w3.drew w1.heap.size A3 k c3 K := LB0
      have hown : w3.drew.ownsRow (w1.heap.size + 1) 3 1 (.slice A3 k c3) k (vals (zeros k)) := hown0
      have hbw := hbw0.drew
      have hlt : w1.heap.size < w3.drew.heap.size := hlt0
      have D1 := B1.below hbw B1.lt
      have c10 := D1.c0
      have c20 := LB.c0
      have J1 : IntsAt w3.drew none 0 [] := ints_nil _ _
      have hq2 : k + 0 ≤ 17592186044416 := by omega
      have hq3 : w1.heap.size + 1 ≤ w3.drew.heap.size := hlt
      clear LB0 hown0 hbw0 hlt0
      go_region_law (refine step_append_ints (A := none) (m := 0) (c := 0) (ys := []) (v := .slice A3 k c3) (n := k) (xs := vals (zeros k)) (B := w1.heap.size + 1) rfl _ _ rfl ?a1 ?a2 ?a3 J1 hq2 hq3 ?_; (case a1 => rfl); (case a2 => exact hown); (case a3 => rfl); intro A4 c4 W4 hown4 hgr; obtain ⟨LB4, R4⟩ := room_step LB hown hbw hlt hown4 hgr; have d0 := LB4.c0; have d1 := LB4.f 0)
      all_goals
        go_wp2
        go_meet
        case rel => exact (by simpa using R4)
    case rest =>
      clear R1
      obtain ⟨A4, c4, LB, hown, hbw, hlt⟩ := hcut
      have hx : roomL [] 0 k = zeros k := by simp [roomL]
      have hfr := own_fresh hown
      obtain ⟨A5, c5, e5, I5⟩ := own_ints hown (by omega) (zeros_wf k)
      simp only [Value.slice.injEq, true_and] at e5
      obtain ⟨rfl, rfl⟩ := e5
      have D2 := B2.below hbw B2.lt
      have l2 := B2.lt
      have hEnd := below_step hB hbw
      have c20 := LB.c0
      have c21 := LB.c1
      have d20 := D2.c0
      have d21 := D2.c1
      have f20 := D2.f 0
      have f21 := D2.f 1
      have c50 := D2.s0 (.slice A4 k c4)
      have c51 := (D2.store A4 k c4 K).c1
      have hf6 : k = 0 ∨ ∃ g, A4 = some ⟨g, 0, none⟩ ∧ w.heap.size + 1 < g := hfr.imp id (fun ⟨g, h, h'⟩ => ⟨g, h, by omega⟩)
      have HX := Lib.hid hx
      clear hown hfr hx
      go_wp2
      refine bodyPost_ret (v := .tuple #[.agg #[.slice A4 k c4, .int .i64 K], .int .i64 0]) (by simp [results, Try.results12, go_sem, c50, c51]) rfl ?_
      rw [HX.out]
      exact ret_f rfl rfl (ints_keep2 I5 (hf6.imp id (fun ⟨g, h, h'⟩ => ⟨g, h, by omega⟩)) _ _) (below_store2 hEnd (by omega) _ _) (hf6.imp id (fun ⟨g, h, h'⟩ => ⟨g, h, by omega⟩))

/-- What both answer. -/
theorem room_ans (K : Int) (xs : List Int) (i k : Int) : ∃ X M E, ∀ (A : Option Addr) (n c : Nat) (w : World), CapAt w.heap.size A n c → IntsAt w A n xs →
    (Calls Try.prog 11 #[.agg #[.slice A n c, .int .i64 K], .int .i64 i, .int .i64 k] w fun e w' => LinRet w e w' X M E) ∧
    (Calls Try.prog 12 #[.agg #[.slice A n c, .int .i64 K], .int .i64 i, .int .i64 k] w fun e w' => LinRet w e w' X M E) := by
  cases hv : validB xs K
  · exact ⟨[], 0, 1, fun A n c w _ hI => ⟨(lin_room_inv A n c K xs i k w hI hv).mono fun _ _ h => h.lin, (ref_room_inv A n c K xs i k w hI hv).mono fun _ _ h => h.lin⟩⟩
  · by_cases hi : 0 ≤ i ∧ i ≤ (xs.length : Int) ∧ 0 ≤ k
    · by_cases hk : k ≤ 12 - (xs.length : Int)
      · obtain ⟨j, rfl⟩ : ∃ j : Nat, i = j := ⟨i.toNat, by omega⟩
        obtain ⟨m, rfl⟩ : ∃ m : Nat, k = m := ⟨k.toNat, by omega⟩
        refine ⟨roomL xs j m, K, 0, fun A n c w hC hI => ?_⟩
        have hl := hI.len
        obtain ⟨⟨hnone, hnc, hcc⟩, hat⟩ := hC
        cases A with
        | none =>
          obtain ⟨rfl, rfl⟩ := hnone rfl
          have hx : xs = [] := List.eq_nil_of_length_eq_zero hl
          subst hx
          have hj : j = 0 := by simp at hi; omega
          subst hj
          exact ⟨(lin_room_nil K m w hv (by simp at hk; omega)).mono fun _ _ h => h.lin, (ref_room_nil K m w hv (by simp at hk; omega)).mono fun _ _ h => h.lin⟩
        | some ad =>
          obtain ⟨b, off, sp⟩ := ad
          obtain ⟨h1, h2⟩ := hat _ rfl
          have h1 : sp = none := h1
          have h2 : b < w.heap.size := h2
          subst h1
          have hc : ∀ j, j < n → w.cell? ⟨b, off + j, none⟩ = some (.int .i64 (xs[j]?.getD 0)) := fun j hj => by
            obtain ⟨b', off', e', _, hc⟩ := hI.cells (by omega)
            simp only [Option.some.injEq, Addr.mk.injEq, and_true] at e'
            obtain ⟨rfl, rfl⟩ := e'
            exact hc j hj
          exact ⟨(lin_room_ok b off n c K xs j m w hI h2 hc hnc (by omega) hv (by omega) (by omega)).mono fun _ _ h => h.lin, (ref_room_ok b off n c K xs j m w hI (fun _ => h2) hnc (by omega) hv (by omega) (by omega)).mono fun _ _ h => h.lin⟩
      · refine ⟨[], 0, 3, fun A n c w hC hI => ?_⟩
        have hl := hI.len
        exact ⟨(lin_room_full A n c K xs i k w hI hv hi.1 (by omega) hi.2.2 (by omega)).mono fun _ _ h => h.lin, (ref_room_full A n c K xs i k w hI hv hi.1 (by omega) hi.2.2 (by omega)).mono fun _ _ h => h.lin⟩
    · refine ⟨[], 0, 6, fun A n c w hC hI => ?_⟩
      have hl := hI.len
      exact ⟨(lin_room_rng A n c K xs i k w hI hv (by omega)).mono fun _ _ h => h.lin, (ref_room_rng A n c K xs i k w hI hv (by omega)).mono fun _ _ h => h.lin⟩
end Go.Proofs.Ytdcapokamdmneab
