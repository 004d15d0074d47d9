/-
  cond.opposites.
-/
import Derived.Test.YtbjkijifpikhkaaCondShift
import Derived.Test.YtbjkijifpikhkaaCondList
import Derived.Test.YtbjkijifpikhkaaCondHolds
import Derived.Deep.RegionHeld3
import Derived.Deep.Cut
namespace Go.Proofs.Ytbjkijifpikhkaa
open Go.RowKit
set_option linter.unusedVariables false
set_option linter.unusedSimpArgs false

/-- The conditions of Negate before they are normalized. -/
def oppL (q M : Int) (n : Nat) (xs : List Int) (K : Int) : List CD :=
  if q = 0 then [⟨0, 0, mulL n (-1) xs, -1 * K + -1⟩]
  else if q = 1 then [⟨0, 0, mulL n 1 xs, 1 * K + -1⟩, ⟨0, 0, mulL n (-1) xs, -1 * K + -1⟩]
  else (List.range (M.toNat - 1)).map fun (r : Nat) => ⟨2, M, mulL n 1 xs, 1 * K + -((r : Int) + 1)⟩

theorem conds_lit {w : World} {g : Nat} {els : List CEl} (hg : w.heap[g]? = some (.cells (ccells els).toArray 26 (0, 0))) (hs : els.length ≤ 100000) (hi : ∀ e ∈ els, IntsAt w e.A e.n e.xs) : CondsAt w (some ⟨g, 0, none⟩) els.length els := by
  refine ⟨rfl, by omega, fun _ => ⟨g, 0, rfl, (Array.getElem?_eq_some_iff.1 hg).1, fun j e he => ?_⟩, hi⟩
  obtain ⟨a0, a1, a2, a3⟩ := ccells_at els j e he
  rw [Nat.zero_add]
  refine ⟨?_, ?_, ?_, ?_⟩
  · rw [cell_of_row w g (j * 4) _ _ (0, 0) hg]; simpa using a0
  · rw [cell_of_row w g (j * 4 + 1) _ _ (0, 0) hg]; simpa using a1
  · rw [cell_of_row w g (j * 4 + 2) _ _ (0, 0) hg]; simpa using a2
  · rw [cell_of_row w g (j * 4 + 3) _ _ (0, 0) hg]; simpa using a3

/-- The answer is a list of conditions. -/
def CondsRet (w : World) (e : Ending) (w' : World) (n : Nat) (ds : List CD) : Prop :=
  ∃ A c els, e = .returned (.slice A els.length c) ∧ CondsAt w' A els.length els ∧ els.map CEl.d = ds ∧ (∀ e ∈ els, e.n = n) ∧ Below w.heap.size w w'

section
variable (q M : Int) (A : Option Addr) (n c : Nat) (K : Int) (xs : List Int) (hK : -1048576 ≤ K ∧ K ≤ 1048576) (hx : Tame xs) (w : World) (hI : IntsAt w A n xs)
include hK hx hI


set_option maxHeartbeats 4000000 in
theorem opp_ge : Calls Try.prog 32 #[condV 0 M A n c K] w fun e w' => CondsRet w e w' n (oppL 0 M n xs K) := by
  have hB := below_alloc w (.cells #[.int .i64 0, .int .i64 M, .slice A n c, .int .i64 K] 26); have h1 := hI.step hB; have B1 := CBox.new w 0 M A n c K; have c0 := B1.c0; have c1 := B1.c1; have c2 := B1.c2; have c3 := B1.c3; have HS := Lib.hid (fun W (h : IntsAt W A n xs) => cond_shifted A n c K xs (-1) (-1) (.inr rfl) hK (by omega) hx W h); obtain ⟨k1, hk1⟩ : ∃ k, -1 * K + -1 = k := ⟨_, rfl⟩; rw [hk1] at HS
  have HR := Lib.hid (show oppL 0 M n xs K = [⟨0, 0, mulL n (-1) xs, k1⟩] by unfold oppL; rw [if_pos rfl, hk1])
  have T1 : True := trivial
  clear hI hk1
  go_enter Try.func32, Try.ntmps32
  go_wp2_with (first
    | (go_at_call 52; have t1 := T1; clear T1 t1; refine (HS.out _ h1).mono ?_; rintro e w1 ⟨A1, c1, rfl, I1, F1, hb⟩; have b5 := below_alloc w1 (.cells #[.int .i64 0, .int .i64 0, .slice A1 n c1, .int .i64 k1] 26); replace hB := below_step (below_step hB hb) b5; replace h1 := (h1.step hb).step b5; replace B1 := (B1.step hb).step b5; replace I1 := I1.step b5; have X1 := CBox.new w1 0 0 A1 n c1 k1; have d0 := X1.c0; have d1 := X1.c1; have d2 := X1.c2; have d3 := X1.c3; have c0 := B1.c0; have c1' := B1.c1; have c2 := B1.c2; have c3 := B1.c3; have l1 := B1.lt; have l2 := X1.lt; clear b5))
  have b6 := below_alloc (w1.alloc (.cells #[.int .i64 0, .int .i64 0, .slice A1 n c1, .int .i64 k1] 26)) (.cells #[.int .i64 0, .int .i64 0, .slice A1 n c1, .int .i64 k1] 26)
  have G6 := heap_alloc_new (w1.alloc (.cells #[.int .i64 0, .int .i64 0, .slice A1 n c1, .int .i64 k1] 26)) (.cells #[.int .i64 0, .int .i64 0, .slice A1 n c1, .int .i64 k1] 26)
  rw [World.size_alloc] at G6
  go_ret
  refine ⟨some ⟨_, 0, none⟩, 1, [⟨0, 0, A1, n, c1, k1, mulL n (-1) xs⟩], rfl, conds_lit G6 (by simp) (fun e he => by rw [List.mem_singleton.1 he]; exact I1.step b6), ?_, (fun e he => by rw [List.mem_singleton.1 he]), below_step hB b6⟩
  rw [HR.out]; rfl

set_option maxHeartbeats 4000000 in
theorem opp_eq : Calls Try.prog 32 #[condV 1 M A n c K] w fun e w' => CondsRet w e w' n (oppL 1 M n xs K) := by
  have hB := below_alloc w (.cells #[.int .i64 1, .int .i64 M, .slice A n c, .int .i64 K] 26); have h1 := hI.step hB; have B1 := CBox.new w 1 M A n c K; have c0 := B1.c0; have c1 := B1.c1; have c2 := B1.c2; have c3 := B1.c3; have HS := Lib.hid (fun W (h : IntsAt W A n xs) => cond_shifted A n c K xs (-1) (-1) (.inr rfl) hK (by omega) hx W h); obtain ⟨k1, hk1⟩ : ∃ k, -1 * K + -1 = k := ⟨_, rfl⟩; rw [hk1] at HS
  have HS2 := Lib.hid (fun W (h : IntsAt W A n xs) => cond_shifted A n c K xs 1 (-1) (.inl rfl) hK (by omega) hx W h)
  obtain ⟨k2, hk2⟩ : ∃ k, 1 * K + -1 = k := ⟨_, rfl⟩
  rw [hk2] at HS2
  have HR := Lib.hid (show oppL 1 M n xs K = [⟨0, 0, mulL n 1 xs, k2⟩, ⟨0, 0, mulL n (-1) xs, k1⟩] by unfold oppL; rw [if_neg (by decide), if_pos rfl, hk1, hk2])
  have T1 : True := trivial
  clear hI hk1 hk2
  go_enter Try.func32, Try.ntmps32
  go_wp2_with (first
    | (go_at_call 52; have t1 := T1; clear T1 t1; refine (HS.out _ h1).mono ?_; rintro e w1 ⟨A1, c1, rfl, I1, F1, hb⟩; have b5 := below_alloc w1 (.cells #[.int .i64 0, .int .i64 0, .slice A1 n c1, .int .i64 k1] 26); replace hB := below_step (below_step hB hb) b5; replace h1 := (h1.step hb).step b5; replace B1 := (B1.step hb).step b5; replace I1 := I1.step b5; have X1 := CBox.new w1 0 0 A1 n c1 k1; have d0 := X1.c0; have d1 := X1.c1; have d2 := X1.c2; have d3 := X1.c3; have c0 := B1.c0; have c1' := B1.c1; have c2 := B1.c2; have c3 := B1.c3; have l1 := B1.lt; have l2 := X1.lt; clear b5))
  generalize hw3 : (w1.alloc (.cells #[.int .i64 0, .int .i64 0, .slice A1 n c1, .int .i64 k1] 26)) = w3 at *
  clear hw3
  replace hB := hB.drew
  replace h1 := h1.step (Below.refl _ w3).drew
  replace B1 := B1.step (Below.refl _ w3).drew
  replace X1 := X1.step (Below.refl _ w3).drew
  replace I1 := I1.step (Below.refl _ w3).drew
  go_region_held3 (fun W => W.cell? ⟨w.heap.size, 2, none⟩ = some (.slice A n c) ∧ W.cell? ⟨w.heap.size, 3, none⟩ = some (.int .i64 K) ∧ W.cell? ⟨w1.heap.size, 0, none⟩ = some (.int .i64 0) ∧ W.cell? ⟨w1.heap.size, 1, none⟩ = some (.int .i64 0) ∧ W.cell? ⟨w1.heap.size, 2, none⟩ = some (.slice A1 n c1) ∧ W.cell? ⟨w1.heap.size, 3, none⟩ = some (.int .i64 k1)) (first | exact ⟨e2, e3, e4, e5, e6, e7⟩ | exact ⟨c2, c3, d0, d1, d2, d3⟩ | exact ⟨g2, g3, g4, g5, g6, g7⟩ | go_keep)
    (first
      | (go_at_call 52; refine (HS2.out _ h1).mono ?_; rintro e w4 ⟨A2, c2, rfl, I2, F2, hb⟩; replace hB := below_step hB hb; replace B1 := B1.step hb; replace X1 := X1.step hb; replace I1 := I1.step hb; have e2 := B1.c2; have e3 := B1.c3; have e4 := X1.c0; have e5 := X1.c1; have e6 := X1.c2; have e7 := X1.c3; have Y1 := B1.alloc (.cells (ccells [⟨0, 0, A2, n, c2, k2, mulL n 1 xs⟩, ⟨0, 0, A1, n, c1, k1, mulL n (-1) xs⟩]).toArray 26); have Y2 := X1.alloc (.cells (ccells [⟨0, 0, A2, n, c2, k2, mulL n 1 xs⟩, ⟨0, 0, A1, n, c1, k1, mulL n (-1) xs⟩]).toArray 26); have g2 := Y1.c2; have g3 := Y1.c3; have g4 := Y2.c0; have g5 := Y2.c1; have g6 := Y2.c2; have g7 := Y2.c3))
  all_goals
    have b6 := below_alloc w4 (.cells (ccells [⟨0, 0, A2, n, c2, k2, mulL n 1 xs⟩, ⟨0, 0, A1, n, c1, k1, mulL n (-1) xs⟩]).toArray 26)
    go_wp2
    go_ret
    refine ⟨some ⟨_, 0, none⟩, 2, [⟨0, 0, A2, n, c2, k2, mulL n 1 xs⟩, ⟨0, 0, A1, n, c1, k1, mulL n (-1) xs⟩], rfl, conds_lit (heap_alloc_new w4 _) (by simp) (fun e he => by
      rcases List.mem_cons.1 he with rfl | he
      · exact I2.step b6
      · rw [List.mem_singleton.1 he]; exact I1.step b6), ?_, (fun e he => by
      rcases List.mem_cons.1 he with rfl | he
      · rfl
      · rw [List.mem_singleton.1 he]), below_step hB b6⟩
    rw [HR.out]; rfl

omit hK hx hI in
theorem range_snoc (f : Nat → CD) (i : Nat) : (List.range (i + 1)).map f = (List.range i).map f ++ [f i] := by simp [List.range_succ]

set_option maxHeartbeats 8000000 in
set_option maxRecDepth 100000 in
theorem opp_dv (hM : 1 ≤ M ∧ M ≤ 512) : Calls Try.prog 32 #[condV 2 M A n c K] w fun e w' => CondsRet w e w' n (oppL 2 M n xs K) := by
  have hB := below_alloc w (.cells #[.int .i64 2, .int .i64 M, .slice A n c, .int .i64 K] 26); have h1 := hI.step hB; have B1 := CBox.new w 2 M A n c K; have c0 := B1.c0; have c1 := B1.c1; have c2 := B1.c2; have c3 := B1.c3; have HS := Lib.hid (fun W (h : IntsAt W A n xs) => cond_shifted A n c K xs (-1) (-1) (.inr rfl) hK (by omega) hx W h); obtain ⟨k1, hk1⟩ : ∃ k, -1 * K + -1 = k := ⟨_, rfl⟩; rw [hk1] at HS
  have HS2 := Lib.hid (fun (i : Nat) (hi : (i : Int) ≤ 512) W (h : IntsAt W A n xs) => cond_shifted A n c K xs 1 (-(i : Int)) (.inl rfl) hK (by omega) hx W h)
  have HR := Lib.hid (show oppL 2 M n xs K = (List.range (M.toNat - 1)).map fun (r : Nat) => ⟨2, M, mulL n 1 xs, 1 * K + -((r : Int) + 1)⟩ by unfold oppL; rw [if_neg (by decide), if_neg (by decide)])
  have T1 : True := trivial
  clear hI hk1
  go_enter Try.func32, Try.ntmps32
  go_wp2_with (first
    | (go_at_call 52; have t1 := T1; clear T1 t1; refine (HS.out _ h1).mono ?_; rintro e w1 ⟨A1, c1, rfl, I1, F1, hb⟩; have b5 := below_alloc w1 (.cells #[.int .i64 0, .int .i64 0, .slice A1 n c1, .int .i64 k1] 26); replace hB := below_step (below_step hB hb) b5; replace h1 := (h1.step hb).step b5; replace B1 := (B1.step hb).step b5; replace I1 := I1.step b5; have X1 := CBox.new w1 0 0 A1 n c1 k1; have d0 := X1.c0; have d1 := X1.c1; have d2 := X1.c2; have d3 := X1.c3; have c0 := B1.c0; have c1' := B1.c1; have c2 := B1.c2; have c3 := B1.c3; have l1 := B1.lt; have l2 := X1.lt; clear b5))
  generalize hw3 : (w1.alloc (.cells #[.int .i64 0, .int .i64 0, .slice A1 n c1, .int .i64 k1] 26)) = w3 at *
  clear hw3 hb I1 F1 X1 d0 d1 d2 d3 l2 c0 c1' c2 c3
  go_loopw [4, 5] (fun u v wr => ∃ (i : Nat) (els : List CEl), (i : Int) + 1 ≤ M ∧ v = .int .i64 ((i : Int) + 1) ∧ CL w3.heap.size wr u els ∧ els.map CEl.d = (List.range i).map (fun (r : Nat) => (⟨2, M, mulL n 1 xs, 1 * K + -((r : Int) + 1)⟩ : CD)) ∧ (∀ e ∈ els, e.n = n) ∧ Below w3.heap.size w3 wr) (fun _ v _ => (M - intOf v).toNat)
  case atStart => exact ⟨0, [], by omega, by simp, CL.nil _ _, rfl, (fun e h => nomatch h), Below.refl _ _⟩
  case round =>
    obtain ⟨i, els, hi, rfl, hL, hd, hn, hbr⟩ := hrel
    have HLEN := Lib.hid (show els.length = i by have := congrArg List.length hd; simpa using this)
    have HD := Lib.hid (And.intro hd hn)
    have S1 := B1.below hbr l1
    have c1 := S1.c1
    have c2 := S1.c2
    have c3 := S1.c3
    have hNs := hbr.size
    clear hd hn
    by_cases hlt : (i : Int) + 1 < M
    · have hS3 := HS2.out (i + 1) (by omega)
      obtain ⟨kk, hkk⟩ : ∃ k, 1 * K + -(((i : Nat) : Int) + 1) = k := ⟨_, rfl⟩
      have HKK := Lib.hid hkk
      rw [show (((i + 1 : Nat) : Int)) = (i : Int) + 1 by omega, hkk] at hS3
      have HS3 := Lib.hid hS3
      have hwn : IntKind.i64.wrap (-((i : Int) + 1)) = -((i : Int) + 1) := IntWalk.i64_in _ (by omega)
      have hwp : IntKind.i64.wrap ((i : Int) + 1 + 1) = (i : Int) + 1 + 1 := IntWalk.i64_in _ (by omega)
      clear hkk hS3
      obtain ⟨A0, c00, rfl⟩ := hL.slice
      go_wp2
      have h1r := h1.step (below_step (Below.refl _ w3) hbr).drew
      replace hbr := hbr.drew
      replace hL := hL.step (Below.refl _ wr).drew
      have hNs2 : w3.heap.size ≤ wr.drew.heap.size := hNs
      go_region_held3 (fun W => W.cell? ⟨w.heap.size, 1, none⟩ = some (.int .i64 M) ∧ W.cell? ⟨w.heap.size, 2, none⟩ = some (.slice A n c) ∧ W.cell? ⟨w.heap.size, 3, none⟩ = some (.int .i64 K)) (first | exact ⟨e1, e2, e3⟩ | exact ⟨c1, c2, c3⟩ | exact ⟨g1, g2, g3⟩ | exact ⟨f1, f2, f3⟩ | go_keep)
        (first
          | (go_at_call 52; refine (HS3.out _ h1r).mono ?_; rintro e w4 ⟨A2, c2, rfl, I2, F2, hb⟩; have b5 := below_alloc w4 (.cells #[.int .i64 2, .int .i64 M, .slice A2 n c2, .int .i64 kk] 26); have hN4 := Nat.le_trans hNs2 hb.size; replace hbr := hbr.trans (hb.mono hNs2); have Z1 := B1.below hbr l1; have e1 := Z1.c1; have e2 := Z1.c2; have e3 := Z1.c3; have hbr5 := hbr.trans (b5.mono hN4); have Z2 := B1.below hbr5 l1; have g1 := Z2.c1; have g2 := Z2.c2; have g3 := Z2.c3; have L5 := (hL.step hb).step b5; have I5 := I2.step b5; have R5 := (F2.ok hNs2).step b5; have G5 := heap_alloc_new w4 (.cells #[.int .i64 2, .int .i64 M, .slice A2 n c2, .int .i64 kk] 26); have hN5 := Nat.le_trans hN4 b5.size)
          | (refine step_append_cond rfl _ _ 36 rfl rfl rfl L5 w4.heap.size ⟨2, M, A2, n, c2, kk, mulL n 1 xs⟩ rfl G5 I5 R5 (by have := HLEN.out; omega) hN5 ?_; intro g6 cap6 w6 L6 gr6 hb6; replace hbr := hbr5.trans hb6; have Z3 := B1.below hbr l1; have f1 := Z3.c1; have f2 := Z3.c2; have f3 := Z3.c3))
      all_goals
        have HN := Lib.hid (And.intro L6 hbr)
        clear L5 I5 R5 G5 hbr5 hL hN5 e1 e2 e3 g1 g2 g3 f1 f2 f3
        go_wp2
        go_roundw
        case rel => exact ⟨i + 1, els ++ [⟨2, M, A2, n, c2, kk, mulL n 1 xs⟩], by omega, by simp [hwp], HN.out.1, by rw [range_snoc, List.map_append, HD.out.1, ← HKK.out]; rfl, (fun e he => by
          rcases List.mem_append.1 he with h | h
          · exact HD.out.2 e h
          · rw [List.mem_singleton.1 h]), HN.out.2⟩
        case measure => simp [intOf, hwp]; omega
    · have hge : ¬ ((i : Int) + 1 < M) := hlt
      obtain ⟨A0, c00, rfl⟩ := hL.slice
      obtain ⟨_, hC⟩ := hL.conds
      have hend := below_step hB hbr
      clear hL
      go_wp2
      go_ret
      exact ⟨A0, c00, els, rfl, hC, by rw [HD.out.1, HR.out, show M.toNat - 1 = i by omega], HD.out.2, hend⟩
end
end Go.Proofs.Ytbjkijifpikhkaa
