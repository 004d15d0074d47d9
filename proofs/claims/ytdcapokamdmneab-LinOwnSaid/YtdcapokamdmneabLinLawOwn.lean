/-
  For all expressions a and b and all integers i and k, LinOwn returns true and leaves memory as it was. No condition.
-/
import Derived.Test.YtdcapokamdmneabRows
import Derived.Test.YtdcapokamdmneabKit
import Derived.Test.YtdcapokamdmneabLinKit
import Derived.Test.YtdcapokamdmneabLinBase
import Derived.Test.YtdcapokamdmneabLinMake
import Derived.Test.YtdcapokamdmneabLinAwake
import Derived.Test.YtdcapokamdmneabLinArgsC
import Derived.Test.YtdcapokamdmneabLinSum
import Derived.Test.YtdcapokamdmneabLinScale
import Derived.Test.YtdcapokamdmneabRefPutMain
import Derived.Test.YtdcapokamdmneabRefCut
import Derived.Test.YtdcapokamdmneabRefRoom
import Derived.Test.YtdcapokamdmneabOwnKit
import Derived.Deep.Cut
set_option linter.unusedVariables false
namespace Go.Proofs.Ytdcapokamdmneab.linOwn
open Go.ChangeShapes Go.WideShapes Go.ChangeAt Go.RowKit

theorem cut_ansO (K : Int) (xs : List Int) (i : Int) : ∃ X M E, ∀ (A : Option Addr) (n c : Nat), CapOf A n c → ∀ w : World, IntsAt w A n xs →
    Calls Try.prog 9 #[.agg #[.slice A n c, .int .i64 K], .int .i64 i] w fun e w' => RetO w e w' X M E := by
  cases hv : validB xs K
  · exact ⟨[], 0, 1, fun A n c _ w hI => (lin_cut_inv A n c K xs i w hI hv).mono fun _ _ h => h.o_nil⟩
  · by_cases hi : 0 ≤ i ∧ i < (xs.length : Int)
    · obtain ⟨k, rfl⟩ : ∃ k : Nat, i = k := ⟨i.toNat, by omega⟩
      by_cases hz : xs[k]?.getD 0 = 0
      · refine ⟨xs.eraseIdx k, K, 0, fun A n c hC w hI => ?_⟩
        have hl := hI.len
        obtain ⟨b, off, rfl, hb, hc⟩ := hI.cells (by omega)
        obtain ⟨_, hnc, hcc⟩ := hC
        exact lin_cut_ok b off n c K xs k w hI hb hc hnc (by omega) hv (by omega) hz
      · refine ⟨[], 0, 4, fun A n c hC w hI => ?_⟩
        have hl := hI.len
        obtain ⟨b, off, rfl, hb, hc⟩ := hI.cells (by omega)
        exact (lin_cut_form b off n c K xs k w hI hb hc hv (by omega) hz).mono fun _ _ h => h.o_nil
    · refine ⟨[], 0, 6, fun A n c hC w hI => ?_⟩
      have hl := hI.len
      exact (lin_cut_rng A n c K xs i w hI hv (by omega)).mono fun _ _ h => h.o_nil

theorem room_ansO (K : Int) (xs : List Int) (i k : Int) : ∃ X M E, ∀ (A : Option Addr) (n c : Nat) (w : World), CapAt w.heap.size A n c → IntsAt w A n xs →
    Calls Try.prog 11 #[.agg #[.slice A n c, .int .i64 K], .int .i64 i, .int .i64 k] w fun e w' => RetO w e w' X M E := by
  cases hv : validB xs K
  · exact ⟨[], 0, 1, fun A n c w _ hI => (lin_room_inv A n c K xs i k w hI hv).mono fun _ _ h => h.o_nil⟩
  · by_cases hi : 0 ≤ i ∧ i ≤ (xs.length : Int) ∧ 0 ≤ k
    · by_cases hk : k ≤ 12 - (xs.length : Int)
      · obtain ⟨j, rfl⟩ : ∃ j : Nat, i = j := ⟨i.toNat, by omega⟩
        obtain ⟨m, rfl⟩ : ∃ m : Nat, k = m := ⟨k.toNat, by omega⟩
        refine ⟨roomL xs j m, K, 0, fun A n c w hC hI => ?_⟩
        have hl := hI.len
        obtain ⟨⟨hnone, hnc, hcc⟩, hat⟩ := hC
        cases A with
        | none =>
          obtain ⟨rfl, rfl⟩ := hnone rfl
          have hx : xs = [] := List.eq_nil_of_length_eq_zero hl
          subst hx
          have hj : j = 0 := by simp at hi; omega
          subst hj
          exact (lin_room_nil K m w hv (by simp at hk; omega)).mono fun _ _ h => h.o
        | some ad =>
          obtain ⟨b, off, sp⟩ := ad
          obtain ⟨h1, h2⟩ := hat _ rfl
          have h1 : sp = none := h1
          have h2 : b < w.heap.size := h2
          subst h1
          have hc : ∀ j, j < n → w.cell? ⟨b, off + j, none⟩ = some (.int .i64 (xs[j]?.getD 0)) := fun j hj => by
            obtain ⟨b', off', e', _, hc⟩ := hI.cells (by omega)
            simp only [Option.some.injEq, Addr.mk.injEq, and_true] at e'
            obtain ⟨rfl, rfl⟩ := e'
            exact hc j hj
          exact (lin_room_ok b off n c K xs j m w hI h2 hc hnc (by omega) hv (by omega) (by omega)).mono fun _ _ h => h.o
      · refine ⟨[], 0, 3, fun A n c w hC hI => ?_⟩
        have hl := hI.len
        exact (lin_room_full A n c K xs i k w hI hv hi.1 (by omega) hi.2.2 (by omega)).mono fun _ _ h => h.o_nil
    · refine ⟨[], 0, 6, fun A n c w hC hI => ?_⟩
      have hl := hI.len
      exact (lin_room_rng A n c K xs i k w hI hv (by omega)).mono fun _ _ h => h.o_nil

set_option maxRecDepth 100000 in
set_option maxHeartbeats 40000000 in
theorem walk (w : World) (A : Option Addr) (n c : Nat) (K : Int) (xs : List Int) (h : IntsAt w A n xs) (hC0 : CapAt w.heap.size A n c) (hK : -9223372036854775808 ≤ K ∧ K ≤ 9223372036854775807) (A' : Option Addr) (n' c' : Nat) (L : Int) (ys : List Int) (h' : IntsAt w A' n' ys) (hC0' : CapAt w.heap.size A' n' c') (hL : -9223372036854775808 ≤ L ∧ L ≤ 9223372036854775807) (i : Int) (wi : -9223372036854775808 ≤ i) (wi' : i ≤ 9223372036854775807) (k : Int) (wk : -9223372036854775808 ≤ k) (wk' : k ≤ 9223372036854775807) :
    Calls Try.prog 6 #[.agg #[.slice A n c, .int .i64 K], .agg #[.slice A' n' c', .int .i64 L], .int .i64 i, .int .i64 k] w fun e w' => e = .returned (.bool true) ∧ Below w.heap.size w w' := by
  have hB := below_step (below_alloc w (.cells #[.slice A n c, .int .i64 K] 24)) (below_alloc _ (.cells #[.slice A' n' c', .int .i64 L] 24))
  have B1 := (LBox.new w A n c K).alloc (.cells #[.slice A' n' c', .int .i64 L] 24)
  have B2 := LBox.new (w.alloc (.cells #[.slice A n c, .int .i64 K] 24)) A' n' c' L
  rw [World.size_alloc] at B2
  have h1 := h.step hB
  have h2 := h'.step hB
  clear h h'
  go_enter Try.func6, Try.ntmps6
  go_wp2
  generalize hw1 : ((w.alloc (.cells #[.slice A n c, .int .i64 K] 24)).alloc (.cells #[.slice A' n' c', .int .i64 L] 24)) = w1 at *
  clear hw1
  go_cut [9] from 27 (fun v W => CopyAt w1 W v n K xs)
  case first =>
    rename_i hJ hK
    refine wp_region_plan (by rfl) (copyPlan [27, 28, 29, 30, 31, 32, 33, 9, 9]) (copyFacts n (w.heap.size) A c K xs w1.heap.size) (fun W => Below w1.heap.size w1 W) (by kernel_rfl) rfl (Below.refl _ _).drew ?_ ?_
    case refine_2 =>
      intro a W hS hsz hdf hold hf
      obtain ⟨b8, r8, e8, hb8, hc8, ho8, hne8⟩ := hf 8 (by decide) (by decide)
      rw [List.nil_append, Nat.zero_add] at ho8
      refine hK _ _ (Met.intro (hJ _ _ ?_))
      repeat apply Exists.intro
      exact ⟨⟨b8, r8, e8, hb8, hc8, ho8, hne8, hS⟩, act_lit (n := 120) (copyPlan [27, 28, 29, 30, 31, 32, 33, 9, 9]) hsz hdf hold⟩
    refine ⟨?_, ?_, ?_, ?_, ?_, ?_, ?_, ?_, ?_, trivial⟩ <;> intro a W hS hold hn hap hsz0 <;> have hsz : Hid (a.tmps.size = 120) := Lib.hid hsz0 <;> clear hsz0
    · refine step_lit (cs := #[]) rfl rfl (slot_lt hsz (by kernel_rfl)) rfl (by decide) hS.size ?_ (hS.alloc hS.size _)
      go_simp
    · have e2 := getd (hold 4 rfl)
      refine step_val rfl rfl (slot_lt hsz (by kernel_rfl)) ?_ hS
      go_simp
    · obtain ⟨f1, _⟩ := hn
      have e1 := getd (show a.tmps.getD 28 undef = _ from f1)
      have c1 := (B1.below hS B1.lt).c0
      refine step_val rfl rfl (slot_lt hsz (by kernel_rfl)) ?_ hS
      go_simp
    · obtain ⟨f1, f2, _⟩ := hn
      have f1 : W.ownsRow w1.heap.size 3 1 (a.tmps.getD 27 undef) 0 [] := f1
      have f2 : a.tmps.getD 29 undef = _ := f2
      refine step_more rfl rfl (slot_lt hsz (by kernel_rfl)) rfl rfl ?_ (fun w' hg => hS.grown hg hS.size fun k hk => (f1.lt k hk).1)
      obtain ⟨v', w', r1, r2, r3, r4⟩ := append_ints W w1.heap.size 22 _ _ _ f1 _ _ _ _ (h1.step hS) (by have := h1.small; omega) hS.size
      exact ⟨v', w', exec_append rfl rfl f2 r1, r2, r3, r4⟩
    · have e2 := getd (hold 4 rfl)
      refine step_val rfl rfl (slot_lt hsz (by kernel_rfl)) ?_ hS
      go_simp
    · obtain ⟨f1, _⟩ := hn
      have e1 := getd (show a.tmps.getD 31 undef = _ from f1)
      have c1 := (B1.below hS B1.lt).c1
      refine step_val rfl rfl (slot_lt hsz (by kernel_rfl)) ?_ hS
      go_simp
    · obtain ⟨f1, f2, _⟩ := hn
      have f1 : W.ownsRow w1.heap.size 3 1 (a.tmps.getD 30 undef) (0 + n) ([] ++ vals xs) := f1
      generalize hr : a.tmps.getD 30 undef = r at f1
      obtain ⟨A0, k0, rfl⟩ := own_slice f1
      have e1 := getd hr
      have e2 := getd (show a.tmps.getD 32 undef = _ from f2)
      refine step_pair rfl rfl (slot_lt hsz (by kernel_rfl)) rfl rfl hr f1 ?_ hS
      go_simp
    · refine step_box rfl rfl (slot_lt hsz (by kernel_rfl)) hS.size ?_ (hS.alloc hS.size _)
      go_simp
    · refine step_lay rfl rfl rfl (by decide) rfl rfl rfl rfl hn hap ?_
      intro bb rr e1 e2 hc hbb hor
      have e1 := getd (show a.tmps.getD 9 undef = _ from e1)
      have e2 := getd (show a.tmps.getD 33 undef = _ from e2)
      obtain ⟨A0, k0, rfl⟩ := own_slice hor
      have LB : LBox W bb none 0 0 0 := hc
      have c0 := LB.c0
      have c1 := LB.c1
      have f0 := LB.f 0
      have f1 := LB.f 1
      refine ⟨(W.setCell ⟨bb, 0, none⟩ (.slice A0 (0 + n) k0)).setCell ⟨bb, 1, none⟩ (.int .i64 K), ?_, ?_, LB.store _ _ _ _, (hS.setCell (p := ⟨bb, 0, none⟩) hbb _).setCell (p := ⟨bb, 1, none⟩) hbb _⟩
      · clear hap hn hold hor
        go_simp
      · exact ⟨rfl, rfl, rfl, by simp [World.setCell], fun k hk hne => by rw [Below.heap_setCell _ _ _ _ (fun e => hne (by rw [e])), Below.heap_setCell _ _ _ _ (fun e => hne (by rw [e]))]⟩

  obtain ⟨bx, rx, rfl, hbx, hcx, hox, hnx, hbw⟩ := hcut
  obtain ⟨Ax, cx, rfl, Ix⟩ := own_ints hox h1.small h1.wf
  have BX : LBox wc bx Ax n cx K := hcx
  replace h1 := h1.step hbw
  replace h2 := h2.step hbw
  replace B1 := B1.step hbw
  replace B2 := B2.step hbw
  replace hB := below_step hB hbw
  clear hcx hox hnx hbw hbx
  go_wp2
  generalize wc = w2 at *
  go_cut [10] from 27 (fun v W => CopyAt w2 W v n' L ys)
  case first =>
    rename_i hJ hK
    refine wp_region_plan (by rfl) (copyPlan [34, 35, 36, 37, 38, 39, 40, 10, 10]) (copyFacts n' (w.heap.size + 1) A' c' L ys w2.heap.size) (fun W => Below w2.heap.size w2 W) (by kernel_rfl) rfl (Below.refl _ _).drew ?_ ?_
    case refine_2 =>
      intro a W hS hsz hdf hold hf
      obtain ⟨b8, r8, e8, hb8, hc8, ho8, hne8⟩ := hf 8 (by decide) (by decide)
      rw [List.nil_append, Nat.zero_add] at ho8
      refine hK _ _ (Met.intro (hJ _ _ ?_))
      repeat apply Exists.intro
      exact ⟨⟨b8, r8, e8, hb8, hc8, ho8, hne8, hS⟩, act_lit (n := 120) (copyPlan [34, 35, 36, 37, 38, 39, 40, 10, 10]) hsz hdf hold⟩
    refine ⟨?_, ?_, ?_, ?_, ?_, ?_, ?_, ?_, ?_, trivial⟩ <;> intro a W hS hold hn hap hsz0 <;> have hsz : Hid (a.tmps.size = 120) := Lib.hid hsz0 <;> clear hsz0
    · refine step_lit (cs := #[]) rfl rfl (slot_lt hsz (by kernel_rfl)) rfl (by decide) hS.size ?_ (hS.alloc hS.size _)
      go_simp
    · have e2 := getd (hold 5 rfl)
      refine step_val rfl rfl (slot_lt hsz (by kernel_rfl)) ?_ hS
      go_simp
    · obtain ⟨f1, _⟩ := hn
      have e1 := getd (show a.tmps.getD 35 undef = _ from f1)
      have c1 := (B2.below hS B2.lt).c0
      refine step_val rfl rfl (slot_lt hsz (by kernel_rfl)) ?_ hS
      go_simp
    · obtain ⟨f1, f2, _⟩ := hn
      have f1 : W.ownsRow w2.heap.size 3 1 (a.tmps.getD 34 undef) 0 [] := f1
      have f2 : a.tmps.getD 36 undef = _ := f2
      refine step_more rfl rfl (slot_lt hsz (by kernel_rfl)) rfl rfl ?_ (fun w' hg => hS.grown hg hS.size fun k hk => (f1.lt k hk).1)
      obtain ⟨v', w', r1, r2, r3, r4⟩ := append_ints W w2.heap.size 22 _ _ _ f1 _ _ _ _ (h2.step hS) (by have := h2.small; omega) hS.size
      exact ⟨v', w', exec_append rfl rfl f2 r1, r2, r3, r4⟩
    · have e2 := getd (hold 5 rfl)
      refine step_val rfl rfl (slot_lt hsz (by kernel_rfl)) ?_ hS
      go_simp
    · obtain ⟨f1, _⟩ := hn
      have e1 := getd (show a.tmps.getD 38 undef = _ from f1)
      have c1 := (B2.below hS B2.lt).c1
      refine step_val rfl rfl (slot_lt hsz (by kernel_rfl)) ?_ hS
      go_simp
    · obtain ⟨f1, f2, _⟩ := hn
      have f1 : W.ownsRow w2.heap.size 3 1 (a.tmps.getD 37 undef) (0 + n') ([] ++ vals ys) := f1
      generalize hr : a.tmps.getD 37 undef = r at f1
      obtain ⟨A0, k0, rfl⟩ := own_slice f1
      have e1 := getd hr
      have e2 := getd (show a.tmps.getD 39 undef = _ from f2)
      refine step_pair rfl rfl (slot_lt hsz (by kernel_rfl)) rfl rfl hr f1 ?_ hS
      go_simp
    · refine step_box rfl rfl (slot_lt hsz (by kernel_rfl)) hS.size ?_ (hS.alloc hS.size _)
      go_simp
    · refine step_lay rfl rfl rfl (by decide) rfl rfl rfl rfl hn hap ?_
      intro bb rr e1 e2 hc hbb hor
      have e1 := getd (show a.tmps.getD 10 undef = _ from e1)
      have e2 := getd (show a.tmps.getD 40 undef = _ from e2)
      obtain ⟨A0, k0, rfl⟩ := own_slice hor
      have LB : LBox W bb none 0 0 0 := hc
      have c0 := LB.c0
      have c1 := LB.c1
      have f0 := LB.f 0
      have f1 := LB.f 1
      refine ⟨(W.setCell ⟨bb, 0, none⟩ (.slice A0 (0 + n') k0)).setCell ⟨bb, 1, none⟩ (.int .i64 L), ?_, ?_, LB.store _ _ _ _, (hS.setCell (p := ⟨bb, 0, none⟩) hbb _).setCell (p := ⟨bb, 1, none⟩) hbb _⟩
      · clear hap hn hold hor
        go_simp
      · exact ⟨rfl, rfl, rfl, by simp [World.setCell], fun k hk hne => by rw [Below.heap_setCell _ _ _ _ (fun e => hne (by rw [e])), Below.heap_setCell _ _ _ _ (fun e => hne (by rw [e]))]⟩

  obtain ⟨by_, ry, rfl, hby, hcy, hoy, hny, hbw⟩ := hcut
  obtain ⟨Ay, cy, rfl, Iy⟩ := own_ints hoy h2.small h2.wf
  have BY : LBox wc by_ Ay n' cy L := hcy
  replace h1 := h1.step hbw
  replace h2 := h2.step hbw
  replace B1 := B1.step hbw
  replace B2 := B2.step hbw
  replace BX := BX.step hbw
  replace Ix := Ix.step hbw
  replace hB := below_step hB hbw
  clear hcy hoy hny hbw hby
  obtain ⟨X1, M1, E1, HA⟩ : ∃ X1 M1 E1, Hid (∀ W, IntsAt W A n xs → IntsAt W A' n' ys → Calls Try.prog 19 #[.agg #[.slice A n c, .int .i64 K], .agg #[.slice A' n' c', .int .i64 L]] W fun e w' => RetO W e w' X1 M1 E1) := ⟨_, _, _, Lib.hid (fun W a b => lin_Add A n c K xs A' n' c' L ys W a b)⟩
  obtain ⟨X2, M2, E2, HS⟩ : ∃ X2 M2 E2, Hid (∀ W, IntsAt W A n xs → IntsAt W A' n' ys → Calls Try.prog 21 #[.agg #[.slice A n c, .int .i64 K], .agg #[.slice A' n' c', .int .i64 L]] W fun e w' => RetO W e w' X2 M2 E2) := ⟨_, _, _, Lib.hid (fun W a b => lin_Sub A n c K xs A' n' c' L ys W a b)⟩
  obtain ⟨X3, M3, E3, HM⟩ : ∃ X3 M3 E3, Hid (∀ W, IntsAt W A n xs → Calls Try.prog 22 #[.agg #[.slice A n c, .int .i64 K], .int .i64 k] W fun e w' => RetO W e w' X3 M3 E3) := ⟨_, _, _, Lib.hid (fun W a => lin_scale A n c K xs k W a)⟩
  obtain ⟨X4, M4, E4, HP⟩ : ∃ X4 M4 E4, Hid (∀ W, IntsAt W A n xs → IntsAt W A' n' ys → Calls Try.prog 7 #[.agg #[.slice A n c, .int .i64 K], .int .i64 i, .agg #[.slice A' n' c', .int .i64 L]] W fun e w' => RetO W e w' X4 M4 E4) := ⟨_, _, _, Lib.hid (fun W a b => lin_putO A n c K xs i A' n' c' L ys W a b)⟩
  obtain ⟨X5, M5, E5, hc5⟩ := cut_ansO K xs i
  have HC := Lib.hid (fun W (hh : IntsAt W A n xs) => hc5 A n c hC0.1 W hh)
  obtain ⟨X6, M6, E6, hc6⟩ := room_ansO K xs i k
  have HR := Lib.hid (fun W (hc : CapAt W.heap.size A n c) (hh : IntsAt W A n xs) => hc6 A n c W hc hh)
  have hCw := hC0.mono hB.size
  have T1 : True := trivial
  clear hc5 hc6 hC0'
  go_wp2
  go_loopw [11, 41] (fun u v wr => ∃ (r m : Nat) (els : List El), r ≤ 2 ∧ v = .int .i64 r ∧ m ≤ 6 * r ∧ LL wc.heap.size wr u m els ∧ Below wc.heap.size wc wr) (fun _ v _ => 2 - (intOf v).toNat)
  case atStart => exact ⟨0, 0, [], by omega, rfl, by omega, ⟨rfl, World.ownsRow_nil _ _ _ _, fun e he => by cases he⟩, Below.refl _ _⟩
  case round =>
    obtain ⟨r, m, els, hr, rfl, hm, hLL, hbr⟩ := hrel
    have hN : wc.heap.size ≤ wr.heap.size := hbr.size
    have hCr := hCw.mono hN
    replace h1 := h1.step hbr
    replace h2 := h2.step hbr
    replace B1 := B1.step hbr
    replace B2 := B2.step hbr
    have c10 := B1.c0
    have c11 := B1.c1
    have c20 := B2.c0
    have c21 := B2.c1
    by_cases hlt : r < 2
    · have hlt' : (r : Int) < 2 := by omega
      have hm6 : m + 6 ≤ 1000 := by omega
      go_wp2_with (first
        | (go_at_call 19; refine (HA.out _ h1 h2).mono ?_; rintro e w1 ⟨A1, n1, c1, rfl, I1, hb1, f1⟩; have G1 : ElOk wc.heap.size w1 ⟨A1, n1, c1, M1⟩ := elOk_of I1 f1 hN; have hN1 := Nat.le_trans hN hb1.size; have t := below_step hb1 (below_alloc w1 (.cells #[.slice A1 n1 c1, .int .i64 M1] 24)); have ts := Soft.of_below t hN; replace G1 := G1.soft (Soft.of_below (below_alloc w1 (.cells #[.slice A1 n1 c1, .int .i64 M1] 24)) hN1); replace hN := Nat.le_trans hN t.size; replace h1 := h1.step t; replace h2 := h2.step t; replace hCr := hCr.mono t.size; replace B1 := B1.step t; replace B2 := B2.step t; replace hbr := hbr.trans ts.below; replace hLL := hLL.soft ts; have c10 := B1.c0; have c11 := B1.c1; have c20 := B2.c0; have c21 := B2.c1; have P1 := LBox.new w1 A1 n1 c1 M1)
        | (go_at_call 21; refine (HS.out _ h1 h2).mono ?_; rintro e w2 ⟨A2, n2, c2, rfl, I2, hb2, f2⟩; have G2 : ElOk wc.heap.size w2 ⟨A2, n2, c2, M2⟩ := elOk_of I2 f2 hN; have hN2 := Nat.le_trans hN hb2.size; have t := below_step hb2 (below_alloc w2 (.cells #[.slice A2 n2 c2, .int .i64 M2] 24)); have ts := Soft.of_below t hN; replace G2 := G2.soft (Soft.of_below (below_alloc w2 (.cells #[.slice A2 n2 c2, .int .i64 M2] 24)) hN2); replace hN := Nat.le_trans hN t.size; replace h1 := h1.step t; replace h2 := h2.step t; replace hCr := hCr.mono t.size; replace B1 := B1.step t; replace B2 := B2.step t; replace hbr := hbr.trans ts.below; replace hLL := hLL.soft ts; have c10 := B1.c0; have c11 := B1.c1; have c20 := B2.c0; have c21 := B2.c1; replace G1 := G1.soft ts; replace P1 := P1.step t; have P2 := LBox.new w2 A2 n2 c2 M2)
        | (go_at_call 22; refine (HM.out _ h1).mono ?_; rintro e w3 ⟨A3, n3, c3, rfl, I3, hb3, f3⟩; have G3 : ElOk wc.heap.size w3 ⟨A3, n3, c3, M3⟩ := elOk_of I3 f3 hN; have hN3 := Nat.le_trans hN hb3.size; have t := below_step hb3 (below_alloc w3 (.cells #[.slice A3 n3 c3, .int .i64 M3] 24)); have ts := Soft.of_below t hN; replace G3 := G3.soft (Soft.of_below (below_alloc w3 (.cells #[.slice A3 n3 c3, .int .i64 M3] 24)) hN3); replace hN := Nat.le_trans hN t.size; replace h1 := h1.step t; replace h2 := h2.step t; replace hCr := hCr.mono t.size; replace B1 := B1.step t; replace B2 := B2.step t; replace hbr := hbr.trans ts.below; replace hLL := hLL.soft ts; have c10 := B1.c0; have c11 := B1.c1; have c20 := B2.c0; have c21 := B2.c1; replace G1 := G1.soft ts; replace P1 := P1.step t; replace G2 := G2.soft ts; replace P2 := P2.step t; have P3 := LBox.new w3 A3 n3 c3 M3)
        | (go_at_call 7; refine (HP.out _ h1 h2).mono ?_; rintro e w4 ⟨A4, n4, c4, rfl, I4, hb4, f4⟩; have G4 : ElOk wc.heap.size w4 ⟨A4, n4, c4, M4⟩ := elOk_of I4 f4 hN; have hN4 := Nat.le_trans hN hb4.size; have t := below_step hb4 (below_alloc w4 (.cells #[.slice A4 n4 c4, .int .i64 M4] 24)); have ts := Soft.of_below t hN; replace G4 := G4.soft (Soft.of_below (below_alloc w4 (.cells #[.slice A4 n4 c4, .int .i64 M4] 24)) hN4); replace hN := Nat.le_trans hN t.size; replace h1 := h1.step t; replace h2 := h2.step t; replace hCr := hCr.mono t.size; replace B1 := B1.step t; replace B2 := B2.step t; replace hbr := hbr.trans ts.below; replace hLL := hLL.soft ts; have c10 := B1.c0; have c11 := B1.c1; have c20 := B2.c0; have c21 := B2.c1; replace G1 := G1.soft ts; replace P1 := P1.step t; replace G2 := G2.soft ts; replace P2 := P2.step t; replace G3 := G3.soft ts; replace P3 := P3.step t; have P4 := LBox.new w4 A4 n4 c4 M4)
        | (go_at_call 9; refine (HC.out _ h1).mono ?_; rintro e w5 ⟨A5, n5, c5, rfl, I5, hb5, f5⟩; have G5 : ElOk wc.heap.size w5 ⟨A5, n5, c5, M5⟩ := elOk_of I5 f5 hN; have hN5 := Nat.le_trans hN hb5.size; have t := below_step hb5 (below_alloc w5 (.cells #[.slice A5 n5 c5, .int .i64 M5] 24)); have ts := Soft.of_below t hN; replace G5 := G5.soft (Soft.of_below (below_alloc w5 (.cells #[.slice A5 n5 c5, .int .i64 M5] 24)) hN5); replace hN := Nat.le_trans hN t.size; replace h1 := h1.step t; replace h2 := h2.step t; replace hCr := hCr.mono t.size; replace B1 := B1.step t; replace B2 := B2.step t; replace hbr := hbr.trans ts.below; replace hLL := hLL.soft ts; have c10 := B1.c0; have c11 := B1.c1; have c20 := B2.c0; have c21 := B2.c1; replace G1 := G1.soft ts; replace P1 := P1.step t; replace G2 := G2.soft ts; replace P2 := P2.step t; replace G3 := G3.soft ts; replace P3 := P3.step t; replace G4 := G4.soft ts; replace P4 := P4.step t; have P5 := LBox.new w5 A5 n5 c5 M5)
        | (go_at_call 11; refine (HR.out _ hCr h1).mono ?_; rintro e w6 ⟨A6, n6, c6, rfl, I6, hb6, f6⟩; have G6 : ElOk wc.heap.size w6 ⟨A6, n6, c6, M6⟩ := elOk_of I6 f6 hN; have hN6 := Nat.le_trans hN hb6.size; have t := below_step hb6 (below_alloc w6 (.cells #[.slice A6 n6 c6, .int .i64 M6] 24)); have ts := Soft.of_below t hN; replace G6 := G6.soft (Soft.of_below (below_alloc w6 (.cells #[.slice A6 n6 c6, .int .i64 M6] 24)) hN6); replace hN := Nat.le_trans hN t.size; replace h1 := h1.step t; replace h2 := h2.step t; replace hCr := hCr.mono t.size; replace B1 := B1.step t; replace B2 := B2.step t; replace hbr := hbr.trans ts.below; replace hLL := hLL.soft ts; have c10 := B1.c0; have c11 := B1.c1; have c20 := B2.c0; have c21 := B2.c1; replace G1 := G1.soft ts; replace P1 := P1.step t; replace G2 := G2.soft ts; replace P2 := P2.step t; replace G3 := G3.soft ts; replace P3 := P3.step t; replace G4 := G4.soft ts; replace P4 := P4.step t; replace G5 := G5.soft ts; replace P5 := P5.step t; have P6 := LBox.new w6 A6 n6 c6 M6; have p10 := P1.c0; have p11 := P1.c1; have p20 := P2.c0; have p21 := P2.c1; have p30 := P3.c0; have p31 := P3.c1; have p40 := P4.c0; have p41 := P4.c1; have p50 := P5.c0; have p51 := P5.c1; have p60 := P6.c0; have p61 := P6.c1; have hWb := below_alloc (w6.alloc (.cells #[.slice A6 n6 c6, .int .i64 M6] 24)) (.cells #[.slice A1 n1 c1, .int .i64 M1, .slice A2 n2 c2, .int .i64 M2, .slice A3 n3 c3, .int .i64 M3, .slice A4 n4 c4, .int .i64 M4, .slice A5 n5 c5, .int .i64 M5, .slice A6 n6 c6, .int .i64 M6] 24); have sWb := Soft.of_below hWb hN; have hLLb := hLL.soft sWb; have hgb : ((w6.alloc (.cells #[.slice A6 n6 c6, .int .i64 M6] 24)).alloc (.cells #[.slice A1 n1 c1, .int .i64 M1, .slice A2 n2 c2, .int .i64 M2, .slice A3 n3 c3, .int .i64 M3, .slice A4 n4 c4, .int .i64 M4, .slice A5 n5 c5, .int .i64 M5, .slice A6 n6 c6, .int .i64 M6] 24)).heap[(w6.alloc (.cells #[.slice A6 n6 c6, .int .i64 M6] 24)).heap.size]? = some (.cells (lcells [⟨A1, n1, c1, M1⟩, ⟨A2, n2, c2, M2⟩, ⟨A3, n3, c3, M3⟩, ⟨A4, n4, c4, M4⟩, ⟨A5, n5, c5, M5⟩, ⟨A6, n6, c6, M6⟩]).toArray 24 (0, 0)) := heap_alloc_new (w6.alloc (.cells #[.slice A6 n6 c6, .int .i64 M6] 24)) _; have hnewb : ∀ e ∈ [⟨A1, n1, c1, M1⟩, ⟨A2, n2, c2, M2⟩, ⟨A3, n3, c3, M3⟩, ⟨A4, n4, c4, M4⟩, ⟨A5, n5, c5, M5⟩, ⟨A6, n6, c6, M6⟩], ElOk wc.heap.size ((w6.alloc (.cells #[.slice A6 n6 c6, .int .i64 M6] 24)).alloc (.cells #[.slice A1 n1 c1, .int .i64 M1, .slice A2 n2 c2, .int .i64 M2, .slice A3 n3 c3, .int .i64 M3, .slice A4 n4 c4, .int .i64 M4, .slice A5 n5 c5, .int .i64 M5, .slice A6 n6 c6, .int .i64 M6] 24)) e := (by intro e he; simp only [List.mem_cons, List.not_mem_nil, or_false] at he; rcases he with rfl | rfl | rfl | rfl | rfl | rfl; exact G1.soft sWb; exact G2.soft sWb; exact G3.soft sWb; exact G4.soft sWb; exact G5.soft sWb; exact G6.soft sWb); have hNb := Nat.le_trans hN hWb.size; have hbrb := hbr.trans sWb.below; rw [World.size_alloc] at hgb; clear I1 I2 I3 I4 I5 I6 f1 f2 f3 f4 f5 f6 hb1 hb2 hb3 hb4 hb5 hb6 hN1 hN2 hN3 hN4 hN5 hN6)
        | (at_builtin; refine wpList_append_lins rfl _ _ 40 rfl Try.underlying40 rfl hLLb _ _ 6 rfl rfl hgb hnewb hm6 (by decide) hNb ?_; intro g7 cap7 w7 hL7 hb7; replace hbr := hbrb.trans hb7))
      have hbr7 := hbr
      generalize hels : els ++ [⟨A1, n1, c1, M1⟩, ⟨A2, n2, c2, M2⟩, ⟨A3, n3, c3, M3⟩, ⟨A4, n4, c4, M4⟩, ⟨A5, n5, c5, M5⟩, ⟨A6, n6, c6, M6⟩] = els7 at *
      clear hgb hnewb hLLb hWb sWb hbrb hLL P1 P2 P3 P4 P5 P6 G1 G2 G3 G4 G5 G6 p10 p11 p20 p21 p30 p31 p40 p41 p50 p51 p60 p61 c10 c11 c20 c21 B1 B2 h1 h2 hels t ts hNb hCr
      go_loopw [92] (fun v ws => ∃ q : Nat, q ≤ m + 6 ∧ v = .int .i64 q ∧ LL wc.heap.size ws (.slice (some ⟨g7, 0, none⟩) (m + 6) cap7) (m + 6) els7 ∧ Below wc.heap.size wc ws) (fun v _ => (m + 6) - (intOf v).toNat)
      case atStart => exact ⟨0, Nat.zero_le _, rfl, hL7, hbr7⟩
      case round =>
        obtain ⟨q, hq, rfl, hLs, hbs⟩ := hrel
        have hNs : wc.heap.size ≤ wr.heap.size := hbs.size
        by_cases hql : q < m + 6
        · have hql' : (q : Int) < (m : Int) + 6 := by omega
          obtain ⟨el, hel⟩ : ∃ el, els7[q]? = some el := ⟨els7[q]'(by rw [hLs.len]; exact hql), List.getElem?_eq_getElem _⟩
          obtain ⟨hc0, hc1⟩ := lcells_at els7 q el hel
          have hd0 := World.ownsRow.cellAt hLs.own (q * 2) (by omega)
          have hd1 := World.ownsRow.cellAt hLs.own (q * 2 + 1) (by omega)
          rw [hc0] at hd0
          rw [hc1] at hd1
          have hmem := List.mem_of_getElem? hel
          obtain ⟨Ae, ne, ce, Ke⟩ := el
          have hd0 : wr.cell? ⟨g7, q * 2, none⟩ = some (.slice Ae ne ce) := hd0
          have hd1 : wr.cell? ⟨g7, q * 2 + 1, none⟩ = some (.int .i64 Ke) := hd1
          clear hc0 hc1 hel
          go_wp2
          have T0 := LBox.new wr Ae ne ce Ke
          have hba := below_alloc wr (.cells #[.slice Ae ne ce, .int .i64 Ke] 24)
          have sa := Soft.of_below hba hNs
          have hLa := hLs.soft sa
          have hbb := hbs.trans sa.below
          generalize hwa : wr.alloc (.cells #[.slice Ae ne ce, .int .i64 Ke] 24) = wa at *
          generalize htb : wr.heap.size = tb at *
          clear hwa htb hba sa hLs hbs hd0 hd1
          go_loopw [99] (fun v ws => ∃ p : Nat, p ≤ ne ∧ v = .int .i64 p ∧ LL wc.heap.size ws (.slice (some ⟨g7, 0, none⟩) (m + 6) cap7) (m + 6) els7 ∧ LBox ws tb Ae ne ce Ke ∧ Below wc.heap.size wc ws) (fun v _ => ne - (intOf v).toNat)
          case atStart => exact ⟨0, Nat.zero_le _, rfl, hLa, T0, hbb⟩
          case round =>
            obtain ⟨p, hp, rfl, hLt, hTB, hbt⟩ := hrel
            by_cases hpl : p < ne
            · have hok := hLt.ok _ hmem
              have hne : ne ≤ 17592186044416 := hok.1
              obtain ⟨_, h0 | ⟨g, e, hg, hrow⟩⟩ := hok
              · have h0 : ne = 0 := h0
                omega
              · have e : Ae = some ⟨g, 0, none⟩ := e
                subst e
                have hrow : RowAt wr g ne := hrow
                obtain ⟨⟨x, hx⟩, hfz⟩ := hrow.cell hpl
                have t0 := hTB.c0
                have hp' : (p : Int) < ne := by omega
                have S := Soft.setCell (p := p) hrow hg (.int .i64 12345)
                have R1 := hLt.soft S
                have R2 := hTB.soft S
                have R3 := hbt.trans S.below
                clear S
                go_wp2
                go_roundw
                case rel => exact ⟨p + 1, by omega, by go_num, R1, R2, R3⟩
                case measure => simp [intOf]; omega
            · obtain rfl : p = ne := by omega
              have hge : ¬ ((p : Int) < p) := by omega
              go_wp2
              go_roundw
              case rel => exact ⟨q + 1, by omega, by go_num, hLt, hbt⟩
              case measure => simp [intOf]; omega
        · obtain rfl : q = m + 6 := by omega
          have hge : ¬ (((m + 6 : Nat) : Int) < (m : Int) + 6) := by omega
          go_wp2
          go_roundw
          case rel => exact ⟨r + 1, m + 6, els7, by omega, by go_num, by omega, hLs, hbs⟩
          case measure => simp [intOf]; omega
    · obtain rfl : r = 2 := by omega
      have I3 := Ix.step hbr
      have I4 := Iy.step hbr
      have D1 := BX.step hbr
      have D2 := BY.step hbr
      have c30 := D1.c0
      have c31 := D1.c1
      have c40 := D2.c0
      have c41 := D2.c1
      have hEnd := below_step hB hbr
      clear hLL
      go_wp2_with (first
        | (go_at_call 17; have t1 := T1; clear T1 t1; refine (ref_same _ _ _ _ xs _ _ _ _ xs _ h1 I3).mono ?_; rintro e w8 ⟨rfl, hb⟩; rw [sameB_self]; replace h2 := h2.step hb; replace I4 := I4.step hb; replace B2 := B2.step hb; replace D2 := D2.step hb; have c20 := B2.c0; have c21 := B2.c1; have c40 := D2.c0; have c41 := D2.c1; replace hEnd := below_step hEnd hb)
        | (go_at_call 17; refine (ref_same _ _ _ _ ys _ _ _ _ ys _ h2 I4).mono ?_; rintro e w8 ⟨rfl, hb⟩; rw [sameB_self]; replace hEnd := below_step hEnd hb)
        | (go_at_call 14; refine (awake2 _).mono ?_; rintro e w9 ⟨rfl, hb⟩; replace hEnd := below_step hEnd hb))
      go_ret
      exact ⟨rfl, hEnd⟩

set_option maxRecDepth 100000 in
theorem lifted (os : Os) (started : os.Started) (H : Type) (enc : TypeId × Value → H) :
    ReturnsInHanded {} Try.checked os 6 .any (Rows.linOwnSpec.pre6 enc Try.prog Try.f6 Rows.linOwnRow.domain false) (Rows.linOwnSpec.post enc Try.prog Try.f6 false true false false) := by
  refine returnsInHanded_of_change_sized (C := Try.checked) own started (by kernel_rfl) Try.func6
    (ChangeSpec.witness6 (enc := enc) (C := Try.checked) false ⟨#[], #[.agg #[.slice none 0 0, .int .i64 0], .agg #[.slice none 0 0, .int .i64 0], .int .i64 0, .int .i64 0], []⟩ 8 (by kernel_rfl) (by kernel_rfl) (by kernel_rfl) (by kernel_rfl)) ?_
  intro W base args ds gs before hval0 hW _ hsz0 _
  have hval : ∀ (j : Nat) t v, Try.f6.params[j]? = some t → args[j]? = some v → Value.okWide Try.prog W .any base t v := hval0
  have hW' := hW
  have hlt := hW.lt
  obtain ⟨p, q, hA0, hV, rfl, hfz, hnd⟩ := hW
  have hA : DataW.TrodAll enc Try.prog W 0 (fun _ => true) true Try.f6.params.toList args.toList ds p := hA0
  have hsz : (DataW.weightsEach Try.prog (Try.f6.params.toList ++ []) (ds ++ gs)).all (· ≤ reachBytes) = true := hsz0
  rw [Try.params6] at hA hval hsz
  obtain ⟨rfl, rfl⟩ := trodVars_none hV
  obtain ⟨v0, vs0, d0, ds0, p0, q0, hargs, rfl, rfl, h0, r0⟩ := trodAll_cons hA
  obtain ⟨v1, vs1, d1, ds1, p1, q1, rfl, rfl, rfl, h1, r1⟩ := trodAll_cons r0
  obtain ⟨v2, vs2, d2, ds2, p2, q2, rfl, rfl, rfl, h2, r2⟩ := trodAll_cons r1
  obtain ⟨v3, vs3, d3, ds3, p3, q3, rfl, rfl, rfl, h3, r3⟩ := trodAll_cons r2
  obtain ⟨rfl, rfl, rfl⟩ := trodAll_nil r3
  obtain rfl : args = #[v0, v1, v2, v3] := by cases args; simp_all
  obtain ⟨z0, hsz⟩ := weights_cons hsz
  obtain ⟨z1, hsz⟩ := weights_cons hsz
  obtain ⟨z2, hsz⟩ := weights_cons hsz
  obtain ⟨z3, hsz⟩ := weights_cons hsz
  have hpost : ∀ W' : World, Below W.heap.size W W' → ∃ v, Ending.returned (.bool true) = .returned v ∧ Rows.linOwnSpec.post enc Try.prog Try.f6 false true false false W #[v0, v1, v2, v3] v W' :=
    fun W' hb => ⟨_, rfl, law_post laidOut (of_decide_eq_true (by kernel_rfl)) rfl rfl Try.underlying4 rfl hW' hb⟩
  obtain ⟨A0, n0, c0, K0, xs0, rfl, I0, C0, k0⟩ := lin_ofD (hval 0 24 v0 rfl rfl) (fun x hx => hlt x (by simp only [List.mem_append]; simp [hx])) z0 h0
  obtain ⟨A1, n1, c1, K1, xs1, rfl, I1, C1, k1⟩ := lin_ofD (hval 1 24 v1 rfl rfl) (fun x hx => hlt x (by simp only [List.mem_append]; simp [hx])) z1 h1
  obtain ⟨a2, rfl, rfl, rfl, w2⟩ := open_int Try.underlying3 (hval 2 3 v2 rfl rfl) h2
  have b2 := bounds_i64 w2
  obtain ⟨a3, rfl, rfl, rfl, w3⟩ := open_int Try.underlying3 (hval 3 3 v3 rfl rfl) h3
  have b3 := bounds_i64 w3
  refine (walk A0 n0 c0 K0 xs0 I0 C0 k0 A1 n1 c1 K1 xs1 I1 C1 k1 a2 b2.1 b2.2 a3 b3.1 b3.2 (w := W)).mono fun e W' ⟨he, hb⟩ => ?_
  subst he
  exact hpost W' hb

theorem proved : Rows.LinOwnSaid :=
  OpenClaim.holds_of_wide 6 Try.f6 rfl rfl rfl rfl rfl rfl rfl ⟨rfl, rfl, rfl, rfl, rfl⟩ rfl rfl rfl rfl rfl (by kernel_rfl) Try.func6 (by kernel_rfl)
    (of_decide_eq_true (by kernel_rfl)) (by unfold Func.isWrapper; first | (rw [if_pos (by decide +kernel)]; kernel_rfl) | (rw [if_neg (by decide +kernel)]; exact ⟨rfl, rfl⟩))
    (fun os started H enc _ => lifted os started H enc)
#print axioms proved
end Go.Proofs.Ytdcapokamdmneab.linOwn
