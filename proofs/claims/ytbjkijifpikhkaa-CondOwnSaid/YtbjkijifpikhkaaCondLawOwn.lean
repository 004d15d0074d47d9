/-
  For all conditions c, CondOwn returns true and leaves memory as it was. No condition.
-/
import Derived.Test.YtbjkijifpikhkaaRows
import Derived.Test.YtbjkijifpikhkaaKit
import Derived.Test.YtbjkijifpikhkaaLinKit
import Derived.Test.YtbjkijifpikhkaaLinMix
import Derived.Test.YtbjkijifpikhkaaOwnKit
import Derived.Test.YtbjkijifpikhkaaCondKit
import Derived.Test.YtbjkijifpikhkaaCondHolds
import Derived.Test.YtbjkijifpikhkaaCondComp
import Derived.Test.YtbjkijifpikhkaaCondAwake
import Derived.Test.YtbjkijifpikhkaaCondArgs
import Derived.Test.YtbjkijifpikhkaaCondNeg
import Derived.Test.YtbjkijifpikhkaaCondMadeDv
import Derived.Deep.RegionHeld3
set_option linter.unusedVariables false
namespace Go.Proofs.Ytbjkijifpikhkaa.condOwn
open Go.ChangeShapes Go.WideShapes Go.ChangeAt Go.RowKit

/-- A list of conditions whose rows may be written. -/
structure CW (N : Nat) (W : World) (u : Value) (els : List CEl) : Prop where
  own : W.ownsRow N 26 4 u els.length (ccells els)
  few : els.length ≤ 100000
  small : ∀ e ∈ els, e.n ≤ 17592186044416
  rows : ∀ e ∈ els, RowOk N W e.A e.n
theorem CW.of {N : Nat} {W : World} {u : Value} {els : List CEl} (h : CL N W u els) : CW N W u els := ⟨h.own, h.few, fun e he => (h.ints e he).small, h.rows⟩
theorem RowOk.soft {N : Nat} {W W' : World} {A : Option Addr} {n : Nat} (h : RowOk N W A n) (hs : Soft N W W') : RowOk N W' A n :=
  h.imp id fun ⟨g, a, hg, r⟩ => ⟨g, a, hg, hs.rows g n r⟩
theorem CW.soft {N : Nat} {W W' : World} {u : Value} {els : List CEl} (h : CW N W u els) (hs : Soft N W W') : CW N W' u els := by
  refine ⟨⟨h.own.1, ?_⟩, h.few, h.small, fun e he => RowOk.soft (h.rows e he) hs⟩
  rcases h.own.2 with h0 | ⟨g, cap, cur, hv, hb, hg, rest⟩
  · exact .inl h0
  · exact .inr ⟨g, cap, cur, hv, hb, hs.rest g _ hg (fun cur' e => by simp at e), rest⟩
theorem CBox.soft {N : Nat} {W W' : World} {b : Nat} {q M : Int} {A : Option Addr} {n c : Nat} {K : Int} (h : CBox W b q M A n c K) (hs : Soft N W W') : CBox W' b q M A n c K :=
  hs.rest b _ h (fun cur e => by simp at e)
theorem CW.at {N : Nat} {W : World} {A : Option Addr} {m c : Nat} {els : List CEl} (h : CW N W (.slice A m c) els) {j : Nat} (hj : j < els.length) :
    m = els.length ∧ ∃ g, A = some ⟨g, 0, none⟩ ∧ ∃ e, els[j]? = some e ∧ e ∈ els ∧ CellsOf W g (j * 4) e := by
  rcases h.own.2 with ⟨_, h0⟩ | ⟨g, cap, cur, hv, hb, hg, _⟩
  · omega
  · cases hv
    refine ⟨rfl, g, rfl, els[j], List.getElem?_eq_getElem hj, List.getElem_mem hj, ?_⟩
    obtain ⟨a0, a1, a2, a3⟩ := ccells_at els j els[j] (List.getElem?_eq_getElem hj)
    refine ⟨?_, ?_, ?_, ?_⟩
    · have := World.ownsRow.cellAt h.own (j * 4) (by omega); rw [this]; exact a0
    · have := World.ownsRow.cellAt h.own (j * 4 + 1) (by omega); rw [this]; exact a1
    · have := World.ownsRow.cellAt h.own (j * 4 + 2) (by omega); rw [this]; exact a2
    · have := World.ownsRow.cellAt h.own (j * 4 + 3) (by omega); rw [this]; exact a3

theorem neg_len {q M : Int} {n : Nat} {xs : List Int} {K : Int} {els : List CEl} (h : els.map CEl.d = negL q M n xs K) : els.length ≤ 400 := by
  rw [← List.length_map (f := CEl.d), h]
  unfold negL
  split
  · split
    · simp
    · rename_i hf
      have hf := Bool.eq_false_iff.2 hf
      unfold negFull at hf
      rw [Bool.or_eq_false_iff] at hf
      have := hf.2
      simp at this
      exact this
  · simp

set_option maxHeartbeats 8000000 in
set_option maxRecDepth 100000 in
theorem walk (w : World) (q M : Int) (A : Option Addr) (n c : Nat) (K : Int) (xs : List Int) (h : IntsAt w A n xs) (_ : -9223372036854775808 ≤ q ∧ q ≤ 9223372036854775807) (_ : -9223372036854775808 ≤ M ∧ M ≤ 9223372036854775807) (hK : -9223372036854775808 ≤ K ∧ K ≤ 9223372036854775807) :
    Calls Try.prog 9 #[condV q M A n c K] w fun e w' => e = .returned (.bool true) ∧ Below w.heap.size w w' := by
  have hB := below_alloc w (.cells #[.int .i64 q, .int .i64 M, .slice A n c, .int .i64 K] 26)
  have h1 := h.step hB
  have B1 := CBox.new w q M A n c K
  have hsm := h.small
  have l0 := B1.lt
  have HMX := Lib.hid (fun W (h : IntsAt W A n xs) => ref_mix_copy A n c K xs hK W h)
  have HI0 := Lib.hid h
  clear h hK
  go_enter Try.func9, Try.ntmps9
  go_wp2
  generalize hw0 : (w.alloc (.cells #[.int .i64 q, .int .i64 M, .slice A n c, .int .i64 K] 26)) = w0 at *
  clear hw0
  have c0 := B1.c0
  have c1 := B1.c1
  have c2 := B1.c2
  have c3 := B1.c3
  have hBb := (below_step hB (below_alloc w0 (.cells #[.int .i64 0, .int .i64 0, .slice none 0 0, .int .i64 0] 26))).drew
  have h1b := (h1.step (below_alloc w0 (.cells #[.int .i64 0, .int .i64 0, .slice none 0 0, .int .i64 0] 26))).step (Below.refl _ _).drew
  have B1b := (B1.step (below_alloc w0 (.cells #[.int .i64 0, .int .i64 0, .slice none 0 0, .int .i64 0] 26))).step (Below.refl _ _).drew
  have BNb := (CBox.new w0 0 0 none 0 0 0).step (Below.refl _ _).drew
  replace hB := hB.drew
  replace h1 := h1.step (Below.refl _ w0).drew
  replace B1 := B1.step (Below.refl _ w0).drew
  have nz : w.heap.size ≠ w0.heap.size := by omega
  go_cut [3] from 12 (fun v W => ∃ b g k, v = .pointer (some ⟨b, 0, none⟩) ∧ CBox W b q M (some ⟨g, 0, none⟩) n k K ∧ IntsAt W (some ⟨g, 0, none⟩) n xs ∧ CBox W w.heap.size q M A n c K ∧ IntsAt W A n xs ∧ Below w.heap.size w W)
  case first =>
    go_region_held3 (fun W => W.cell? ⟨w.heap.size, 0, none⟩ = some (.int .i64 q) ∧ W.cell? ⟨w.heap.size, 1, none⟩ = some (.int .i64 M) ∧ W.cell? ⟨w.heap.size, 2, none⟩ = some (.slice A n c) ∧ W.cell? ⟨w.heap.size, 3, none⟩ = some (.int .i64 K)) (first | with_reducible exact ⟨c0, c1, c2, c3⟩ | with_reducible exact ⟨B1.c0, B1.c1, B1.c2, B1.c3⟩ | with_reducible exact ⟨(B1.alloc _).c0, (B1.alloc _).c1, (B1.alloc _).c2, (B1.alloc _).c3⟩ | with_reducible exact ⟨B1b.c0, B1b.c1, B1b.c2, B1b.c3⟩ | with_reducible exact ⟨keep4 B1b.c0 nz, keep4 B1b.c1 nz, keep4 B1b.c2 nz, keep4 B1b.c3 nz⟩ | go_keep)
      (first
        | (go_at_call 23; with_reducible (show Calls _ _ _ w0.drew _); refine (HMX.out _ h1).mono ?_; rintro e w1 ⟨g, k, rfl, hg, I1, O1, hb⟩; replace hB := below_step hB hb; replace h1 := h1.step hb; replace B1 := B1.step hb)
        | (go_at_call 23; with_reducible (show Calls _ _ _ (World.drew (World.alloc w0 _)) _); refine (HMX.out _ h1b).mono ?_; rintro e w1 ⟨g, k, rfl, hg, I1, O1, hb⟩; replace hBb := below_step hBb hb; replace h1b := h1b.step hb; replace B1b := B1b.step hb; replace BNb := BNb.step hb; have d0 := BNb.c0; have d1 := BNb.c1; have d2 := BNb.c2; have d3 := BNb.c3; have f0 := BNb.f 0; have f1 := BNb.f 1; have f2 := BNb.f 2; have f3 := BNb.f 3))
    · have b5 := below_alloc w1 (.cells #[.int .i64 q, .int .i64 M, .slice (some ⟨g, 0, none⟩) n k, .int .i64 K] 26)
      have BB := CBox.new w1 q M (some ⟨g, 0, none⟩) n k K
      have hEnd := below_step hB b5
      go_wp2
      go_meet
      case rel => exact ⟨w1.heap.size, g, k, rfl, BB, I1.step b5, B1.step b5, HI0.out.step hEnd, hEnd⟩
    · have BB := (((BNb.s0 q).s1 M).s2 (some ⟨g, 0, none⟩) n k).s3 K
      have hg2 : w0.heap.size ≠ g := by
        have : (w0.alloc (.cells #[.int .i64 0, .int .i64 0, .slice none 0 0, .int .i64 0] 26)).heap.size ≤ g := hg
        rw [World.size_alloc] at this
        omega
      have O2 := O1.store4 (b := w0.heap.size) hg2 (.int .i64 q) (.int .i64 M) (.slice (some ⟨g, 0, none⟩) n k) (.int .i64 K)
      have hEnd := below_store4 hBb (b := w0.heap.size) (by omega) (.int .i64 q) (.int .i64 M) (.slice (some ⟨g, 0, none⟩) n k) (.int .i64 K)
      have B5 := (((B1b.step' (a := ⟨w0.heap.size, 0, none⟩) nz (.int .i64 q)).step' (a := ⟨w0.heap.size, 1, none⟩) nz (.int .i64 M)).step' (a := ⟨w0.heap.size, 2, none⟩) nz (.slice (some ⟨g, 0, none⟩) n k)).step' (a := ⟨w0.heap.size, 3, none⟩) nz (.int .i64 K)
      go_wp2
      go_meet
      case rel => exact ⟨w0.heap.size, g, k, rfl, BB, O2.ints hsm HI0.out.wf, B5, HI0.out.step hEnd, hEnd⟩
  case rest =>
    obtain ⟨bw, gw, kw, rfl, BW, IW, BC, IC, hBc⟩ := hcut
    clear hBb h1b B1b BNb hB h1 B1 nz c0 c1 c2 c3 HMX l0
    have lw := BW.lt
    have lc := BC.lt
    go_wp2
    go_loopw [22] (fun v wr => ∃ r : Nat, r ≤ 2 ∧ v = .int .i64 r ∧ Below wc.heap.size wc wr) (fun v _ => 2 - (intOf v).toNat)
    case atStart => exact ⟨0, by omega, rfl, Below.refl _ _⟩
    case round =>
      obtain ⟨r, hr, rfl, hbr⟩ := hrel
      have B1 := BC.step hbr
      have B2 := BW.step hbr
      have I1 := IC.step hbr
      have I2 := IW.step hbr
      have hN := hbr.size
      have c0 := B1.c0
      have c1 := B1.c1
      have c2 := B1.c2
      have c3 := B1.c3
      by_cases hlt : r < 2
      · have hr2 : (r : Int) < 2 := by omega
        go_wp2_with (go_at_call 12; refine (cond_valid _ _ _ _ _ _ xs _ I1).mono ?_; rintro e w1 ⟨rfl, hb⟩; replace hbr := hbr.trans (hb.mono hN); replace hN := hbr.size; replace B1 := B1.step hb; replace B2 := B2.step hb; replace I1 := I1.step hb; replace I2 := I2.step hb; have c0 := B1.c0; have c1 := B1.c1; have c2 := B1.c2; have c3 := B1.c3)
        obtain ⟨kz, hkz, hkz1⟩ : ∃ kz : Nat, (if (100 : Int) < (n : Int) then (100 : Int) else (n : Int)) = kz ∧ kz ≤ 100 := ⟨min n 100, by split <;> omega, by omega⟩
        have hmk := make_ints kz (by omega)
        have b5 := below_alloc w1.drew (.cells ((zeros kz).map (Value.int .i64)).toArray 3)
        have IZ := (OwnRow.new w1.drew (zeros kz) kz (zeros_len kz)).ints (by omega) (zeros_wf kz)
        replace hbr := (hbr.drew).trans (b5.mono hN)
        replace B1 := (B1.step (Below.refl _ w1).drew).step b5
        replace B2 := (B2.step (Below.refl _ w1).drew).step b5
        replace I1 := (I1.step (Below.refl _ w1).drew).step b5
        replace I2 := (I2.step (Below.refl _ w1).drew).step b5
        have e0 := B1.c0
        have e1 := B1.c1
        have e2 := B1.c2
        have e3 := B1.c3
        replace hN := hbr.size
        clear b5
        go_region_held3 (fun W => W.cell? ⟨w.heap.size, 0, none⟩ = some (.int .i64 q) ∧ W.cell? ⟨w.heap.size, 1, none⟩ = some (.int .i64 M) ∧ W.cell? ⟨w.heap.size, 2, none⟩ = some (.slice A n c) ∧ W.cell? ⟨w.heap.size, 3, none⟩ = some (.int .i64 K)) (first | with_reducible exact ⟨c0, c1, c2, c3⟩ | with_reducible exact ⟨e0, e1, e2, e3⟩ | with_reducible exact ⟨f0, f1, f2, f3⟩ | go_keep)
          (first
            | (go_at_call 10; refine (cond_holds _ _ _ _ _ _ xs _ _ _ (zeros kz) _ I1 IZ).mono ?_; rintro e w2 ⟨rfl, hb⟩; replace hbr := hbr.trans (hb.mono hN); replace hN := hbr.size; replace B1 := B1.step hb; replace B2 := B2.step hb; replace I1 := I1.step hb; replace I2 := I2.step hb; have f0 := B1.c0; have f1 := B1.c1; have f2 := B1.c2; have f3 := B1.c3))
        all_goals
          have d0 := B2.c0
          have d1 := B2.c1
          have d2 := B2.c2
          have d3 := B2.c3
          clear e0 e1 e2 e3 c0 c1 c2 c3 hkz hmk IZ
          go_wp2_with (first
            | (go_at_call 20; refine (cond_comp _ _ _ _ _ _ xs _ _ _ _ _ _ xs _ I1 I2).mono ?_; rintro e w3 ⟨rfl, hb⟩; replace hbr := hbr.trans (hb.mono hN); replace hN := hbr.size; replace B1 := B1.step hb; replace I1 := I1.step hb; have c0 := B1.c0; have c1 := B1.c1; have c2 := B1.c2; have c3 := B1.c3)
            | (go_at_call 15; refine (cond_normal _ _ _ _ _ _ xs _ I1).mono ?_; rintro e w4 ⟨A4, n4, k4, rfl, I4, hb, O4⟩; have R4 := FreshRow.ok (N' := wc.heap.size) O4 hN; have b5 := below_alloc w4 (.cells #[.int .i64 (nfV q M n xs K).1, .int .i64 (nfV q M n xs K).2.1, .slice A4 n4 k4, .int .i64 (nfV q M n xs K).2.2.2.1] 26); have X4 := CBox.new w4 (nfV q M n xs K).1 (nfV q M n xs K).2.1 A4 n4 k4 (nfV q M n xs K).2.2.2.1; replace I4 := I4.step b5; replace R4 := RowOk.step R4 b5; replace hbr := hbr.trans (hb.mono hN); replace hN := hbr.size; replace hbr := hbr.trans (b5.mono hN); replace hN := hbr.size; replace B1 := (B1.step hb).step b5; replace I1 := (I1.step hb).step b5; have c0 := B1.c0; have c1 := B1.c1; have c2 := B1.c2; have c3 := B1.c3; clear b5)
            | (go_at_call 18; refine (cond_neg _ _ _ _ _ _ xs _ I1).mono ?_; rintro e w5 ⟨u, els, rfl, hL, hdd, _, hb⟩; obtain ⟨A5, k5, rfl⟩ := hL.slice; have hlen := neg_len hdd; replace hL := hL.mono hN hN; replace hbr := hbr.trans (hb.mono hN); replace hN := hbr.size; replace X4 := X4.step hb; replace I4 := I4.step hb; replace R4 := RowOk.step R4 hb; have x0 := X4.c0; have x1 := X4.c1; have x2 := X4.c2; have x3 := X4.c3; have b7 := below_alloc w5 (.cells #[.int .i64 (nfV q M n xs K).1, .int .i64 (nfV q M n xs K).2.1, .slice A4 n4 k4, .int .i64 (nfV q M n xs K).2.2.2.1] 26); have L7 := CL2.step hL b7; have I7 := I4.step b7; have R7 := RowOk.step R4 b7; have G7 := heap_alloc_new w5 (.cells #[.int .i64 (nfV q M n xs K).1, .int .i64 (nfV q M n xs K).2.1, .slice A4 n4 k4, .int .i64 (nfV q M n xs K).2.2.2.1] 26); replace hbr := hbr.trans (b7.mono hN); replace hN := hbr.size; clear b7 hdd)
            | (at_builtin; refine wpList_append_cond rfl _ _ 36 rfl rfl rfl L7 w5.heap.size ⟨(nfV q M n xs K).1, (nfV q M n xs K).2.1, A4, n4, k4, (nfV q M n xs K).2.2.2.1, (nfV q M n xs K).2.2.1⟩ rfl G7 I7 R7 (by omega) hN ?_; intro g8 cap8 w8 L8 gr8 hb8; replace hbr := hbr.trans hb8))
          have hW8 := CW.of L8
          have hN8 := hbr.size
          have hm8 : (els ++ [(⟨(nfV q M n xs K).1, (nfV q M n xs K).2.1, A4, n4, k4, (nfV q M n xs K).2.2.2.1, (nfV q M n xs K).2.2.1⟩ : CEl)]).length = els.length + 1 := by rw [List.length_append]; rfl
          clear L7 I7 R7 G7 L8 gr8 hb8 hL x0 x1 x2 x3 X4 I4 R4 B1 B2 I1 I2 O4 hb f0 f1 f2 f3 d0 d1 d2 d3
          generalize (els ++ [(⟨(nfV q M n xs K).1, (nfV q M n xs K).2.1, A4, n4, k4, (nfV q M n xs K).2.2.2.1, (nfV q M n xs K).2.2.1⟩ : CEl)]) = els8 at *
          obtain ⟨m, hm⟩ : ∃ m, els.length + 1 = m := ⟨_, rfl⟩
          have hm9 : m ≤ 401 := by omega
          rw [hm] at hW8 hm8
          have hmI : (els.length : Int) + 1 = (m : Int) := by omega
          rw [hm, hmI]
          clear hm hmI hlen
          go_loopw [53] (fun v ws => ∃ p : Nat, p ≤ m ∧ v = .int .i64 p ∧ CW wc.heap.size ws (.slice (some ⟨g8, 0, none⟩) m cap8) els8 ∧ Below wc.heap.size wc ws) (fun v _ => m - (intOf v).toNat)
          case atStart => exact ⟨0, Nat.zero_le _, rfl, hW8, hbr⟩
          clear hW8 hbr hN hN8
          case round =>
            obtain ⟨p, hp, rfl, hCW, hbs⟩ := hrel
            by_cases hpl : p < m
            · obtain ⟨hmm, ga, hga, e, hej, hmem, hcs⟩ := hCW.at (j := p) (by rw [hm8]; exact hpl)
              clear hmm
              cases hga
              obtain ⟨x0, x1, x2, x3⟩ := hcs
              have hsm8 := hCW.small e hmem
              obtain ⟨eq, eM, eA, en, ec, eK, exs⟩ := e
              simp only at x0 x1 x2 x3 hsm8
              have hpI : (p : Int) < m := by omega
              have hNs := hbs.size
              have b9 := below_alloc wr (.cells #[.int .i64 eq, .int .i64 eM, .slice eA en ec, .int .i64 eK] 26)
              have hCWa := hCW.soft (Soft.of_below b9 hNs)
              have hbsa := hbs.trans (b9.mono hNs)
              have T0 := CBox.new wr eq eM eA en ec eK
              have t2 := T0.c2
              clear hCW b9 hej
              go_wp2
              generalize hwa : wr.alloc (.cells #[.int .i64 eq, .int .i64 eM, .slice eA en ec, .int .i64 eK] 26) = wa at *
              generalize htb : wr.heap.size = tb at *
              clear hwa htb x0 x1 x2 x3 t2 hbs hNs
              go_loopw [61] (fun v wt => ∃ p2 : Nat, p2 ≤ en ∧ v = .int .i64 p2 ∧ CW wc.heap.size wt (.slice (some ⟨g8, 0, none⟩) m cap8) els8 ∧ CBox wt tb eq eM eA en ec eK ∧ Below wc.heap.size wc wt) (fun v _ => en - (intOf v).toNat)
              case atStart => exact ⟨0, Nat.zero_le _, rfl, hCWa, T0, hbsa⟩
              case round =>
                obtain ⟨p2, hp2, rfl, hCT, hTB, hbt⟩ := hrel
                clear hCWa T0 hbsa
                by_cases hpl2 : p2 < en
                · rcases hCT.rows _ hmem with h0 | ⟨g, hA, hg, hrow⟩
                  · have h0 : en = 0 := h0
                    omega
                  · have hA : eA = some ⟨g, 0, none⟩ := hA
                    subst hA
                    have hrow : RowAt wr g en := hrow
                    obtain ⟨⟨x, hx⟩, hfz⟩ := hrow.cell hpl2
                    have t2 := hTB.c2
                    have hp' : (p2 : Int) < en := by omega
                    have S := Soft.setCell (p := p2) hrow hg (.int .i64 12345)
                    have R1 := hCT.soft S
                    have R2 := CBox.soft hTB S
                    have R3 := hbt.trans S.below
                    clear S
                    go_wp2
                    go_roundw
                    case rel => exact ⟨p2 + 1, by omega, by go_num, R1, R2, R3⟩
                    case measure => simp [intOf]; omega
                · obtain rfl : p2 = en := by omega
                  have hge : ¬ ((p2 : Int) < p2) := by omega
                  go_wp2
                  go_roundw
                  case rel => exact ⟨p + 1, by omega, by go_num, hCT, hbt⟩
                  case measure => simp [intOf]; omega
            · obtain rfl : p = m := by omega
              have hge : ¬ ((p : Int) < p) := by omega
              go_wp2
              go_roundw
              case rel => exact ⟨r + 1, by omega, by go_num, hbs⟩
              case measure => simp [intOf]; omega
      · have hr2 : ¬ (r : Int) < 2 := by omega
        have d0 := B2.c0
        have d1 := B2.c1
        have d2 := B2.c2
        have d3 := B2.c3
        have hEnd := below_step hBc hbr
        go_wp2_with (first
          | (go_at_call 17; refine (cond_same _ _ _ _ _ _ xs _ _ _ _ _ _ xs _ I1 I2).mono ?_; rintro e w3 ⟨rfl, hb⟩; rw [sameC_self]; replace hEnd := below_step hEnd hb)
          | (go_at_call 14; refine (awake3 _).mono ?_; rintro e w4 ⟨rfl, hb⟩; replace hEnd := below_step hEnd hb))
        go_ret
        exact ⟨rfl, hEnd⟩

set_option maxRecDepth 100000 in
theorem lifted (os : Os) (started : os.Started) (H : Type) (enc : TypeId × Value → H) :
    ReturnsInHanded {} Try.checked os 9 .any (Rows.condOwnSpec.pre6 enc Try.prog Try.f9 Rows.condOwnRow.domain false) (Rows.condOwnSpec.post enc Try.prog Try.f9 false true false false) := by
  refine returnsInHanded_of_change_sized (C := Try.checked) own started (by kernel_rfl) Try.func9
    (ChangeSpec.witness6 (enc := enc) (C := Try.checked) false ⟨#[], #[.agg #[.int .i64 0, .int .i64 0, .slice none 0 0, .int .i64 0]], []⟩ 8 (by kernel_rfl) (by kernel_rfl) (by kernel_rfl) (by kernel_rfl)) ?_
  intro W base args ds gs before hval0 hW _ hsz0 _
  have hval : ∀ (j : Nat) t v, Try.f9.params[j]? = some t → args[j]? = some v → Value.okWide Try.prog W .any base t v := hval0
  have hW' := hW
  have hlt := hW.lt
  obtain ⟨p, q, hA0, hV, rfl, hfz, hnd⟩ := hW
  have hA : DataW.TrodAll enc Try.prog W 0 (fun _ => true) true Try.f9.params.toList args.toList ds p := hA0
  have hsz : (DataW.weightsEach Try.prog (Try.f9.params.toList ++ []) (ds ++ gs)).all (· ≤ reachBytes) = true := hsz0
  rw [Try.params9] at hA hval hsz
  obtain ⟨rfl, rfl⟩ := trodVars_none hV
  obtain ⟨v0, vs0, d0, ds0, p0, q0, hargs, rfl, rfl, h0, r0⟩ := trodAll_cons hA
  obtain ⟨rfl, rfl, rfl⟩ := trodAll_nil r0
  obtain rfl : args = #[v0] := by cases args; simp_all
  obtain ⟨z0, hsz⟩ := weights_cons hsz
  have hpost : ∀ W' : World, Below W.heap.size W W' → ∃ v, Ending.returned (.bool true) = .returned v ∧ Rows.condOwnSpec.post enc Try.prog Try.f9 false true false false W #[v0] v W' :=
    fun W' hb => ⟨_, rfl, law_post laidOut (of_decide_eq_true (by kernel_rfl)) rfl rfl Try.underlying4 rfl hW' hb⟩
  obtain ⟨q0, M0, A0, n0, c0, K0, xs0, rfl, I0, C0, kq0, kM0, k0⟩ := cond_ofC (hval 0 26 v0 rfl rfl) (fun x hx => hlt x (by simp only [List.mem_append]; simp [hx])) z0 h0
  refine (walk q0 M0 A0 n0 c0 K0 xs0 I0 kq0 kM0 k0 (w := W)).mono fun e W' ⟨he, hb⟩ => ?_
  subst he
  exact hpost W' hb

theorem proved : Rows.CondOwnSaid :=
  OpenClaim.holds_of_wide 9 Try.f9 rfl rfl rfl rfl rfl rfl rfl ⟨rfl, rfl, rfl, rfl, rfl⟩ rfl rfl rfl rfl rfl (by kernel_rfl) Try.func9 (by kernel_rfl)
    (of_decide_eq_true (by kernel_rfl)) (by unfold Func.isWrapper; first | (rw [if_pos (by decide +kernel)]; kernel_rfl) | (rw [if_neg (by decide +kernel)]; exact ⟨rfl, rfl⟩))
    (fun os started H enc _ => lifted os started H enc)
#print axioms proved
end Go.Proofs.Ytbjkijifpikhkaa.condOwn
