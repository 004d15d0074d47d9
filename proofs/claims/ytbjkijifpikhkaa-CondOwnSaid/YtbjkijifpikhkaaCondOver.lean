/-
  The reference of layer 3: over.
-/
import Derived.Test.YtbjkijifpikhkaaProg
import Derived.Test.YtbjkijifpikhkaaKit
import Derived.Test.YtbjkijifpikhkaaLinKit
import Derived.Test.YtbjkijifpikhkaaLinClone
import Derived.Test.YtbjkijifpikhkaaLinPut
import Derived.Test.YtbjkijifpikhkaaLinMake
import Derived.Test.YtbjkijifpikhkaaCondKit
import Derived.Test.YtbjkijifpikhkaaWideBase
import Derived.Deep.RegionHeld3
namespace Go.Proofs.Ytbjkijifpikhkaa
open Go.RowKit
set_option linter.unusedVariables false
set_option linter.unusedSimpArgs false

set_option maxHeartbeats 4000000 in
theorem ref_over (A : Option Addr) (n c : Nat) (K : Int) (xs : List Int) (b k : Int) (hb : b ≠ 0) (hbw : -4611686018427387904 ≤ b ∧ b ≤ 4611686018427387904) (hx : ∀ x ∈ xs, -4611686018427387904 ≤ x ∧ x ≤ 4611686018427387904) (w : World) (hI : IntsAt w A n xs) :
    Calls Try.prog 50 #[.agg #[.slice A n c, .int .i64 K], .int .i64 b, .int .i64 k] w fun e w' =>
      ∃ g, e = .returned (.agg #[.slice (some ⟨g, 0, none⟩) n n, .int .i64 k]) ∧ w.heap.size ≤ g ∧ OwnRow w' g n (quoL n xs b) ∧ Below w.heap.size w w' := by
  have hsm := hI.small
  have hmk := make_ints n hsm
  have b1 := below_alloc w (.cells #[.slice A n c, .int .i64 K] 24)
  have b2 := below_step b1 (below_alloc _ (.cells #[.slice none 0 0, .int .i64 0] 24))
  have b3 := below_step b2 (below_alloc _ (.cells ((zeros n).map (Value.int .i64)).toArray 3))
  have hB := below_step b3 (below_alloc _ (.cells #[.slice (some ⟨w.heap.size + 1 + 1, 0, none⟩) n n, .int .i64 k] 24))
  have B1 := (((LBox.new w A n c K).alloc (.cells #[.slice none 0 0, .int .i64 0] 24)).alloc (.cells ((zeros n).map (Value.int .i64)).toArray 3)).alloc (.cells #[.slice (some ⟨w.heap.size + 1 + 1, 0, none⟩) n n, .int .i64 k] 24)
  have B2 := ((LBox.new (w.alloc (.cells #[.slice A n c, .int .i64 K] 24)) none 0 0 0).alloc (.cells ((zeros n).map (Value.int .i64)).toArray 3)).alloc (.cells #[.slice (some ⟨w.heap.size + 1 + 1, 0, none⟩) n n, .int .i64 k] 24)
  have R := (OwnRow.new ((w.alloc (.cells #[.slice A n c, .int .i64 K] 24)).alloc (.cells #[.slice none 0 0, .int .i64 0] 24)) (zeros n) n (zeros_len n)).step (below_alloc _ (.cells #[.slice (some ⟨w.heap.size + 1 + 1, 0, none⟩) n n, .int .i64 k] 24))
  have B4 := LBox.new (((w.alloc (.cells #[.slice A n c, .int .i64 K] 24)).alloc (.cells #[.slice none 0 0, .int .i64 0] 24)).alloc (.cells ((zeros n).map (Value.int .i64)).toArray 3)) (some ⟨w.heap.size + 1 + 1, 0, none⟩) n n k
  simp only [World.size_alloc] at B2 R B4
  have HX := Lib.hid hx
  have q0 : (b == 0) = false := by simpa using hb
  clear hx b1 b2 b3
  go_enter Try.func50, Try.ntmps50
  go_wp2
  go_loopw [19] (fun v wr => ∃ i : Nat, i ≤ n ∧ v = .int .i64 i ∧ LBox wr w.heap.size A n c K ∧ LBox wr (w.heap.size + 1) none 0 0 0 ∧ OwnRow wr (w.heap.size + 1 + 1) n (quoTo n xs b i) ∧ LBox wr (w.heap.size + 1 + 1 + 1) (some ⟨w.heap.size + 1 + 1, 0, none⟩) n n k ∧ Below w.heap.size w wr) (fun v _ => n - (intOf v).toNat)
  case atStart => exact ⟨0, Nat.zero_le _, rfl, B1, B2, by rw [quo_zero]; exact R, B4, hB⟩
  case round =>
    obtain ⟨i, hi, rfl, S1, S2, hrow, S4, hBw⟩ := hrel
    clear R B1 B2 B4 hB hmk
    by_cases hlt : i < n
    · have hr := HX.out _ (hI.mem hlt)
      obtain ⟨bl, off, rfl, hbl, hc⟩ := hI.cells (by omega)
      have hcell := (hBw.cell (p := ⟨bl, off + i, none⟩) hbl).trans (hc i hlt)
      have hfr := hrow.free i
      have hcr := hrow.cell hlt
      have c40 := S4.c0
      have q1 : (i : Int) < n := by omega
      have f2 := (hrow.set hlt ((xs[i]?.getD 0).tdiv b))
      rw [quo_step] at f2
      have f1 := S1.other (a := ⟨w.heap.size + 1 + 1, i, none⟩) (show w.heap.size ≠ w.heap.size + 1 + 1 by omega) (.int .i64 ((xs[i]?.getD 0).tdiv b))
      have f3 := S2.other (a := ⟨w.heap.size + 1 + 1, i, none⟩) (show w.heap.size + 1 ≠ w.heap.size + 1 + 1 by omega) (.int .i64 ((xs[i]?.getD 0).tdiv b))
      have f4 := S4.other (a := ⟨w.heap.size + 1 + 1, i, none⟩) (show w.heap.size + 1 + 1 + 1 ≠ w.heap.size + 1 + 1 by omega) (.int .i64 ((xs[i]?.getD 0).tdiv b))
      have f5 := (hBw.setCell (p := ⟨w.heap.size + 1 + 1, i, none⟩) (show w.heap.size ≤ w.heap.size + 1 + 1 by omega) (.int .i64 ((xs[i]?.getD 0).tdiv b))).drew
      have n3 : w.heap.size + 1 + 1 ≠ bl := by omega
      have n4 : w.heap.size + 1 + 1 ≠ w.heap.size + 1 + 1 + 1 := by omega
      have FF := Lib.hid (And.intro f1 (And.intro f2 (And.intro f3 (And.intro f4 f5))))
      generalize xs[i]?.getD 0 = x at *
      have hq := tdiv_bd x b hb
      have hw : IntKind.i64.wrap (x.tdiv b) = x.tdiv b := IntWalk.i64_in _ (by omega)
      clear hc hq f1 f2 f3 f4 f5 S1 S2 hrow S4 hBw
      go_wp2
      go_region_held3 (fun W => W.cell? ⟨w.heap.size + 1 + 1 + 1, 0, none⟩ = some (.slice (some ⟨w.heap.size + 1 + 1, 0, none⟩) n n)) (go_keep) (fail)
      go_wp2
      go_roundw
      case rel => exact ⟨i + 1, by omega, by go_num, FF.out.1, FF.out.2.2.1, FF.out.2.1, FF.out.2.2.2.1, FF.out.2.2.2.2⟩
      case measure => simp [intOf]; omega
    · obtain rfl : i = n := by omega
      rw [quo_all] at hrow
      have hge : ¬ ((i : Int) < i) := by omega
      have c90 := S4.c0
      have c91 := S4.c1
      have c30 := S2.c0
      have c31 := S2.c1
      have f30 := S2.f 0
      have f31 := S2.f 1
      have c40 := S2.s0 (.slice (some ⟨w.heap.size + 1 + 1, 0, none⟩) i i)
      have c41 := (S2.store (some ⟨w.heap.size + 1 + 1, 0, none⟩) i i k).c1
      have O := hrow.store2 (b := w.heap.size + 1) (by omega) (.slice (some ⟨w.heap.size + 1 + 1, 0, none⟩) i i) (.int .i64 k)
      have hEnd := below_store2 hBw (b := w.heap.size + 1) (by omega) (.slice (some ⟨w.heap.size + 1 + 1, 0, none⟩) i i) (.int .i64 k)
      clear hBw hrow S1 S2 S4
      go_wp2
      refine bodyPost_ret (v := .agg #[.slice (some ⟨w.heap.size + 1 + 1, 0, none⟩) i i, .int .i64 k]) (by simp [results, Try.results50, go_sem, c40, c41]) rfl ?_
      exact ⟨_, rfl, by omega, O, hEnd⟩
end Go.Proofs.Ytbjkijifpikhkaa
