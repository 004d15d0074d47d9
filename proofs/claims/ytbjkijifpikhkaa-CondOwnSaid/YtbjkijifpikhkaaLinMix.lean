/-
  Mix of the reference of package lin.
-/
import Derived.Test.YtbjkijifpikhkaaProg
import Derived.Test.YtbjkijifpikhkaaLinKit
import Derived.Test.YtbjkijifpikhkaaLinAt
import Derived.Test.YtbjkijifpikhkaaLinClone
import Derived.Test.YtbjkijifpikhkaaLinPut
import Derived.Test.YtbjkijifpikhkaaLinMake
import Derived.Test.YtbjkijifpikhkaaNumDot
import Derived.Deep.RegionHeld3
import Derived.Deep.Cut
namespace Go.Proofs.Ytbjkijifpikhkaa
open Go.RowKit
set_option linter.unusedVariables false
set_option linter.unusedSimpArgs false

def mixL (n : Nat) (a : Int) (xs : List Int) (b : Int) (ys : List Int) : List Int := (List.range n).map fun j => a * xs[j]?.getD 0 + b * ys[j]?.getD 0
def mixTo (n : Nat) (a : Int) (xs : List Int) (b : Int) (ys : List Int) (i : Nat) : List Int := (List.range n).map fun j => if j < i then a * xs[j]?.getD 0 + b * ys[j]?.getD 0 else 0
/-- Small numbers. -/
def Tame (xs : List Int) : Prop := ∀ j : Nat, -1048576 ≤ xs[j]?.getD 0 ∧ xs[j]?.getD 0 ≤ 1048576

theorem mix_zero (n : Nat) (a : Int) (xs : List Int) (b : Int) (ys : List Int) : mixTo n a xs b ys 0 = zeros n := by
  apply List.ext_getElem (by simp [mixTo, zeros])
  intro j h1 h2
  simp [mixTo, zeros]
theorem mix_step (n : Nat) (a : Int) (xs : List Int) (b : Int) (ys : List Int) (i : Nat) : (mixTo n a xs b ys i).set i (a * xs[i]?.getD 0 + b * ys[i]?.getD 0) = mixTo n a xs b ys (i + 1) := by
  unfold mixTo
  rw [tab_set]
  apply List.map_congr_left
  intro j _
  by_cases e : j = i
  · subst e; simp
  · have : (j < i + 1) ↔ (j < i) := by omega
    simp [e, this]
theorem mix_all (n : Nat) (a : Int) (xs : List Int) (b : Int) (ys : List Int) : mixTo n a xs b ys n = mixL n a xs b ys := by
  apply List.map_congr_left
  intro j hj
  rw [if_pos (List.mem_range.1 hj)]
theorem mix_bd {a b x y : Int} (ha : -1048576 ≤ a ∧ a ≤ 1048576) (hb : -1048576 ≤ b ∧ b ≤ 1048576) (hx : -1048576 ≤ x ∧ x ≤ 1048576) (hy : -1048576 ≤ y ∧ y ≤ 1048576) :
    IntKind.i64.wrap (IntKind.i64.wrap (a * x) + IntKind.i64.wrap (b * y)) = a * x + b * y ∧ -9223372036854775808 ≤ a * x + b * y ∧ a * x + b * y ≤ 9223372036854775807 := by
  have h1 := mul_bd ha hx
  have h2 := mul_bd hb hy
  rw [IntWalk.i64_in (a * x) (by omega), IntWalk.i64_in (b * y) (by omega), IntWalk.i64_in _ (by omega)]
  exact ⟨rfl, by omega, by omega⟩
theorem mix_wf {n : Nat} {a b : Int} {xs ys : List Int} (ha : -1048576 ≤ a ∧ a ≤ 1048576) (hb : -1048576 ≤ b ∧ b ≤ 1048576) (hx : Tame xs) (hy : Tame ys) : ∀ z ∈ mixL n a xs b ys, -9223372036854775808 ≤ z ∧ z ≤ 9223372036854775807 := by
  intro z hz
  obtain ⟨j, _, rfl⟩ := List.mem_map.1 hz
  exact (mix_bd ha hb (hx j) (hy j)).2

set_option maxHeartbeats 4000000 in
set_option maxRecDepth 100000 in
theorem ref_mix_g (a b : Int) (A : Option Addr) (n c : Nat) (K : Int) (xs : List Int) (A' : Option Addr) (n' c' : Nat) (L : Int) (ys : List Int) (w : World) (hI : IntsAt w A n xs) (hI' : IntsAt w A' n' ys) (hnn : n ≤ n')
    (hKL : IntKind.i64.wrap (IntKind.i64.wrap (a * K) + IntKind.i64.wrap (b * L)) = a * K + b * L)
    (hmx : ∀ j : Nat, IntKind.i64.wrap (IntKind.i64.wrap (a * xs[j]?.getD 0) + IntKind.i64.wrap (b * ys[j]?.getD 0)) = a * xs[j]?.getD 0 + b * ys[j]?.getD 0 ∧ -9223372036854775808 ≤ a * xs[j]?.getD 0 + b * ys[j]?.getD 0 ∧ a * xs[j]?.getD 0 + b * ys[j]?.getD 0 ≤ 9223372036854775807) :
    Calls Try.prog 23 #[.int .i64 a, .agg #[.slice A n c, .int .i64 K], .int .i64 b, .agg #[.slice A' n' c', .int .i64 L]] w fun e w' =>
      ∃ g c'', e = .returned (.agg #[.slice (some ⟨g, 0, none⟩) n c'', .int .i64 (a * K + b * L)]) ∧ w.heap.size ≤ g ∧ IntsAt w' (some ⟨g, 0, none⟩) n (mixL n a xs b ys) ∧ OwnRow w' g n (mixL n a xs b ys) ∧ Below w.heap.size w w' := by
  have hsm := hI.small
  have hmk := make_ints n hsm
  have B1 := ((LBox.new w A n c K).alloc (.cells #[.slice A' n' c', .int .i64 L] 24)).alloc (.cells #[.slice none 0 0, .int .i64 0] 24)
  have B2 := (LBox.new (w.alloc (.cells #[.slice A n c, .int .i64 K] 24)) A' n' c' L).alloc (.cells #[.slice none 0 0, .int .i64 0] 24)
  have B3 := LBox.new ((w.alloc (.cells #[.slice A n c, .int .i64 K] 24)).alloc (.cells #[.slice A' n' c', .int .i64 L] 24)) none 0 0 0
  have hB := below_step (below_step (below_alloc w (.cells #[.slice A n c, .int .i64 K] 24)) (below_alloc _ (.cells #[.slice A' n' c', .int .i64 L] 24))) (below_alloc _ (.cells #[.slice none 0 0, .int .i64 0] 24))
  simp only [World.size_alloc] at B2 B3
  have HKL := Lib.hid hKL
  have HMX := Lib.hid hmx
  clear hKL hmx
  go_enter Try.func23, Try.ntmps23
  go_wp2
  obtain ⟨w0, hw0⟩ : ∃ w0, ((w.alloc (.cells #[.slice A n c, .int .i64 K] 24)).alloc (.cells #[.slice A' n' c', .int .i64 L] 24)).alloc (.cells #[.slice none 0 0, .int .i64 0] 24) = w0 := ⟨_, rfl⟩
  rw [hw0] at B1 B2 B3 hB ⊢
  clear hw0
  have hsz : w.heap.size + 1 + 1 < w0.heap.size := B3.lt
  go_cut [9] from 11 (fun v W => ∃ Br g, v = .pointer (some ⟨Br, 0, none⟩) ∧ w.heap.size + 3 ≤ Br ∧ w.heap.size + 3 ≤ g ∧ Br ≠ g ∧ LBox W Br (some ⟨g, 0, none⟩) n n (a * K + b * L) ∧ OwnRow W g n (zeros n) ∧ LBox W w.heap.size A n c K ∧ LBox W (w.heap.size + 1) A' n' c' L ∧ LBox W (w.heap.size + 1 + 1) none 0 0 0 ∧ Below w.heap.size w W)
  case first =>
    have c10 := B1.c0
    have c11 := B1.c1
    have c21 := B2.c1
    have n0 : w0.heap.size ≠ w.heap.size := by omega
    have n1 : w0.heap.size ≠ w.heap.size + 1 := by omega
    have n2 : w0.heap.size + 1 ≠ w.heap.size := by omega
    have n3 : w0.heap.size + 1 ≠ w.heap.size + 1 := by omega
    go_region_held3 (fun W => W.cell? ⟨w.heap.size, 0, none⟩ = some (.slice A n c) ∧ W.cell? ⟨w.heap.size, 1, none⟩ = some (.int .i64 K) ∧ W.cell? ⟨w.heap.size + 1, 1, none⟩ = some (.int .i64 L)) (go_keep) (fail)
    · clear c10 c11 c21 n0 n1 n2 n3
      rw [HKL.out]
      have f1 := LBox.new (w0.alloc (.cells ((zeros n).map (Value.int .i64)).toArray 3)) (some ⟨w0.heap.size, 0, none⟩) n n (a * K + b * L)
      rw [World.size_alloc] at f1
      have f2 := (OwnRow.new w0 (zeros n) n (zeros_len n)).step (below_alloc _ (.cells #[.slice (some ⟨w0.heap.size, 0, none⟩) n n, .int .i64 (a * K + b * L)] 24))
      have hW := (below_step (below_alloc w0 (.cells ((zeros n).map (Value.int .i64)).toArray 3)) (below_alloc _ (.cells #[.slice (some ⟨w0.heap.size, 0, none⟩) n n, .int .i64 (a * K + b * L)] 24))).drew
      go_wp2
      go_meet
      case rel => exact ⟨w0.heap.size + 1, w0.heap.size, rfl, by omega, by omega, by omega, f1, f2, B1.step hW, B2.step hW, B3.step hW, below_step hB hW⟩
    · clear c10 c11 c21 n0 n1 n2 n3
      rw [HKL.out]
      have f1 := (LBox.new w0 (some ⟨w0.heap.size + 1, 0, none⟩) n n (a * K + b * L)).alloc (.cells ((zeros n).map (Value.int .i64)).toArray 3)
      have f2 := OwnRow.new (w0.alloc (.cells #[.slice (some ⟨w0.heap.size + 1, 0, none⟩) n n, .int .i64 (a * K + b * L)] 24)) (zeros n) n (zeros_len n)
      rw [World.size_alloc] at f2
      have hW := (below_step (below_alloc w0 (.cells #[.slice (some ⟨w0.heap.size + 1, 0, none⟩) n n, .int .i64 (a * K + b * L)] 24)) (below_alloc _ (.cells ((zeros n).map (Value.int .i64)).toArray 3))).drew
      go_wp2
      go_meet
      case rel => exact ⟨w0.heap.size, w0.heap.size + 1, rfl, by omega, by omega, by omega, f1, f2, B1.step hW, B2.step hW, B3.step hW, below_step hB hW⟩
  case rest =>
    obtain ⟨Br, g, rfl, hBr, hg, hne, R9, hrow, S1, S2, S3, hBw⟩ := hcut
    clear B1 B2 B3 hB hmk
    have c10 := S1.c0
    go_wp2
    go_loopw [28] (fun v wr => ∃ i : Nat, i ≤ n ∧ v = .int .i64 i ∧ LBox wr Br (some ⟨g, 0, none⟩) n n (a * K + b * L) ∧ OwnRow wr g n (mixTo n a xs b ys i) ∧ LBox wr w.heap.size A n c K ∧ LBox wr (w.heap.size + 1) A' n' c' L ∧ LBox wr (w.heap.size + 1 + 1) none 0 0 0 ∧ Below w.heap.size w wr) (fun v _ => n - (intOf v).toNat)
    case atStart => exact ⟨0, Nat.zero_le _, rfl, R9, by rw [mix_zero]; exact hrow, S1, S2, S3, hBw⟩
    case round =>
      obtain ⟨i, hi, rfl, R9, hrow, S1, S2, S3, hBw⟩ := hrel
      by_cases hlt : i < n
      · obtain ⟨bl, off, rfl, hbl, hc⟩ := hI.cells (by omega)
        obtain ⟨bl', off', rfl, hbl', hc'⟩ := hI'.cells (by omega)
        have hcell := (hBw.cell (p := ⟨bl, off + i, none⟩) hbl).trans (hc i hlt)
        have hcell' := (hBw.cell (p := ⟨bl', off' + i, none⟩) hbl').trans (hc' i (by omega))
        have c10 := S1.c0
        have c20 := S2.c0
        have c90 := R9.c0
        have hfr := hrow.free i
        have hcr := hrow.cell hlt
        have hm := Lib.hid (HMX.out i).1
        have q1 : (i : Int) < n := by omega
        have q2 : (i : Int) < n' := by omega
        have n0 : g ≠ w.heap.size := by omega
        have n1 : g ≠ w.heap.size + 1 := by omega
        have n2 : g ≠ Br := Ne.symm hne
        have n3 : g ≠ bl := by omega
        have n4 : g ≠ bl' := by omega
        clear hc hc'
        go_wp2
        go_region_held3 (fun W => W.cell? ⟨Br, 0, none⟩ = some (.slice (some ⟨g, 0, none⟩) n n) ∧ W.cell? ⟨w.heap.size, 0, none⟩ = some (.slice (some ⟨bl, off, none⟩) n c) ∧ W.cell? ⟨w.heap.size + 1, 0, none⟩ = some (.slice (some ⟨bl', off', none⟩) n' c') ∧ W.cell? ⟨bl, off + i, none⟩ = some (.int .i64 (xs[i]?.getD 0)) ∧ W.cell? ⟨bl', off' + i, none⟩ = some (.int .i64 (ys[i]?.getD 0))) (go_keep) (fail)
        clear n0 n1 n2 n3 n4 c10 c20 c90 hcell hcell' hcr hfr
        rw [hm.out]
        have f2 := hrow.set hlt (a * xs[i]?.getD 0 + b * ys[i]?.getD 0)
        rw [mix_step] at f2
        have f0 := R9.other (a := ⟨g, i, none⟩) hne (.int .i64 (a * xs[i]?.getD 0 + b * ys[i]?.getD 0))
        have f3 := S1.other (a := ⟨g, i, none⟩) (show w.heap.size ≠ g by omega) (.int .i64 (a * xs[i]?.getD 0 + b * ys[i]?.getD 0))
        have f4 := S2.other (a := ⟨g, i, none⟩) (show w.heap.size + 1 ≠ g by omega) (.int .i64 (a * xs[i]?.getD 0 + b * ys[i]?.getD 0))
        have f5 := S3.other (a := ⟨g, i, none⟩) (show w.heap.size + 1 + 1 ≠ g by omega) (.int .i64 (a * xs[i]?.getD 0 + b * ys[i]?.getD 0))
        have f6 := (hBw.setCell (p := ⟨g, i, none⟩) (show w.heap.size ≤ g by omega) (.int .i64 (a * xs[i]?.getD 0 + b * ys[i]?.getD 0))).drew
        clear R9 hrow S1 S2 S3 hBw hm
        go_wp2
        go_roundw
        case rel => exact ⟨i + 1, by omega, by go_num, f0, f2, f3, f4, f5, f6⟩
        case measure => simp [intOf]; omega
      · obtain rfl : i = n := by omega
        rw [mix_all] at hrow
        have c90 := R9.c0
        have c91 := R9.c1
        have c30 := S3.c0
        have c31 := S3.c1
        have f30 := S3.f 0
        have f31 := S3.f 1
        have c40 := S3.s0 (.slice (some ⟨g, 0, none⟩) i i)
        have c41 := (S3.store (some ⟨g, 0, none⟩) i i (a * K + b * L)).c1
        go_wp2
        refine bodyPost_ret (v := .agg #[.slice (some ⟨g, 0, none⟩) i i, .int .i64 (a * K + b * L)]) (by simp [results, Try.results23, go_sem, c40, c41]) rfl ?_
        exact ⟨_, _, rfl, by omega, ints_store2 (hrow.ints hsm (fun z hz => by obtain ⟨j, _, rfl⟩ := List.mem_map.1 hz; exact (HMX.out j).2)) rfl (by omega) _ _, hrow.store2 (by omega) _ _, below_store2 hBw (by omega) _ _⟩

theorem ref_mix_o (a b : Int) (A : Option Addr) (n c : Nat) (K : Int) (xs : List Int) (A' : Option Addr) (n' c' : Nat) (L : Int) (ys : List Int) (w : World) (hI : IntsAt w A n xs) (hI' : IntsAt w A' n' ys) (hnn : n ≤ n')
    (ha : -1048576 ≤ a ∧ a ≤ 1048576) (hb : -1048576 ≤ b ∧ b ≤ 1048576) (hK : -1048576 ≤ K ∧ K ≤ 1048576) (hL : -1048576 ≤ L ∧ L ≤ 1048576) (hx : Tame xs) (hy : Tame ys) :
    Calls Try.prog 23 #[.int .i64 a, .agg #[.slice A n c, .int .i64 K], .int .i64 b, .agg #[.slice A' n' c', .int .i64 L]] w fun e w' =>
      ∃ g c'', e = .returned (.agg #[.slice (some ⟨g, 0, none⟩) n c'', .int .i64 (a * K + b * L)]) ∧ w.heap.size ≤ g ∧ IntsAt w' (some ⟨g, 0, none⟩) n (mixL n a xs b ys) ∧ OwnRow w' g n (mixL n a xs b ys) ∧ Below w.heap.size w w' :=
  ref_mix_g a b A n c K xs A' n' c' L ys w hI hI' hnn (mix_bd ha hb hK hL).1 (fun j => mix_bd ha hb (hx j) (hy j))

/-- Mix as a copy. -/
theorem ref_mix_copy (A : Option Addr) (n c : Nat) (K : Int) (xs : List Int) (hK : -9223372036854775808 ≤ K ∧ K ≤ 9223372036854775807) (w : World) (hI : IntsAt w A n xs) :
    Calls Try.prog 23 #[.int .i64 1, .agg #[.slice A n c, .int .i64 K], .int .i64 0, .agg #[.slice A n c, .int .i64 K]] w fun e w' =>
      ∃ g c'', e = .returned (.agg #[.slice (some ⟨g, 0, none⟩) n c'', .int .i64 K]) ∧ w.heap.size ≤ g ∧ IntsAt w' (some ⟨g, 0, none⟩) n xs ∧ OwnRow w' g n xs ∧ Below w.heap.size w w' := by
  have key : ∀ x : Int, -9223372036854775808 ≤ x ∧ x ≤ 9223372036854775807 → IntKind.i64.wrap (IntKind.i64.wrap (1 * x) + IntKind.i64.wrap (0 * x)) = 1 * x + 0 * x ∧ -9223372036854775808 ≤ 1 * x + 0 * x ∧ 1 * x + 0 * x ≤ 9223372036854775807 := by
    intro x hx
    rw [Int.one_mul, Int.zero_mul, Int.add_zero]
    have h0 : IntKind.i64.wrap 0 = 0 := rfl
    have h1 : IntKind.i64.wrap x = x := IntWalk.i64_in _ (by omega)
    rw [h0, h1, Int.add_zero, h1]
    exact ⟨rfl, hx⟩
  have h := ref_mix_g 1 0 A n c K xs A n c K xs w hI hI (Nat.le_refl _) (key K hK).1 (fun j => key _ (hI.rng j))
  have e : mixL n 1 xs 0 xs = xs := by
    apply List.ext_getElem (by simp [mixL, hI.len])
    intro j h1 h2
    simp [mixL, h2]
  rw [e, Int.one_mul, Int.zero_mul, Int.add_zero] at h
  exact h

theorem ref_mix (a b : Int) (A : Option Addr) (n c : Nat) (K : Int) (xs : List Int) (A' : Option Addr) (n' c' : Nat) (L : Int) (ys : List Int) (w : World) (hI : IntsAt w A n xs) (hI' : IntsAt w A' n' ys) (hnn : n ≤ n')
    (ha : -1048576 ≤ a ∧ a ≤ 1048576) (hb : -1048576 ≤ b ∧ b ≤ 1048576) (hK : -1048576 ≤ K ∧ K ≤ 1048576) (hL : -1048576 ≤ L ∧ L ≤ 1048576) (hx : Tame xs) (hy : Tame ys) :
    Calls Try.prog 23 #[.int .i64 a, .agg #[.slice A n c, .int .i64 K], .int .i64 b, .agg #[.slice A' n' c', .int .i64 L]] w fun e w' =>
      ∃ g c'', e = .returned (.agg #[.slice (some ⟨g, 0, none⟩) n c'', .int .i64 (a * K + b * L)]) ∧ w.heap.size ≤ g ∧ IntsAt w' (some ⟨g, 0, none⟩) n (mixL n a xs b ys) ∧ Below w.heap.size w w' :=
  (ref_mix_o a b A n c K xs A' n' c' L ys w hI hI' hnn ha hb hK hL hx hy).mono (by rintro e w' ⟨g, c'', h1, h2, h3, _, h4⟩; exact ⟨g, c'', h1, h2, h3, h4⟩)
end Go.Proofs.Ytbjkijifpikhkaa
