/-
  The reference of layer 3: Made at the kind Div.
-/
import Derived.Test.YtbjkijifpikhkaaCondMade
import Derived.Test.YtbjkijifpikhkaaWideDiv
import Derived.Test.YtbjkijifpikhkaaRegInv
import Derived.Test.YtbjkijifpikhkaaAppendInts
import Derived.Deep.RegionHeld3
import Derived.Deep.Cut
namespace Go.Proofs.Ytbjkijifpikhkaa
open Go.RowKit
set_option linter.unusedVariables false
set_option linter.unusedSimpArgs false

theorem keep4 {W : World} {bl : Nat} {u v x y z : Value} {a : Addr} (h : W.cell? a = some z) (ha : a.block ≠ bl) : ((((W.setCell ⟨bl, 0, none⟩ u).setCell ⟨bl, 1, none⟩ v).setCell ⟨bl, 2, none⟩ x).setCell ⟨bl, 3, none⟩ y).cell? a = some z := by
  rw [← h]
  exact World.cell?_of_block (by rw [Below.heap_setCell _ _ _ _ ha, Below.heap_setCell _ _ _ _ ha, Below.heap_setCell _ _ _ _ ha, Below.heap_setCell _ _ _ _ ha])

theorem LBox.s1 {w : World} {b : Nat} {A : Option Addr} {n c : Nat} {K : Int} (h : LBox w b A n c K) (v : Int) : LBox (w.setCell ⟨b, 1, none⟩ (.int .i64 v)) b A n c v := by
  unfold LBox at *; show (Array.modify _ b _)[b]? = _; rw [Array.getElem?_modify, if_pos rfl, h]; rfl

/-- The remainders of the first i elements, zeros behind. -/
def modTo (n : Nat) (xs : List Int) (M : Int) (i : Nat) : List Int := (List.range n).map fun j => if j < i then xs[j]?.getD 0 % M else 0
def modL (n : Nat) (xs : List Int) (M : Int) : List Int := (List.range n).map fun j => xs[j]?.getD 0 % M
theorem mod_zero (n : Nat) (xs : List Int) (M : Int) : modTo n xs M 0 = zeros n := by
  apply List.ext_getElem (by simp [modTo, zeros])
  intro j h1 h2
  simp [modTo, zeros]
theorem mod_step (n : Nat) (xs : List Int) (M : Int) (i : Nat) : (modTo n xs M i).set i (xs[i]?.getD 0 % M) = modTo n xs M (i + 1) := by
  unfold modTo
  rw [tab_set]
  apply List.map_congr_left
  intro j _
  by_cases e : j = i
  · subst e; simp
  · have : (j < i + 1) ↔ (j < i) := by omega
    simp [e, this]
theorem mod_all (n : Nat) (xs : List Int) (M : Int) : modTo n xs M n = modL n xs M := by
  apply List.map_congr_left
  intro j hj
  rw [if_pos (List.mem_range.1 hj)]
theorem modL_bd {n : Nat} {xs : List Int} {M : Int} (hM : 1 ≤ M ∧ M ≤ 512) : ∀ x ∈ modL n xs M, 0 ≤ x ∧ x < 512 := by
  intro z hz
  obtain ⟨j, _, rfl⟩ := List.mem_map.1 hz
  have m0 := Int.emod_nonneg (xs[j]?.getD 0) (show M ≠ 0 by omega)
  have m1 := Int.emod_lt_of_pos (xs[j]?.getD 0) (show 0 < M by omega)
  omega
theorem modL_len (n : Nat) (xs : List Int) (M : Int) : (modL n xs M).length = n := by simp [modL]
theorem quo_modL (n : Nat) (xs : List Int) (M h : Int) (hM : 1 ≤ M) : quoL n (modL n xs M) h = remL n xs M h := by
  apply List.map_congr_left
  intro j hj
  unfold modL
  rw [tab_get _ (List.mem_range.1 hj), Int.tdiv_eq_ediv_of_nonneg (Int.emod_nonneg _ (by omega))]
theorem dvd_mod {d : Nat} {x M : Int} (h1 : d ∣ M.natAbs) : d ∣ (x % M).natAbs ↔ d ∣ x.natAbs := by
  rw [← Int.ofNat_dvd_left, ← Int.ofNat_dvd_left]
  rw [← Int.ofNat_dvd_left] at h1
  obtain ⟨q, hq⟩ := h1
  have hd := Int.mul_ediv_add_emod x M
  generalize x / M = y at hd
  constructor
  · rintro ⟨t, ht⟩
    refine ⟨q * y + t, ?_⟩
    rw [← hd, ht, hq, Int.mul_add, Int.mul_assoc]
  · rintro ⟨t, ht⟩
    refine ⟨t - q * y, ?_⟩
    rw [Int.mul_sub, ← ht, ← Int.mul_assoc, ← hq]
    omega
theorem gcdA_rem {n : Nat} {xs : List Int} (hn : xs.length = n) {M : Int} : gcdA 0 (modL n xs M ++ [M]) = gcdA M.natAbs xs := by
  obtain ⟨a1, a2, a3⟩ := gcd_fold (modL n xs M ++ [M]) 0
  obtain ⟨b1, b2, b3⟩ := gcd_fold xs M.natAbs
  have hmem : ∀ y ∈ modL n xs M, ∃ x ∈ xs, y = x % M := by
    intro y hy
    obtain ⟨j, hj, rfl⟩ := List.mem_map.1 hy
    exact ⟨_, getD_mem (by rw [hn]; exact List.mem_range.1 hj), rfl⟩
  have hmem2 : ∀ x ∈ xs, x % M ∈ modL n xs M := by
    intro x hx
    obtain ⟨j, hj, rfl⟩ := List.getElem_of_mem hx
    exact List.mem_map.2 ⟨j, List.mem_range.2 (by omega), by simp [hj]⟩
  have hM : gcdA 0 (modL n xs M ++ [M]) ∣ M.natAbs := a2 M (by simp)
  apply Nat.dvd_antisymm
  · exact b3 _ hM fun x hx => (dvd_mod hM).1 (a2 _ (List.mem_append_left _ (hmem2 x hx)))
  · refine a3 _ (Nat.dvd_zero _) fun y hy => ?_
    rcases List.mem_append.1 hy with h | h
    · obtain ⟨x, hx, rfl⟩ := hmem y h
      exact (dvd_mod b1).2 (b2 x hx)
    · rw [List.mem_singleton.1 h]; exact b1

/-- The facts of the greatest common divisor's region. -/
def dvFacts (n : Nat) (b1 b2 : Nat) (A : Option Addr) (c : Nat) (M : Int) (rs : List Int) (h : Int) (B : Nat) : Nat → Fact B
  | 0 => .own 3 0 []
  | 1 => .val (.pointer (some ⟨b2, 0, none⟩))
  | 2 => .val (.slice A n c)
  | 3 => .own 3 (0 + n) ([] ++ vals rs)
  | 4 => .val (.pointer (some ⟨b1, 1, none⟩))
  | 5 => .val (.int .i64 M)
  | 6 => .own 3 1 (vals [M])
  | 7 => .own 3 ((0 + n) + 1) (([] ++ vals rs) ++ vals [M])
  | 8 => .val (.tuple #[.int .i64 h, .int .i64 0])
  | 9 => .val (.tuple #[.int .i64 h, .int .i64 0])
  | 10 => .val (.int .i64 h)
  | 11 => .val (.int .i64 0)
  | 12 => .val (.int .i64 h)
  | 13 => .val (.int .i64 0)
  | _ => .any

def dvPlan : Plan where
  slots := [132, 133, 134, 135, 136, 137, 138, 139, 140, 131, 141, 142, 13, 14]
  kill := [[], [], [], [0], [], [], [], [3], [], [], [], [], [], []]
  need := [[], [], [1], [0, 2], [], [4], [5], [3, 6], [7], [8], [9], [9], [10], [11]]

set_option maxHeartbeats 8000000 in
set_option maxRecDepth 100000 in
theorem made_dv (M : Int) (A : Option Addr) (n c : Nat) (hn12 : n ≤ 1000000) (K : Int) (xs : List Int) (hM : 1 ≤ M ∧ M ≤ 512) (hK : -4611686018427387904 ≤ K ∧ K ≤ 4611686018427387904) (hx : ∀ x ∈ xs, -4611686018427387904 ≤ x ∧ x ≤ 4611686018427387904) (w : World) (hI : IntsAt w A n xs) :
    Calls Try.prog 30 #[condV 2 M A n c K] w fun e w' => NfRet w e w' (nf 2 M n xs K) := by
  have hsm := hI.small
  have hmk := make_ints n hsm
  have hB := below_step (below_alloc w (.cells #[.int .i64 2, .int .i64 M, .slice A n c, .int .i64 K] 26)) (below_alloc _ (.cells #[.int .i64 0, .int .i64 0, .slice none 0 0, .int .i64 0] 26))
  have h1 := hI.step hB
  have B1 := (CBox.new w 2 M A n c K).step (below_alloc _ (.cells #[.int .i64 0, .int .i64 0, .slice none 0 0, .int .i64 0] 26))
  have B2 := CBox.new (w.alloc (.cells #[.int .i64 2, .int .i64 M, .slice A n c, .int .i64 K] 26)) 0 0 none 0 0 0
  rw [World.size_alloc] at B2
  have c0 := B1.c0
  have c2 := B1.c2
  obtain ⟨G, hG⟩ : ∃ G, gcdA 0 xs = G := ⟨_, rfl⟩
  have HG := Lib.hid (fun W (h : IntsAt W A n xs) => ref_gcdA W A n c xs hx h)
  rw [hG] at HG
  obtain ⟨r, hr⟩ : ∃ r, nf 2 M n xs K = r := ⟨_, rfl⟩
  have HR := Lib.hid hr
  obtain ⟨h, hh⟩ : ∃ h : Nat, gcdA M.natAbs xs = h := ⟨_, rfl⟩
  have hhM := gcdA_le (xs := xs) (show 0 < M.natAbs by omega)
  rw [hh] at hhM
  have HH := Lib.hid hh
  have HX := Lib.hid hx
  have HL := Lib.hid hI.len
  obtain ⟨k, hk⟩ : ∃ k, K % M = k := ⟨_, rfl⟩
  have hk0 := Int.emod_nonneg K (show M ≠ 0 by omega)
  have hk1 := Int.emod_lt_of_pos K (show 0 < M by omega)
  rw [hk] at hk0 hk1
  have HKM := Lib.hid hk
  rw [hr]
  clear hr hh hG hx hk hI
  go_enter Try.func30, Try.ntmps30
  go_wp2_with (go_at_call 47; refine (HG.out _ h1).mono ?_; rintro e w1 ⟨rfl, hb⟩; replace hB := below_step hB hb; replace h1 := h1.step hb; replace B1 := B1.step hb; replace B2 := B2.step hb; have Y1 := (B1.alloc (.cells ((zeros n).map (Value.int .i64)).toArray 3)).alloc (.cells #[.slice (some ⟨w1.heap.size, 0, none⟩) n n, .int .i64 0] 24); have c0 := B1.c0; have c2 := B1.c2; have y2 := Y1.c2)
  have Y2 := (B2.alloc (.cells ((zeros n).map (Value.int .i64)).toArray 3)).alloc (.cells #[.slice (some ⟨w1.heap.size, 0, none⟩) n n, .int .i64 0] 24)
  have YR := (OwnRow.new w1 (zeros n) n (zeros_len n)).step (below_alloc _ (.cells #[.slice (some ⟨w1.heap.size, 0, none⟩) n n, .int .i64 0] 24))
  have YL := LBox.new (w1.alloc (.cells ((zeros n).map (Value.int .i64)).toArray 3)) (some ⟨w1.heap.size, 0, none⟩) n n 0
  have YB := below_step (below_alloc w1 (.cells ((zeros n).map (Value.int .i64)).toArray 3)) (below_alloc _ (.cells #[.slice (some ⟨w1.heap.size, 0, none⟩) n n, .int .i64 0] 24))
  rw [World.size_alloc] at YL
  have l1 := B1.lt
  have l2 := B2.lt
  clear c0 c2 y2 hmk hb
  go_loopw [104] (fun v wr => ∃ i : Nat, i ≤ n ∧ v = .int .i64 i ∧ CBox wr w.heap.size 2 M A n c K ∧ CBox wr (w.heap.size + 1) 0 0 none 0 0 0 ∧ OwnRow wr w1.heap.size n (modTo n xs M i) ∧ LBox wr (w1.heap.size + 1) (some ⟨w1.heap.size, 0, none⟩) n n 0 ∧ Below w1.heap.size w1 wr) (fun v _ => n - (intOf v).toNat)
  case atStart => exact ⟨0, Nat.zero_le _, rfl, Y1, Y2, by rw [mod_zero]; exact YR, YL, YB⟩
  clear Y1 Y2 YR YL YB
  case round =>
    obtain ⟨i, hi, rfl, S1, S2, hrow, S4, hBw⟩ := hrel
    by_cases hlt : i < n
    · have hr := HX.out _ (h1.mem hlt)
      obtain ⟨bl, off, rfl, hbl, hc⟩ := h1.cells (by omega)
      have hcell := (hBw.cell (p := ⟨bl, off + i, none⟩) hbl).trans (hc i hlt)
      have hfr := hrow.free i
      have hcr := hrow.cell hlt
      have c40 := S4.c0
      have c11 := S1.c1
      have q1 : (i : Int) < n := by omega
      have f2 := (hrow.set hlt (xs[i]?.getD 0 % M))
      rw [mod_step] at f2
      have n3 : w1.heap.size ≠ bl := by omega
      have n4 : w1.heap.size ≠ w1.heap.size + 1 := by omega
      have n5 : w1.heap.size ≠ w.heap.size := by omega
      have n6 : w1.heap.size ≠ w.heap.size + 1 := by omega
      have f1 := S1.step' (a := ⟨w1.heap.size, i, none⟩) (show w.heap.size ≠ w1.heap.size by omega) (.int .i64 (xs[i]?.getD 0 % M))
      have f3 := S2.step' (a := ⟨w1.heap.size, i, none⟩) (show w.heap.size + 1 ≠ w1.heap.size by omega) (.int .i64 (xs[i]?.getD 0 % M))
      have f4 := S4.other (a := ⟨w1.heap.size, i, none⟩) (show w1.heap.size + 1 ≠ w1.heap.size by omega) (.int .i64 (xs[i]?.getD 0 % M))
      have f5 := (hBw.setCell (p := ⟨w1.heap.size, i, none⟩) (Nat.le_refl _) (.int .i64 (xs[i]?.getD 0 % M))).drew
      have FF := Lib.hid (And.intro f1 (And.intro f2 (And.intro f3 (And.intro f4 f5))))
      generalize xs[i]?.getD 0 = x at *
      clear hc f1 f2 f3 f4 f5 S1 S2 hrow S4
      go_wp2
      go_region_held3 (fun W => W.cell? ⟨w1.heap.size + 1, 0, none⟩ = some (.slice (some ⟨w1.heap.size, 0, none⟩) n n) ∧ W.cell? ⟨w.heap.size, 1, none⟩ = some (.int .i64 M)) (go_keep)
        (first
          | (go_at_call 51; refine (headlandref01_mod _ _ (by omega) (by omega) (by omega) hM.1 _).mono ?_; rintro e w' ⟨rfl, rfl⟩))
      go_wp2
      go_roundw
      case rel => exact ⟨i + 1, by omega, by go_num, FF.out.1, FF.out.2.2.1, FF.out.2.1, FF.out.2.2.2.1, FF.out.2.2.2.2⟩
      case measure => simp [intOf]; omega
    · obtain rfl : i = n := by omega
      rw [mod_all] at hrow
      have hge : ¬ ((i : Int) < i) := by omega
      replace hB := below_step hB hBw
      replace h1 := h1.step hBw
      have c11 := S1.c1
      have c13 := S1.c3
      have f41 := S4.f 1
      have c41 := S4.c1
      have T4 := S4.s1 k
      have T1 := S1.step' (a := ⟨w1.heap.size + 1, 1, none⟩) (show w.heap.size ≠ w1.heap.size + 1 by omega) (.int .i64 k)
      have T2 := S2.step' (a := ⟨w1.heap.size + 1, 1, none⟩) (show w.heap.size + 1 ≠ w1.heap.size + 1 by omega) (.int .i64 k)
      have T3 := hrow.other (a := ⟨w1.heap.size + 1, 1, none⟩) (show w1.heap.size ≠ w1.heap.size + 1 by omega) (.int .i64 k)
      have hW := hBw.setCell (p := ⟨w1.heap.size + 1, 1, none⟩) (show w1.heap.size ≤ w1.heap.size + 1 by omega) (.int .i64 k)
      have hB2 := hB.setCell (p := ⟨w1.heap.size + 1, 1, none⟩) (show w.heap.size ≤ w1.heap.size + 1 by omega) (.int .i64 k)
      go_wp2_with (go_at_call 51; refine (headlandref01_mod _ _ (by omega) (by omega) (by omega) hM.1 _).mono ?_; rintro e w' ⟨rfl, rfl⟩; rw [HKM.out])
      generalize hw2 : wr.setCell ⟨w1.heap.size + 1, 1, none⟩ (.int .i64 k) = w2 at *
      clear hw2 S1 S2 hrow S4 hBw c11 c13 f41 c41 hB h1
      have hsm2 := hsm
      have I2 := T3.ints hsm (fun x hx => by have := modL_bd hM x hx; omega)
      go_cut [13, 14] from 131 (fun v u W => v = .int .i64 h ∧ u = .int .i64 0 ∧ Below w2.heap.size w2 W)
      case first =>
        rename_i hJ hK2
        have HRS := Lib.hid (show ∀ x ∈ modL i xs M ++ [M], -9223372036854775808 ≤ x ∧ x ≤ 9223372036854775807 by
          intro x hx
          rcases List.mem_append.1 hx with h | h
          · have := modL_bd hM x h; omega
          · rw [List.mem_singleton.1 h]; omega)
        have HRG := Lib.hid (show ∀ x ∈ modL i xs M ++ [M], -4611686018427387904 ≤ x ∧ x ≤ 4611686018427387904 by
          intro x hx
          rcases List.mem_append.1 hx with h | h
          · have := modL_bd hM x h; omega
          · rw [List.mem_singleton.1 h]; omega)
        have HMM : ∀ x ∈ [M], -9223372036854775808 ≤ x ∧ x ≤ 9223372036854775807 := fun x hx => by rw [List.mem_singleton.1 hx]; omega
        refine wp_region_plan (by rfl) dvPlan (dvFacts i w.heap.size (w1.heap.size + 1) (some ⟨w1.heap.size, 0, none⟩) i M (modL i xs M) h w2.heap.size) (fun W => Below w2.heap.size w2 W) (by kernel_rfl) rfl (Below.refl _ _).drew ?_ ?_
        case refine_2 =>
          intro a W hS hsz hdf hold hf
          refine hK2 _ _ (Met.intro (hJ _ _ ?_))
          repeat apply Exists.intro
          refine ⟨?_, act_lit (n := 170) dvPlan hsz hdf hold⟩
          exact ⟨hf 12 (by decide) (by decide), hf 13 (by decide) (by decide), hS⟩
        refine ⟨?_, ?_, ?_, ?_, ?_, ?_, ?_, ?_, ?_, ?_, ?_, ?_, ?_, ?_, trivial⟩ <;> intro a W hS hold hn hap hsz0 <;> have hsz : Hid (a.tmps.size = 170) := Lib.hid hsz0 <;> clear hsz0
        · refine step_lit (cs := #[]) rfl rfl (slot_lt hsz (by kernel_rfl)) rfl (by decide) hS.size ?_ (hS.alloc hS.size _)
          go_simp
        · have e2 := getd (hold 10 rfl)
          refine step_val rfl rfl (slot_lt hsz (by kernel_rfl)) ?_ hS
          go_simp
        · obtain ⟨f1, _⟩ := hn
          have e1 := getd (show a.tmps.getD 133 undef = _ from f1)
          have c1 := (T4.below hS T4.lt).c0
          refine step_val rfl rfl (slot_lt hsz (by kernel_rfl)) ?_ hS
          go_simp
        · obtain ⟨f1, f2, _⟩ := hn
          have f1 : W.ownsRow w2.heap.size 3 1 (a.tmps.getD 132 undef) 0 [] := f1
          have f2 : a.tmps.getD 134 undef = _ := f2
          refine step_more rfl rfl (slot_lt hsz (by kernel_rfl)) rfl rfl ?_ (fun w' hg => hS.grown hg hS.size fun k hk => (f1.lt k hk).1)
          obtain ⟨v', w', r1, r2, r3, r4⟩ := append_ints W w2.heap.size 22 _ _ _ f1 _ _ _ _ (I2.step hS) (by omega) hS.size
          exact ⟨v', w', exec_append rfl rfl f2 r1, r2, r3, r4⟩
        · have e2 := getd (hold 1 rfl)
          refine step_val rfl rfl (slot_lt hsz (by kernel_rfl)) ?_ hS
          go_simp
        · obtain ⟨f1, _⟩ := hn
          have e1 := getd (show a.tmps.getD 136 undef = _ from f1)
          have c1 := (T1.below hS T1.lt).c1
          refine step_val rfl rfl (slot_lt hsz (by kernel_rfl)) ?_ hS
          go_simp
        · obtain ⟨f1, _⟩ := hn
          have e1 := getd (show a.tmps.getD 137 undef = _ from f1)
          refine step_lit (cs := #[.int .i64 M]) rfl rfl (slot_lt hsz (by kernel_rfl)) rfl (by decide) hS.size ?_ (hS.alloc hS.size _)
          go_simp
        · obtain ⟨f1, f2, _⟩ := hn
          have f1 : W.ownsRow w2.heap.size 3 1 (a.tmps.getD 135 undef) (0 + i) ([] ++ vals (modL i xs M)) := f1
          have f2 : W.ownsRow w2.heap.size 3 1 (a.tmps.getD 138 undef) 1 (vals [M]) := f2
          obtain ⟨A2, c2, e2, i2⟩ := own_ints f2 (by omega) HMM
          refine step_more rfl rfl (slot_lt hsz (by kernel_rfl)) rfl rfl ?_ (fun w' hg => hS.grown hg hS.size fun k hk => (f1.lt k hk).1)
          obtain ⟨v', w', r1, r2, r3, r4⟩ := append_ints W w2.heap.size 22 _ _ _ f1 _ _ _ _ i2 (by omega) hS.size
          exact ⟨v', w', exec_append rfl rfl e2 r1, r2, r3, r4⟩
        · obtain ⟨f1, _⟩ := hn
          have f1 : W.ownsRow w2.heap.size 3 1 (a.tmps.getD 139 undef) ((0 + i) + 1) (([] ++ vals (modL i xs M)) ++ vals [M]) := f1
          rw [List.nil_append, ← vals_app, Nat.zero_add] at f1
          obtain ⟨A1, c1, e1, i1⟩ := own_ints f1 (by omega) HRS.out
          have e1 := getd e1
          refine step_call (f := 47) (args := #[.slice A1 (i + 1) c1]) rfl rfl (slot_lt hsz (by kernel_rfl)) ?_ ((ref_gcd W _ A1 (i + 1) c1 _ i1).mono ?_)
          · go_simp
          · rintro e w' ⟨rfl, k, rfl⟩
            rw [(gcdVal_A HRG.out).1, (gcdVal_A HRG.out).2, gcdA_rem HL.out, HH.out]
            exact ⟨rfl, hS.trans ((below_of_drewN k).mono hS.size), ⟨rfl, rfl, rfl, Nat.le_refl _, fun _ _ _ => rfl⟩⟩
        · obtain ⟨f1, _⟩ := hn
          have e1 := getd (show a.tmps.getD 140 undef = _ from f1)
          refine step_val rfl rfl (slot_lt hsz (by kernel_rfl)) ?_ hS
          go_simp
        · obtain ⟨f1, _⟩ := hn
          have e1 := getd (show a.tmps.getD 131 undef = _ from f1)
          refine step_val rfl rfl (slot_lt hsz (by kernel_rfl)) ?_ hS
          go_simp
        · obtain ⟨f1, _⟩ := hn
          have e1 := getd (show a.tmps.getD 131 undef = _ from f1)
          refine step_val rfl rfl (slot_lt hsz (by kernel_rfl)) ?_ hS
          go_simp
        · obtain ⟨f1, _⟩ := hn
          have e1 := getd (show a.tmps.getD 141 undef = _ from f1)
          refine step_val rfl rfl (slot_lt hsz (by kernel_rfl)) ?_ hS
          go_simp
        · obtain ⟨f1, _⟩ := hn
          have e1 := getd (show a.tmps.getD 142 undef = _ from f1)
          refine step_val rfl rfl (slot_lt hsz (by kernel_rfl)) ?_ hS
          go_simp
      case rest =>
        obtain ⟨rfl, rfl, hbc⟩ := hcut
        have hr : r = (if k % (h : Int) ≠ 0 then (0, 0, [], 0, -1) else if (h : Int) = M then (0, 0, [], 0, 1) else (2, M / (h : Int), remL i xs M h, k / (h : Int), 0)) := by
          rw [← HR.out]; unfold nf; rw [if_neg (by decide), if_neg (by decide), HKM.out, HH.out]
        have hBc := below_step hB2 hbc
        replace I2 := I2.step hbc
        replace T1 := T1.step hbc
        replace T2 := T2.step hbc
        replace T4 := T4.step hbc
        have c11 := T1.c1
        have c41 := T4.c1
        have l4 := T4.lt
        have l12 := T2.lt
        have hh0 : ((h : Int) == 0) = false := by simp; omega
        have hhn : (h : Int) ≠ 0 := by omega
        have hhN : h ≠ 0 := by omega
        have hhi : (h : Int) ≤ 512 := by omega
        have hs3 : ∀ (b : Int) W', CBox W' (w.heap.size + 1) 0 0 none 0 0 0 → True := fun _ _ _ => trivial
        clear T3 hbc hW hB2 hs3 hhM
        by_cases g1 : k % (h : Int) = 0
        · rw [if_neg (by simpa using g1)] at hr
          by_cases g2 : (h : Int) = M
          · rw [if_pos g2] at hr
            subst hr
            have q3 : (M == (h : Int)) = true := by rw [g2]; simp
            clear g2
            go_wp2_with (go_at_call 48; refine (ref_truth _ _).mono ?_; rintro e w3 ⟨rfl, hb⟩; replace hBc := below_step hBc hb; replace T2 := T2.step hb; have d0 := T2.c0; have d1 := T2.c1; have d2 := T2.c2; have d3 := T2.c3; have f0 := T2.f 0; have f1 := T2.f 1; have f2 := T2.f 2; have f3 := T2.f 3; obtain ⟨e0, e1, e2, e3⟩ := T2.four 0 0 none 0 0 0)
            refine bodyPost_ret (v := .tuple #[condV 0 0 none 0 0 0, .int .i64 1]) (by simp [results, Try.results30, go_sem, e0, e1, e2, e3]) rfl ?_
            exact ⟨none, 0, 0, rfl, ints_nil _ _, below_store4 hBc (by omega) _ _ _ _, .inl rfl⟩
          · rw [if_neg g2] at hr
            subst hr
            have q3 : (M == (h : Int)) = false := by simpa using fun e => g2 e.symm
            have hhI : 1 ≤ (h : Int) := by omega
            have HO := Lib.hid (fun W (hh : IntsAt W (some ⟨w1.heap.size, 0, none⟩) i (modL i xs M)) => ref_over (some ⟨w1.heap.size, 0, none⟩) i i k (modL i xs M) (h : Int) (k / (h : Int)) hhn (by omega) (fun x hx => by have := modL_bd hM x hx; omega) W hh)
            rw [quo_modL i xs M h hM.1] at HO
            have HW := Lib.hid (show ∀ z ∈ remL i xs M h, -9223372036854775808 ≤ z ∧ z ≤ 9223372036854775807 by
              intro z hz
              obtain ⟨j, _, rfl⟩ := List.mem_map.1 hz
              have m0 := Int.emod_nonneg (xs[j]?.getD 0) (show M ≠ 0 by omega)
              have m1 := Int.emod_lt_of_pos (xs[j]?.getD 0) (show 0 < M by omega)
              have m2 := Int.ediv_nonneg m0 (show (0 : Int) ≤ h by omega)
              have m3 := Int.ediv_le_self (h : Int) m0
              omega)
            have hMd : 0 ≤ M / (h : Int) ∧ M / (h : Int) ≤ 512 := ⟨Int.ediv_nonneg (by omega) (by omega), Int.le_trans (Int.ediv_le_self _ (by omega)) (by omega)⟩
            have hkd : 0 ≤ k / (h : Int) ∧ k / (h : Int) ≤ 512 := ⟨Int.ediv_nonneg hk0 (by omega), Int.le_trans (Int.ediv_le_self _ hk0) (by omega)⟩
            have hM0 : 0 ≤ M := by omega
            have hw1 : IntKind.i64.wrap (M.tdiv (h : Int)) = M / (h : Int) := by rw [Int.tdiv_eq_ediv_of_nonneg hM0]; exact IntWalk.i64_in _ (by omega)
            have hw2 : IntKind.i64.wrap (k.tdiv (h : Int)) = k / (h : Int) := by rw [Int.tdiv_eq_ediv_of_nonneg hk0]; exact IntWalk.i64_in _ (by omega)
            have c40 := T4.c0
            have HX2 := Lib.hid (And.intro hMd hkd)
            clear hM0 g2 hMd hkd
            replace hBc := hBc.drew
            replace I2 := I2.step (Below.refl _ wc).drew
            replace T1 := T1.step (Below.refl _ wc).drew
            replace T2 := T2.step (Below.refl _ wc).drew
            replace T4 := T4.step (Below.refl _ wc).drew
            have l21 := T1.lt
            have n1 : w.heap.size ≠ w.heap.size + 1 := by omega
            have n2 : w1.heap.size ≠ w.heap.size := by omega
            go_wp2
            go_region_held3 (fun W => W.cell? ⟨w.heap.size, 1, none⟩ = some (.int .i64 M) ∧ W.cell? ⟨w1.heap.size + 1, 0, none⟩ = some (.slice (some ⟨w1.heap.size, 0, none⟩) i i) ∧ W.cell? ⟨w1.heap.size + 1, 1, none⟩ = some (.int .i64 k)) (first | exact ⟨k0, k1, k2⟩ | exact ⟨c11, c40, c41⟩ | exact ⟨keep4 k0 (show w.heap.size ≠ w.heap.size + 1 by omega), keep4 k1 (show w1.heap.size + 1 ≠ w.heap.size + 1 by omega), keep4 k2 (show w1.heap.size + 1 ≠ w.heap.size + 1 by omega)⟩ | go_keep)
              (first
                | (go_at_call 50; refine (HO.out _ I2).mono ?_; rintro e w3 ⟨g5, rfl, hg5, O5, hb⟩; have hsz3 := hb.size; replace hBc := below_step hBc hb; replace T1 := T1.step hb; replace T2 := T2.step hb; replace T4 := T4.step hb; have k0 := T1.c1; have k1 := T4.c0; have k2 := T4.c1; have d0 := T2.c0; have d1 := T2.c1; have d2 := T2.c2; have d3 := T2.c3; have f0 := T2.f 0; have f1 := T2.f 1; have f2 := T2.f 2; have f3 := T2.f 3; obtain ⟨e0, e1, e2, e3⟩ := T2.four 2 (M / (h : Int)) (some ⟨g5, 0, none⟩) i i (k / (h : Int))))
            all_goals
              go_wp2
              refine bodyPost_ret (v := .tuple #[condV 2 (M / (h : Int)) (some ⟨g5, 0, none⟩) i i (k / (h : Int)), .int .i64 0]) (by simp [results, Try.results30, go_sem, e0, e1, e2, e3]) rfl ?_
              have hg6 : wc.heap.size ≤ g5 := hg5
              have R := O5.store4 (b := w.heap.size + 1) (by omega) (.int .i64 2) (.int .i64 (M / (h : Int))) (.slice (some ⟨g5, 0, none⟩) i i) (.int .i64 (k / (h : Int)))
              exact ⟨some ⟨g5, 0, none⟩, i, i, rfl, R.ints hsm HW.out, below_store4 hBc (by omega) _ _ _ _, .inr ⟨g5, rfl, by omega, R⟩⟩
        · rw [if_pos g1] at hr
          subst hr
          have q1 : (k % (h : Int) != 0) = true := by simpa using g1
          have q2 : (k % (h : Int) == 0) = false := by simpa using g1
          clear g1
          go_wp2_with (go_at_call 48; refine (ref_truth _ _).mono ?_; rintro e w3 ⟨rfl, hb⟩; replace hBc := below_step hBc hb; replace T2 := T2.step hb; have d0 := T2.c0; have d1 := T2.c1; have d2 := T2.c2; have d3 := T2.c3; have f0 := T2.f 0; have f1 := T2.f 1; have f2 := T2.f 2; have f3 := T2.f 3; obtain ⟨e0, e1, e2, e3⟩ := T2.four 0 0 none 0 0 0)
          refine bodyPost_ret (v := .tuple #[condV 0 0 none 0 0 0, .int .i64 (-1)]) (by simp [results, Try.results30, go_sem, e0, e1, e2, e3]) rfl ?_
          exact ⟨none, 0, 0, rfl, ints_nil _ _, below_store4 hBc (by omega) _ _ _ _, .inl rfl⟩
end Go.Proofs.Ytbjkijifpikhkaa
