/-
  wide.Normal: the rule of divisions.
-/
import Derived.Test.YtbjkijifpikhkaaProg
import Derived.Test.YtbjkijifpikhkaaKit
import Derived.Test.YtbjkijifpikhkaaLinKit
import Derived.Test.YtbjkijifpikhkaaLinClone
import Derived.Test.YtbjkijifpikhkaaLinPut
import Derived.Test.YtbjkijifpikhkaaCondKit
import Derived.Test.YtbjkijifpikhkaaWideBase
import Derived.Test.YtbjkijifpikhkaaWideNormal
import Derived.Deep.RegionHeld3
namespace Go.Proofs.Ytbjkijifpikhkaa
open Go.RowKit
set_option linter.unusedVariables false
set_option linter.unusedSimpArgs false

theorem gcdA_dvd : ∀ (xs : List Int) (g : Nat), gcdA g xs ∣ g
  | [], g => Nat.dvd_refl _
  | x :: xs, g => Nat.dvd_trans (gcdA_dvd xs (Nat.gcd g x.natAbs)) (Nat.gcd_dvd_left _ _)
theorem gcdA_le {xs : List Int} {g : Nat} (h : 0 < g) : 0 < gcdA g xs ∧ gcdA g xs ≤ g :=
  ⟨Nat.pos_of_dvd_of_pos (gcdA_dvd xs g) h, Nat.le_of_dvd h (gcdA_dvd xs g)⟩

set_option maxHeartbeats 4000000 in
theorem div_never (q M : Int) (A : Option Addr) (n c : Nat) (K : Int) (xs : List Int) (g : Int) (hM : 1 ≤ M ∧ M ≤ 512) (hK : -4611686018427387904 ≤ K ∧ K ≤ 4611686018427387904) (hx : ∀ x ∈ xs, -4611686018427387904 ≤ x ∧ x ≤ 4611686018427387904) (hr : (K % M) % (gcdA M.natAbs xs : Int) ≠ 0) (w : World) (hI : IntsAt w A n xs) :
    Calls Try.prog 62 #[shapeV q M A n c K g] w fun e w' => CondRet w e w' 0 0 [] 0 (-1) := by
  have hB := below_step (below_alloc w (.cells #[.int .i64 q, .int .i64 M, .slice A n c, .int .i64 K, .int .i64 g] 66)) (below_alloc _ (.cells #[.int .i64 0, .int .i64 0, .slice none 0 0, .int .i64 0] 26))
  have h1 := hI.step hB
  have B1 := (SBox.new w q M A n c K g).step (below_alloc _ (.cells #[.int .i64 0, .int .i64 0, .slice none 0 0, .int .i64 0] 26))
  have B2 := CBox.new (w.alloc (.cells #[.int .i64 q, .int .i64 M, .slice A n c, .int .i64 K, .int .i64 g] 66)) 0 0 none 0 0 0
  rw [World.size_alloc] at B2
  obtain ⟨k, hk⟩ : ∃ k, K % M = k := ⟨_, rfl⟩
  have hk0 := Int.emod_nonneg K (show M ≠ 0 by omega)
  have hk1 := Int.emod_lt_of_pos K (show 0 < M by omega)
  rw [hk] at hk0 hk1 hr
  have HKM := Lib.hid hk
  obtain ⟨h, hh⟩ : ∃ h : Nat, gcdA M.natAbs xs = h := ⟨_, rfl⟩
  have hhM := gcdA_le (xs := xs) (show 0 < M.natAbs by omega)
  rw [hh] at hhM hr
  have hdv := (wide_divisor M ⟨by omega, by omega⟩ A n c xs hx _ h1).mono (R' := fun e w' => e = .returned (.int .i64 h) ∧ Below _ _ w') (by rintro e w' ⟨rfl, kk, rfl⟩; exact ⟨by rw [hh], below_of_drewN kk⟩)
  have HD := Lib.hid hdv
  clear hk hh hI hdv
  have hh0 : ((h : Int) == 0) = false := by simp; omega
  have hhn : (h : Int) ≠ 0 := by omega
  have hhi : (h : Int) ≤ 512 := by omega
  have q1 : (k % (h : Int) != 0) = true := by simpa using hr
  have q2 : (k % (h : Int) == 0) = false := by simpa using hr
  clear hr
  go_enter Try.func62, Try.ntmps62
  go_wp2_with (first
    | (go_at_call 46; refine HD.out.mono ?_; rintro e w1 ⟨rfl, hb⟩; replace hB := below_step hB hb; replace h1 := h1.step hb; replace B1 := B1.step hb; replace B2 := B2.step hb; have c11 := B1.c1; have c12 := B1.c2; have c13 := B1.c3; have d0 := B2.c0; have d1 := B2.c1; have d2 := B2.c2; have d3 := B2.c3; have f0 := B2.f 0; have f1 := B2.f 1; have f2 := B2.f 2; have f3 := B2.f 3)
    | (go_at_call 69; refine (wide_mod _ _ (by omega) (by omega) (by omega) hM.1 _).mono ?_; rintro e w' ⟨rfl, rfl⟩; rw [HKM.out]))
  obtain ⟨e0, e1, e2, e3⟩ := B2.four 0 0 none 0 0 0
  refine bodyPost_ret (v := .tuple #[condV 0 0 none 0 0 0, .int .i64 (-1)]) (by simp [results, Try.results62, go_sem, e0, e1, e2, e3]) rfl ?_
  exact ⟨none, 0, 0, rfl, ints_nil _ _, below_store4 hB (by omega) _ _ _ _, .inl rfl⟩

set_option maxHeartbeats 4000000 in
theorem div_always (q M : Int) (A : Option Addr) (n c : Nat) (K : Int) (xs : List Int) (g : Int) (hM : 1 ≤ M ∧ M ≤ 512) (hK : -4611686018427387904 ≤ K ∧ K ≤ 4611686018427387904) (hx : ∀ x ∈ xs, -4611686018427387904 ≤ x ∧ x ≤ 4611686018427387904) (hr : (K % M) % (gcdA M.natAbs xs : Int) = 0) (hm : (gcdA M.natAbs xs : Int) = M) (w : World) (hI : IntsAt w A n xs) :
    Calls Try.prog 62 #[shapeV q M A n c K g] w fun e w' => CondRet w e w' 0 0 [] 0 1 := by
  have hB := below_step (below_alloc w (.cells #[.int .i64 q, .int .i64 M, .slice A n c, .int .i64 K, .int .i64 g] 66)) (below_alloc _ (.cells #[.int .i64 0, .int .i64 0, .slice none 0 0, .int .i64 0] 26))
  have h1 := hI.step hB
  have B1 := (SBox.new w q M A n c K g).step (below_alloc _ (.cells #[.int .i64 0, .int .i64 0, .slice none 0 0, .int .i64 0] 26))
  have B2 := CBox.new (w.alloc (.cells #[.int .i64 q, .int .i64 M, .slice A n c, .int .i64 K, .int .i64 g] 66)) 0 0 none 0 0 0
  rw [World.size_alloc] at B2
  obtain ⟨k, hk⟩ : ∃ k, K % M = k := ⟨_, rfl⟩
  have hk0 := Int.emod_nonneg K (show M ≠ 0 by omega)
  have hk1 := Int.emod_lt_of_pos K (show 0 < M by omega)
  rw [hk] at hk0 hk1 hr
  have HKM := Lib.hid hk
  obtain ⟨h, hh⟩ : ∃ h : Nat, gcdA M.natAbs xs = h := ⟨_, rfl⟩
  have hhM := gcdA_le (xs := xs) (show 0 < M.natAbs by omega)
  rw [hh] at hhM hr
  have hdv := (wide_divisor M ⟨by omega, by omega⟩ A n c xs hx _ h1).mono (R' := fun e w' => e = .returned (.int .i64 h) ∧ Below _ _ w') (by rintro e w' ⟨rfl, kk, rfl⟩; exact ⟨by rw [hh], below_of_drewN kk⟩)
  have HD := Lib.hid hdv
  rw [hh] at hm
  clear hk hh hI hdv
  have hh0 : ((h : Int) == 0) = false := by simp; omega
  have hhn : (h : Int) ≠ 0 := by omega
  have hhi : (h : Int) ≤ 512 := by omega
  have q3 : ((h : Int) == M) = true := by simpa using hm
  clear hm
  go_enter Try.func62, Try.ntmps62
  go_wp2_with (first
    | (go_at_call 46; refine HD.out.mono ?_; rintro e w1 ⟨rfl, hb⟩; replace hB := below_step hB hb; replace h1 := h1.step hb; replace B1 := B1.step hb; replace B2 := B2.step hb; have c11 := B1.c1; have c12 := B1.c2; have c13 := B1.c3; have d0 := B2.c0; have d1 := B2.c1; have d2 := B2.c2; have d3 := B2.c3; have f0 := B2.f 0; have f1 := B2.f 1; have f2 := B2.f 2; have f3 := B2.f 3)
    | (go_at_call 69; refine (wide_mod _ _ (by omega) (by omega) (by omega) hM.1 _).mono ?_; rintro e w' ⟨rfl, rfl⟩; rw [HKM.out]))
  obtain ⟨e0, e1, e2, e3⟩ := B2.four 0 0 none 0 0 0
  refine bodyPost_ret (v := .tuple #[condV 0 0 none 0 0 0, .int .i64 1]) (by simp [results, Try.results62, go_sem, e0, e1, e2, e3]) rfl ?_
  exact ⟨none, 0, 0, rfl, ints_nil _ _, below_store4 hB (by omega) _ _ _ _, .inl rfl⟩

/-- The remainders of the coefficients, divided by h. -/
def remTo (n : Nat) (xs : List Int) (M h : Int) (i : Nat) : List Int := (List.range n).map fun j => if j < i then (xs[j]?.getD 0 % M) / h else 0
def remL (n : Nat) (xs : List Int) (M h : Int) : List Int := (List.range n).map fun j => (xs[j]?.getD 0 % M) / h
theorem rem_zero (n : Nat) (xs : List Int) (M h : Int) : remTo n xs M h 0 = zeros n := by
  apply List.ext_getElem (by simp [remTo, zeros])
  intro j h1 h2
  simp [remTo, zeros]
theorem rem_step (n : Nat) (xs : List Int) (M h : Int) (i : Nat) : (remTo n xs M h i).set i ((xs[i]?.getD 0 % M) / h) = remTo n xs M h (i + 1) := by
  unfold remTo
  rw [tab_set]
  apply List.map_congr_left
  intro j _
  by_cases e : j = i
  · subst e; simp
  · have : (j < i + 1) ↔ (j < i) := by omega
    simp [e, this]
theorem rem_all (n : Nat) (xs : List Int) (M h : Int) : remTo n xs M h n = remL n xs M h := by
  apply List.map_congr_left
  intro j hj
  rw [if_pos (List.mem_range.1 hj)]

set_option maxHeartbeats 8000000 in
theorem div_open (q M : Int) (A : Option Addr) (n c : Nat) (K : Int) (xs : List Int) (g : Int) (hM : 1 ≤ M ∧ M ≤ 512) (hK : -4611686018427387904 ≤ K ∧ K ≤ 4611686018427387904) (hx : ∀ x ∈ xs, -4611686018427387904 ≤ x ∧ x ≤ 4611686018427387904) (hr : (K % M) % (gcdA M.natAbs xs : Int) = 0) (hm : (gcdA M.natAbs xs : Int) ≠ M) (w : World) (hI : IntsAt w A n xs) :
    Calls Try.prog 62 #[shapeV q M A n c K g] w fun e w' => CondRet w e w' 2 (M / (gcdA M.natAbs xs : Int)) (remL n xs M (gcdA M.natAbs xs)) ((K % M) / (gcdA M.natAbs xs : Int)) 0 := by
  have hsm := hI.small
  have hmk := make_ints n hsm
  have hB := below_step (below_alloc w (.cells #[.int .i64 q, .int .i64 M, .slice A n c, .int .i64 K, .int .i64 g] 66)) (below_alloc _ (.cells #[.int .i64 0, .int .i64 0, .slice none 0 0, .int .i64 0] 26))
  have h1 := hI.step hB
  have B1 := (SBox.new w q M A n c K g).step (below_alloc _ (.cells #[.int .i64 0, .int .i64 0, .slice none 0 0, .int .i64 0] 26))
  have B2 := CBox.new (w.alloc (.cells #[.int .i64 q, .int .i64 M, .slice A n c, .int .i64 K, .int .i64 g] 66)) 0 0 none 0 0 0
  rw [World.size_alloc] at B2
  obtain ⟨k, hk⟩ : ∃ k, K % M = k := ⟨_, rfl⟩
  have hk0 := Int.emod_nonneg K (show M ≠ 0 by omega)
  have hk1 := Int.emod_lt_of_pos K (show 0 < M by omega)
  rw [hk] at hk0 hk1 hr
  have HKM := Lib.hid hk
  obtain ⟨h, hh⟩ : ∃ h : Nat, gcdA M.natAbs xs = h := ⟨_, rfl⟩
  have hhM := gcdA_le (xs := xs) (show 0 < M.natAbs by omega)
  rw [hh] at hhM hr
  have hdv := (wide_divisor M ⟨by omega, by omega⟩ A n c xs hx _ h1).mono (R' := fun e w' => e = .returned (.int .i64 h) ∧ Below _ _ w') (by rintro e w' ⟨rfl, kk, rfl⟩; exact ⟨by rw [hh], below_of_drewN kk⟩)
  have HD := Lib.hid hdv
  rw [hh] at hm ⊢
  rw [hk]
  clear hk hh hI hdv
  have hh0 : ((h : Int) == 0) = false := by simp; omega
  have hhn : (h : Int) ≠ 0 := by omega
  have hhN : h ≠ 0 := by omega
  have hhi : (h : Int) ≤ 512 := by omega
  have q3 : ((h : Int) == M) = false := by simpa using hm
  have q4 : ((h : Int) != M) = true := by simpa using hm
  clear hm
  go_enter Try.func62, Try.ntmps62
  go_wp2_with (first
    | (go_at_call 46; refine HD.out.mono ?_; rintro e w1 ⟨rfl, hb⟩; replace hB := below_step hB hb; replace h1 := h1.step hb; replace B1 := B1.step hb; replace B2 := B2.step hb; have c11 := B1.c1; have c12 := B1.c2; have c13 := B1.c3; have d0 := B2.c0; have d1 := B2.c1; have d2 := B2.c2; have d3 := B2.c3; have f0 := B2.f 0; have f1 := B2.f 1; have f2 := B2.f 2; have f3 := B2.f 3; have l1 := B1.lt; have l2 := B2.lt)
    | (go_at_call 69; refine (wide_mod _ _ (by omega) (by omega) (by omega) hM.1 _).mono ?_; rintro e w' ⟨rfl, rfl⟩; rw [HKM.out]))
  clear hr
  have hrow0 := OwnRow.new w1 (zeros n) n (zeros_len n)
  have hB0 := below_alloc w1 (.cells ((zeros n).map (Value.int .i64)).toArray 3)
  go_loopw [47] (fun v wr => ∃ i : Nat, i ≤ n ∧ v = .int .i64 i ∧ OwnRow wr w1.heap.size n (remTo n xs M h i) ∧ Below w1.heap.size w1 wr) (fun v _ => n - (intOf v).toNat)
  case atStart => exact ⟨0, Nat.zero_le _, rfl, by rw [rem_zero]; exact hrow0, hB0⟩
  case round =>
    obtain ⟨i, hi, rfl, hrow, hBw⟩ := hrel
    clear hrow0 hB0 hmk
    replace B1 := B1.step hBw
    replace B2 := B2.step hBw
    have c11 := B1.c1
    have c12 := B1.c2
    have c13 := B1.c3
    by_cases hlt : i < n
    · have hrx := hx _ (h1.mem hlt)
      obtain ⟨bl, off, rfl, hbl, hc⟩ := h1.cells (by omega)
      have hcell := (hBw.cell (p := ⟨bl, off + i, none⟩) hbl).trans (hc i hlt)
      have hfr := hrow.free i
      have hcr := hrow.cell hlt
      have q5 : (i : Int) < n := by omega
      have R := (hrow.set hlt ((xs[i]?.getD 0 % M) / (h : Int)))
      rw [rem_step] at R
      have hW := hBw.setCell (p := ⟨w1.heap.size, i, none⟩) (Nat.le_refl _) (.int .i64 ((xs[i]?.getD 0 % M) / (h : Int)))
      generalize xs[i]?.getD 0 = x at *
      have m0 := Int.emod_nonneg x (show M ≠ 0 by omega)
      have m1 := Int.emod_lt_of_pos x (show 0 < M by omega)
      have HR := Lib.hid R
      have hd : 0 ≤ x % M / (h : Int) ∧ x % M / (h : Int) ≤ 512 := ⟨Int.ediv_nonneg m0 (by omega), Int.le_trans (Int.ediv_le_self _ m0) (by omega)⟩
      have hw : IntKind.i64.wrap (x % M / (h : Int)) = x % M / (h : Int) := IntWalk.i64_in _ (by omega)
      have ht : (x % M).tdiv (h : Int) = x % M / (h : Int) := Int.tdiv_eq_ediv_of_nonneg m0
      clear hc R
      go_wp2_with (go_at_call 69; refine (wide_mod _ _ (by omega) (by omega) (by omega) hM.1 _).mono ?_; rintro e w' ⟨rfl, rfl⟩)
      go_roundw
      case rel =>
        exact ⟨i + 1, by omega, by go_num, HR.out, hW⟩
      case measure => simp [intOf]; omega
    · obtain rfl : i = n := by omega
      rw [rem_all] at hrow
      have hge : ¬ ((i : Int) < i) := by omega
      go_wp2
      have hMd : 0 ≤ M / (h : Int) ∧ M / (h : Int) ≤ 512 := ⟨Int.ediv_nonneg (by omega) (by omega), Int.le_trans (Int.ediv_le_self _ (by omega)) (by omega)⟩
      have hkd : 0 ≤ k / (h : Int) ∧ k / (h : Int) ≤ 512 := ⟨Int.ediv_nonneg hk0 (by omega), Int.le_trans (Int.ediv_le_self _ hk0) (by omega)⟩
      have hM0 : 0 ≤ M := by omega
      have hw1 : IntKind.i64.wrap (M.tdiv (h : Int)) = M / (h : Int) := by rw [Int.tdiv_eq_ediv_of_nonneg hM0]; exact IntWalk.i64_in _ (by omega)
      have hw2 : IntKind.i64.wrap (k.tdiv (h : Int)) = k / (h : Int) := by rw [Int.tdiv_eq_ediv_of_nonneg hk0]; exact IntWalk.i64_in _ (by omega)
      clear hM0
      have d0 := B2.c0
      have d1 := B2.c1
      have d2 := B2.c2
      have d3 := B2.c3
      have f0 := B2.f 0
      have f1 := B2.f 1
      have f2 := B2.f 2
      have f3 := B2.f 3
      obtain ⟨e0, e1, e2, e3⟩ := B2.four 2 (M / (h : Int)) (some ⟨w1.heap.size, 0, none⟩) i i (k / (h : Int))
      have n1 : w.heap.size ≠ w.heap.size + 1 := by omega
      go_region_held3 (fun W => W.cell? ⟨w.heap.size, 1, none⟩ = some (.int .i64 M)) (go_keep) (fail)
      all_goals
        have hEnd := below_step hB hBw
        have R := (show OwnRow _ w1.heap.size i (remL i xs M h) from hrow).store4 (b := w.heap.size + 1) (by omega) (.int .i64 2) (.int .i64 (M / (h : Int))) (.slice (some ⟨w1.heap.size, 0, none⟩) i i) (.int .i64 (k / (h : Int)))
        have hwf : ∀ z ∈ remL i xs M h, -9223372036854775808 ≤ z ∧ z ≤ 9223372036854775807 := by
          intro z hz
          obtain ⟨j, _, rfl⟩ := List.mem_map.1 hz
          have m0 := Int.emod_nonneg (xs[j]?.getD 0) (show M ≠ 0 by omega)
          have m1 := Int.emod_lt_of_pos (xs[j]?.getD 0) (show 0 < M by omega)
          have m2 := Int.ediv_nonneg m0 (show (0 : Int) ≤ h by omega)
          have m3 := Int.ediv_le_self (h : Int) m0
          omega
        go_wp2
        refine bodyPost_ret (v := .tuple #[condV 2 (M / (h : Int)) (some ⟨w1.heap.size, 0, none⟩) i i (k / (h : Int)), .int .i64 0]) (by simp [results, Try.results62, go_sem, e0, e1, e2, e3]) rfl ?_
        exact ⟨some ⟨w1.heap.size, 0, none⟩, i, i, rfl, IntsAt.step (R.ints hsm hwf) (Below.refl _ _).drew, (below_store4 hEnd (by omega) _ _ _ _).drew, .inr ⟨w1.heap.size, rfl, by omega, R⟩⟩
end Go.Proofs.Ytbjkijifpikhkaa
