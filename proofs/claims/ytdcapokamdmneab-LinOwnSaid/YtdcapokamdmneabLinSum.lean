/-
  Add and Sub of package lin.
-/
import Derived.Test.YtdcapokamdmneabProg
import Derived.Test.YtdcapokamdmneabLinKit
import Derived.Test.YtdcapokamdmneabLinTerms
import Derived.Test.YtdcapokamdmneabLinAt
import Derived.Test.YtdcapokamdmneabLinMix
import Derived.Test.YtdcapokamdmneabLinMake
import Derived.Test.YtdcapokamdmneabLinSumRef
import Derived.Deep.RegionHeld3
namespace Go.Proofs.Ytdcapokamdmneab
open Go.RowKit
set_option linter.unusedVariables false
set_option linter.unusedSimpArgs false

/-- A function's answer is an expression, in memory of its own, and an error. -/
def RetF (w : World) (e : Ending) (w' : World) (ys : List Int) (K err : Int) : Prop :=
  ∃ A n c, e = .returned (.tuple #[.agg #[.slice A n c, .int .i64 K], .int .i64 err]) ∧ IntsAt w' A n ys ∧ Below w.heap.size w w' ∧ (n = 0 ∨ ∃ g, A = some ⟨g, 0, none⟩ ∧ w.heap.size ≤ g)
theorem RetF.lin {w : World} {e : Ending} {w' : World} {ys : List Int} {K err : Int} (h : RetF w e w' ys K err) : LinRet w e w' ys K err := by
  obtain ⟨A, n, c, h1, h2, h3, _⟩ := h
  exact ⟨A, n, c, h1, h2, h3⟩
theorem RetO.f {w : World} {e : Ending} {w' : World} {ys : List Int} {K err : Int} (h : RetO w e w' ys K err) : RetF w e w' ys K err := by
  obtain ⟨A, n, c, h1, h2, h3, h4⟩ := h
  exact ⟨A, n, c, h1, h2, h3, h4.imp id fun ⟨g, a, b, _⟩ => ⟨g, a, b⟩⟩
theorem RetF.o_nil {w : World} {e : Ending} {w' : World} {K err : Int} (h : RetF w e w' [] K err) : RetO w e w' [] K err := h.lin.o_nil
theorem ret_f {A : Option Addr} {n c : Nat} {K err : Int} {w w' : World} {ys : List Int} {K' err' : Int} (h1 : err' = err) (h2 : K' = K) (hI : IntsAt w' A n ys) (hb : Below w.heap.size w w') (hf : n = 0 ∨ ∃ g, A = some ⟨g, 0, none⟩ ∧ w.heap.size ≤ g) :
    RetF w (.returned (.tuple #[.agg #[.slice A n c, .int .i64 K], .int .i64 err])) w' ys K' err' := by
  subst h1; subst h2; exact ⟨A, n, c, rfl, hI, hb, hf⟩
theorem ints_far {w : World} {A : Option Addr} {n : Nat} {xs : List Int} (h : IntsAt w A n xs) {b : Nat} (hf : n = 0 ∨ ∃ g, A = some ⟨g, 0, none⟩ ∧ b ≠ g) (u v : Value) : IntsAt ((w.setCell ⟨b, 0, none⟩ u).setCell ⟨b, 1, none⟩ v) A n xs := by
  rcases hf with rfl | ⟨g, rfl, hg⟩
  · exact ⟨h.len, h.small, h.wf, fun hn => absurd hn (by omega)⟩
  · exact ints_store2 h rfl hg u v

/-- What the operation on two numbers answers. -/
def comb (s x y : Int) : Int := 1 * x + s * y
theorem comb_bd {s x y : Int} (hs : s = 1 ∨ s = -1) (hx : -1048576 ≤ x ∧ x ≤ 1048576) (hy : -1048576 ≤ y ∧ y ≤ 1048576) : -9223372036854775808 ≤ comb s x y ∧ comb s x y ≤ 9223372036854775807 := by
  unfold comb; rcases hs with rfl | rfl <;> omega

theorem op_add (x y : Int) (hx : -1048576 ≤ x ∧ x ≤ 1048576) (hy : -1048576 ≤ y ∧ y ≤ 1048576) (w : World) :
    Calls Try.prog 39 #[.int .i64 x, .int .i64 y] w fun e w' => e = .returned (.int .i64 (comb 1 x y)) ∧ w = w' := by
  go_enter Try.func39, Try.ntmps39
  go_wp2
  go_ret
  exact ⟨ret1 (vint (by unfold comb; (try unfold wrap64); omega)), rfl⟩

set_option maxHeartbeats 4000000 in
theorem zip_add (A : Option Addr) (n c : Nat) (xs : List Int) (A' : Option Addr) (n' c' : Nat) (ys : List Int) (w : World) (hI : IntsAt w A n xs) (hI' : IntsAt w A' n' ys) (hnn : n ≤ n') (hx : Tame xs) (hy : Tame ys) :
    Calls Try.prog 47 #[.slice A n c, .slice A' n' c', .func (.func 39) #[] #[]] w fun e w' =>
      ∃ g, e = .returned (.slice (some ⟨g, 0, none⟩) n n) ∧ w.heap.size ≤ g ∧ IntsAt w' (some ⟨g, 0, none⟩) n (mixL n 1 xs 1 ys) ∧ Below w.heap.size w w' ∧ OwnRow w' g n (mixL n 1 xs 1 ys) := by
  have hsm := hI.small
  have hmk := make_ints n hsm
  have hrow0 := OwnRow.new w (zeros n) n (zeros_len n)
  have hB0 := below_alloc w (.cells ((zeros n).map (Value.int .i64)).toArray 3)
  go_enter Try.func47, Try.ntmps47
  go_wp2
  go_loopw [14] (fun v wr => ∃ i : Nat, i ≤ n ∧ v = .int .i64 i ∧ OwnRow wr w.heap.size n (mixTo n 1 xs 1 ys i) ∧ Below w.heap.size w wr) (fun v _ => n - (intOf v).toNat)
  case atStart => exact ⟨0, Nat.zero_le _, rfl, by rw [mix_zero]; exact hrow0, hB0⟩
  case round =>
    obtain ⟨i, hi, rfl, hrow, hBw⟩ := hrel
    clear hrow0 hB0 hmk
    by_cases hlt : i < n
    · obtain ⟨bl, off, rfl, hbl, hc⟩ := hI.cells (by omega)
      obtain ⟨bl', off', rfl, hbl', hc'⟩ := hI'.cells (by omega)
      have hcell := (hBw.cell (p := ⟨bl, off + i, none⟩) hbl).trans (hc i hlt)
      have hcell' := (hBw.cell (p := ⟨bl', off' + i, none⟩) hbl').trans (hc' i (by omega))
      have hfr := hrow.free i
      have hcr := hrow.cell hlt
      have q1 : (i : Int) < n := by omega
      have q2 : (i : Int) < n' := by omega
      have n3 : w.heap.size ≠ bl := by omega
      have n4 : w.heap.size ≠ bl' := by omega
      have f2 := hrow.set hlt (1 * xs[i]?.getD 0 + 1 * ys[i]?.getD 0)
      rw [mix_step] at f2
      have F2 := Lib.hid f2
      have F6 := Lib.hid ((hBw.setCell (p := ⟨w.heap.size, i, none⟩) (Nat.le_refl _) (.int .i64 (1 * xs[i]?.getD 0 + 1 * ys[i]?.getD 0))).drew)
      clear hc hc' f2
      go_wp2
      go_region_held3 (fun W => W.cell? ⟨bl, off + i, none⟩ = some (.int .i64 (xs[i]?.getD 0)) ∧ W.cell? ⟨bl', off' + i, none⟩ = some (.int .i64 (ys[i]?.getD 0))) (go_keep)
        (first | (go_at_call 39; refine (op_add _ _ (hx i) (hy i) _).mono ?_; rintro e w3 ⟨rfl, rfl⟩))
      all_goals
        clear n3 n4 hcell hcell' hcr hfr hrow hBw
        go_wp2
        go_roundw
        case rel => exact ⟨i + 1, by omega, by go_num, F2.out, F6.out⟩
        case measure => simp [intOf]; omega
    · obtain rfl : i = n := by omega
      rw [mix_all] at hrow
      have hw : ∀ z ∈ mixL i 1 xs 1 ys, -9223372036854775808 ≤ z ∧ z ≤ 9223372036854775807 := mix_wf (by decide) (by decide) hx hy
      go_wp2
      go_ret
      exact ⟨_, rfl, Nat.le_refl _, hrow.ints hsm hw, hBw, hrow⟩

set_option maxHeartbeats 4000000 in
theorem both_add (A : Option Addr) (n c : Nat) (K : Int) (xs : List Int) (A' : Option Addr) (n' c' : Nat) (L : Int) (ys : List Int) (w : World) (hI : IntsAt w A n xs) (hI' : IntsAt w A' n' ys) :
    Calls Try.prog 38 #[.agg #[.slice A n c, .int .i64 K], .agg #[.slice A' n' c', .int .i64 L], .func (.func 39) #[] #[]] w fun e w' => RetO w e w' (sX 1 xs K ys L) (sK 1 xs K ys L) (sE 1 xs K ys L) := by
  have B1 := ((LBox.new w A n c K).alloc (.cells #[.slice A' n' c', .int .i64 L] 24)).alloc (.cells #[.slice none 0 0, .int .i64 0] 24)
  have B2 := (LBox.new (w.alloc (.cells #[.slice A n c, .int .i64 K] 24)) A' n' c' L).alloc (.cells #[.slice none 0 0, .int .i64 0] 24)
  have B3 := LBox.new ((w.alloc (.cells #[.slice A n c, .int .i64 K] 24)).alloc (.cells #[.slice A' n' c', .int .i64 L] 24)) none 0 0 0
  have hB := below_step (below_step (below_alloc w (.cells #[.slice A n c, .int .i64 K] 24)) (below_alloc _ (.cells #[.slice A' n' c', .int .i64 L] 24))) (below_alloc _ (.cells #[.slice none 0 0, .int .i64 0] 24))
  have h1 := hI.step hB
  have h2 := hI'.step hB
  simp only [World.size_alloc] at B2 B3
  by_cases hp : pairErr xs K ys L = 0
  · obtain ⟨hv, hv', hll⟩ := pair_zero hp
    have hnn : n ≤ n' := by have a1 := hI.len; have a2 := hI'.len; omega
    have HV := Lib.hid (And.intro hv hv')
    obtain ⟨kk, hkk⟩ : ∃ kk, comb 1 K L = kk := ⟨_, rfl⟩
    have hkk' : 1 * K + 1 * L = kk := hkk
    have HKK := Lib.hid hkk
    cases hr : validB (mixL n 1 xs 1 ys) kk
    · have HE := Lib.hid (s_bad (s := 1) hp hI.len (by rw [hkk']; exact hr))
      have HP := Lib.hid hp
      clear hkk hkk' hp hv hv' hll hI hI'
      go_enter Try.func38, Try.ntmps38
      go_wp2_with (go_at_call 23; refine (lin_pair _ _ _ _ xs _ _ _ _ ys _ h1 h2).mono ?_; rintro e w1 ⟨rfl, hb⟩; rw [HP.out]; replace h1 := h1.step hb; replace h2 := h2.step hb; replace B1 := B1.step hb; replace B2 := B2.step hb; replace B3 := B3.step hb; replace hB := below_step hB hb; have c10 := B1.c0; have c11 := B1.c1; have c20 := B2.c0; have c21 := B2.c1)
      have l3 := B3.lt
      have l0 : w.heap.size < w1.heap.size := by omega
      have l1 : w.heap.size + 1 < w1.heap.size := by omega
      have m0 : w.heap.size + 1 + 1 ≠ w.heap.size := by omega
      have Z := Lib.hid (zip_add A n c xs A' n' c' ys w1.drew (h1.step (Below.refl _ w1).drew) (h2.step (Below.refl _ w1).drew) hnn (valid_tame HV.out.1) (valid_tame HV.out.2))
      have hO := valid_k HV.out.1
      have hO' := valid_k HV.out.2
      go_region_held3 (fun W => W.cell? ⟨w.heap.size, 0, none⟩ = some (.slice A n c) ∧ W.cell? ⟨w.heap.size, 1, none⟩ = some (.int .i64 K) ∧ W.cell? ⟨w.heap.size + 1, 0, none⟩ = some (.slice A' n' c') ∧ W.cell? ⟨w.heap.size + 1, 1, none⟩ = some (.int .i64 L)) (go_keep)
        (first
          | (go_at_call 47; refine Z.out.mono ?_; rintro e w2 ⟨g5, rfl, hg5, I5, hb2, O5⟩; have hb2' := (Below.refl w1.heap.size w1).drew.trans hb2; have k0 := (hb2'.cell (p := ⟨w.heap.size, 0, none⟩) l0).trans c10; have k1 := (hb2'.cell (p := ⟨w.heap.size, 1, none⟩) l0).trans c11; have k2 := (hb2'.cell (p := ⟨w.heap.size + 1, 0, none⟩) l1).trans c20; have k3 := (hb2'.cell (p := ⟨w.heap.size + 1, 1, none⟩) l1).trans c21)
          | (go_at_call 39; refine (op_add _ _ hO hO' _).mono ?_; rintro e w4 ⟨rfl, rfl⟩; rw [HKK.out])
          | (go_at_call 26; refine (lin_fit_bad _ _ _ _ _ _ I5 hr).mono ?_; rintro e w3 ⟨rfl, hb3⟩; have hb3' := below_step hb2' hb3; have k0 := (hb3'.cell (p := ⟨w.heap.size, 0, none⟩) l0).trans c10; have k1 := (hb3'.cell (p := ⟨w.heap.size, 1, none⟩) l0).trans c11; have k2 := (hb3'.cell (p := ⟨w.heap.size + 1, 0, none⟩) l1).trans c20; have k3 := (hb3'.cell (p := ⟨w.heap.size + 1, 1, none⟩) l1).trans c21; have B4 := B3.step hb3'; have c30 := B4.c0; have c31 := B4.c1; have f30 := B4.f 0; have f31 := B4.f 1))
      all_goals
        have c40 := B4.s0 (.slice none 0 0)
        have c41 := (B4.store none 0 0 0).c1
        have hEnd := below_step hB hb3'
        clear k0 k1 k2 k3 c10 c11 c20 c21 m0
        go_wp2
        refine bodyPost_ret (v := .tuple #[.agg #[.slice none 0 0, .int .i64 0], .int .i64 3]) (by simp [results, Try.results38, go_sem, c40, c41]) rfl ?_
        rw [HE.out.2.1]
        exact ret_o HE.out.1 HE.out.2.2 (ints_nil _ _) (below_store2 hEnd (by omega) _ _) (.inl rfl)
    · have HE := Lib.hid (show sE 1 xs K ys L = 0 ∧ sX 1 xs K ys L = mixL n 1 xs 1 ys ∧ sK 1 xs K ys L = kk from hkk' ▸ s_ok (s := 1) hp hI.len (by rw [hkk']; exact hr))
      have HP := Lib.hid hp
      clear hkk hkk' hp hv hv' hll hI hI'
      go_enter Try.func38, Try.ntmps38
      go_wp2_with (go_at_call 23; refine (lin_pair _ _ _ _ xs _ _ _ _ ys _ h1 h2).mono ?_; rintro e w1 ⟨rfl, hb⟩; rw [HP.out]; replace h1 := h1.step hb; replace h2 := h2.step hb; replace B1 := B1.step hb; replace B2 := B2.step hb; replace B3 := B3.step hb; replace hB := below_step hB hb; have c10 := B1.c0; have c11 := B1.c1; have c20 := B2.c0; have c21 := B2.c1)
      have l3 := B3.lt
      have l0 : w.heap.size < w1.heap.size := by omega
      have l1 : w.heap.size + 1 < w1.heap.size := by omega
      have m0 : w.heap.size + 1 + 1 ≠ w.heap.size := by omega
      have Z := Lib.hid (zip_add A n c xs A' n' c' ys w1.drew (h1.step (Below.refl _ w1).drew) (h2.step (Below.refl _ w1).drew) hnn (valid_tame HV.out.1) (valid_tame HV.out.2))
      have hO := valid_k HV.out.1
      have hO' := valid_k HV.out.2
      go_region_held3 (fun W => W.cell? ⟨w.heap.size, 0, none⟩ = some (.slice A n c) ∧ W.cell? ⟨w.heap.size, 1, none⟩ = some (.int .i64 K) ∧ W.cell? ⟨w.heap.size + 1, 0, none⟩ = some (.slice A' n' c') ∧ W.cell? ⟨w.heap.size + 1, 1, none⟩ = some (.int .i64 L)) (go_keep)
        (first
          | (go_at_call 47; refine Z.out.mono ?_; rintro e w2 ⟨g5, rfl, hg5, I5, hb2, O5⟩; have hb2' := (Below.refl w1.heap.size w1).drew.trans hb2; have k0 := (hb2'.cell (p := ⟨w.heap.size, 0, none⟩) l0).trans c10; have k1 := (hb2'.cell (p := ⟨w.heap.size, 1, none⟩) l0).trans c11; have k2 := (hb2'.cell (p := ⟨w.heap.size + 1, 0, none⟩) l1).trans c20; have k3 := (hb2'.cell (p := ⟨w.heap.size + 1, 1, none⟩) l1).trans c21)
          | (go_at_call 39; refine (op_add _ _ hO hO' _).mono ?_; rintro e w4 ⟨rfl, rfl⟩; rw [HKK.out])
          | (go_at_call 26; refine (lin_fit_ok _ _ _ _ _ _ I5 hr).mono ?_; rintro e w3 ⟨rfl, hb3⟩; have hb3' := below_step hb2' hb3; have k0 := (hb3'.cell (p := ⟨w.heap.size, 0, none⟩) l0).trans c10; have k1 := (hb3'.cell (p := ⟨w.heap.size, 1, none⟩) l0).trans c11; have k2 := (hb3'.cell (p := ⟨w.heap.size + 1, 0, none⟩) l1).trans c20; have k3 := (hb3'.cell (p := ⟨w.heap.size + 1, 1, none⟩) l1).trans c21; have B4 := B3.step hb3'; have c30 := B4.c0; have c31 := B4.c1; have f30 := B4.f 0; have f31 := B4.f 1))
      all_goals
        have c40 := B4.s0 (.slice (some ⟨g5, 0, none⟩) n n)
        have c41 := (B4.store (some ⟨g5, 0, none⟩) n n kk).c1
        have hEnd := below_step hB hb3'
        have hg6 : w1.heap.size ≤ g5 := hg5
        clear k0 k1 k2 k3 c10 c11 c20 c21 m0
        go_wp2
        refine bodyPost_ret (v := .tuple #[.agg #[.slice (some ⟨g5, 0, none⟩) n n, .int .i64 kk], .int .i64 0]) (by simp [results, Try.results38, go_sem, c40, c41]) rfl ?_
        rw [HE.out.2.1]
        exact ret_o HE.out.1 HE.out.2.2 (ints_store2 (I5.step hb3) rfl (by omega) _ _) (below_store2 hEnd (by omega) _ _) (.inr ⟨g5, rfl, by omega, (O5.step hb3).store2 (by omega) _ _⟩)
  · have HE := Lib.hid (s_err (s := 1) hp)
    have q1 : (pairErr xs K ys L != 0) = true := by simpa using hp
    have q2 : (pairErr xs K ys L == 0) = false := by simpa using hp
    clear hp hI hI'
    go_enter Try.func38, Try.ntmps38
    go_wp2_with (go_at_call 23; refine (lin_pair _ _ _ _ xs _ _ _ _ ys _ h1 h2).mono ?_; rintro e w1 ⟨rfl, hb⟩; replace B3 := B3.step hb; replace hB := below_step hB hb; have c30 := B3.c0; have c31 := B3.c1; have f30 := B3.f 0; have f31 := B3.f 1; have c40 := B3.s0 (.slice none 0 0); have c41 := (B3.store none 0 0 0).c1)
    refine bodyPost_ret (v := .tuple #[.agg #[.slice none 0 0, .int .i64 0], .int .i64 (pairErr xs K ys L)]) (by simp [results, Try.results38, go_sem, c40, c41]) rfl ?_
    rw [HE.out.2.1]
    exact ret_o HE.out.1 HE.out.2.2 (ints_nil _ _) (below_store2 hB (by omega) _ _) (.inl rfl)

theorem op_sub (x y : Int) (hx : -1048576 ≤ x ∧ x ≤ 1048576) (hy : -1048576 ≤ y ∧ y ≤ 1048576) (w : World) :
    Calls Try.prog 40 #[.int .i64 x, .int .i64 y] w fun e w' => e = .returned (.int .i64 (comb (-1) x y)) ∧ w = w' := by
  go_enter Try.func40, Try.ntmps40
  go_wp2
  go_ret
  exact ⟨ret1 (vint (by unfold comb; (try unfold wrap64); omega)), rfl⟩

set_option maxHeartbeats 4000000 in
theorem zip_sub (A : Option Addr) (n c : Nat) (xs : List Int) (A' : Option Addr) (n' c' : Nat) (ys : List Int) (w : World) (hI : IntsAt w A n xs) (hI' : IntsAt w A' n' ys) (hnn : n ≤ n') (hx : Tame xs) (hy : Tame ys) :
    Calls Try.prog 47 #[.slice A n c, .slice A' n' c', .func (.func 40) #[] #[]] w fun e w' =>
      ∃ g, e = .returned (.slice (some ⟨g, 0, none⟩) n n) ∧ w.heap.size ≤ g ∧ IntsAt w' (some ⟨g, 0, none⟩) n (mixL n 1 xs (-1) ys) ∧ Below w.heap.size w w' ∧ OwnRow w' g n (mixL n 1 xs (-1) ys) := by
  have hsm := hI.small
  have hmk := make_ints n hsm
  have hrow0 := OwnRow.new w (zeros n) n (zeros_len n)
  have hB0 := below_alloc w (.cells ((zeros n).map (Value.int .i64)).toArray 3)
  go_enter Try.func47, Try.ntmps47
  go_wp2
  go_loopw [14] (fun v wr => ∃ i : Nat, i ≤ n ∧ v = .int .i64 i ∧ OwnRow wr w.heap.size n (mixTo n 1 xs (-1) ys i) ∧ Below w.heap.size w wr) (fun v _ => n - (intOf v).toNat)
  case atStart => exact ⟨0, Nat.zero_le _, rfl, by rw [mix_zero]; exact hrow0, hB0⟩
  case round =>
    obtain ⟨i, hi, rfl, hrow, hBw⟩ := hrel
    clear hrow0 hB0 hmk
    by_cases hlt : i < n
    · obtain ⟨bl, off, rfl, hbl, hc⟩ := hI.cells (by omega)
      obtain ⟨bl', off', rfl, hbl', hc'⟩ := hI'.cells (by omega)
      have hcell := (hBw.cell (p := ⟨bl, off + i, none⟩) hbl).trans (hc i hlt)
      have hcell' := (hBw.cell (p := ⟨bl', off' + i, none⟩) hbl').trans (hc' i (by omega))
      have hfr := hrow.free i
      have hcr := hrow.cell hlt
      have q1 : (i : Int) < n := by omega
      have q2 : (i : Int) < n' := by omega
      have n3 : w.heap.size ≠ bl := by omega
      have n4 : w.heap.size ≠ bl' := by omega
      have f2 := hrow.set hlt (1 * xs[i]?.getD 0 + (-1) * ys[i]?.getD 0)
      rw [mix_step] at f2
      have F2 := Lib.hid f2
      have F6 := Lib.hid ((hBw.setCell (p := ⟨w.heap.size, i, none⟩) (Nat.le_refl _) (.int .i64 (1 * xs[i]?.getD 0 + (-1) * ys[i]?.getD 0))).drew)
      clear hc hc' f2
      go_wp2
      go_region_held3 (fun W => W.cell? ⟨bl, off + i, none⟩ = some (.int .i64 (xs[i]?.getD 0)) ∧ W.cell? ⟨bl', off' + i, none⟩ = some (.int .i64 (ys[i]?.getD 0))) (go_keep)
        (first | (go_at_call 40; refine (op_sub _ _ (hx i) (hy i) _).mono ?_; rintro e w3 ⟨rfl, rfl⟩))
      all_goals
        clear n3 n4 hcell hcell' hcr hfr hrow hBw
        go_wp2
        go_roundw
        case rel => exact ⟨i + 1, by omega, by go_num, F2.out, F6.out⟩
        case measure => simp [intOf]; omega
    · obtain rfl : i = n := by omega
      rw [mix_all] at hrow
      have hw : ∀ z ∈ mixL i 1 xs (-1) ys, -9223372036854775808 ≤ z ∧ z ≤ 9223372036854775807 := mix_wf (by decide) (by decide) hx hy
      go_wp2
      go_ret
      exact ⟨_, rfl, Nat.le_refl _, hrow.ints hsm hw, hBw, hrow⟩

set_option maxHeartbeats 4000000 in
theorem both_sub (A : Option Addr) (n c : Nat) (K : Int) (xs : List Int) (A' : Option Addr) (n' c' : Nat) (L : Int) (ys : List Int) (w : World) (hI : IntsAt w A n xs) (hI' : IntsAt w A' n' ys) :
    Calls Try.prog 38 #[.agg #[.slice A n c, .int .i64 K], .agg #[.slice A' n' c', .int .i64 L], .func (.func 40) #[] #[]] w fun e w' => RetO w e w' (sX (-1) xs K ys L) (sK (-1) xs K ys L) (sE (-1) xs K ys L) := by
  have B1 := ((LBox.new w A n c K).alloc (.cells #[.slice A' n' c', .int .i64 L] 24)).alloc (.cells #[.slice none 0 0, .int .i64 0] 24)
  have B2 := (LBox.new (w.alloc (.cells #[.slice A n c, .int .i64 K] 24)) A' n' c' L).alloc (.cells #[.slice none 0 0, .int .i64 0] 24)
  have B3 := LBox.new ((w.alloc (.cells #[.slice A n c, .int .i64 K] 24)).alloc (.cells #[.slice A' n' c', .int .i64 L] 24)) none 0 0 0
  have hB := below_step (below_step (below_alloc w (.cells #[.slice A n c, .int .i64 K] 24)) (below_alloc _ (.cells #[.slice A' n' c', .int .i64 L] 24))) (below_alloc _ (.cells #[.slice none 0 0, .int .i64 0] 24))
  have h1 := hI.step hB
  have h2 := hI'.step hB
  simp only [World.size_alloc] at B2 B3
  by_cases hp : pairErr xs K ys L = 0
  · obtain ⟨hv, hv', hll⟩ := pair_zero hp
    have hnn : n ≤ n' := by have a1 := hI.len; have a2 := hI'.len; omega
    have HV := Lib.hid (And.intro hv hv')
    obtain ⟨kk, hkk⟩ : ∃ kk, comb (-1) K L = kk := ⟨_, rfl⟩
    have hkk' : 1 * K + (-1) * L = kk := hkk
    have HKK := Lib.hid hkk
    cases hr : validB (mixL n 1 xs (-1) ys) kk
    · have HE := Lib.hid (s_bad (s := (-1)) hp hI.len (by rw [hkk']; exact hr))
      have HP := Lib.hid hp
      clear hkk hkk' hp hv hv' hll hI hI'
      go_enter Try.func38, Try.ntmps38
      go_wp2_with (go_at_call 23; refine (lin_pair _ _ _ _ xs _ _ _ _ ys _ h1 h2).mono ?_; rintro e w1 ⟨rfl, hb⟩; rw [HP.out]; replace h1 := h1.step hb; replace h2 := h2.step hb; replace B1 := B1.step hb; replace B2 := B2.step hb; replace B3 := B3.step hb; replace hB := below_step hB hb; have c10 := B1.c0; have c11 := B1.c1; have c20 := B2.c0; have c21 := B2.c1)
      have l3 := B3.lt
      have l0 : w.heap.size < w1.heap.size := by omega
      have l1 : w.heap.size + 1 < w1.heap.size := by omega
      have m0 : w.heap.size + 1 + 1 ≠ w.heap.size := by omega
      have Z := Lib.hid (zip_sub A n c xs A' n' c' ys w1.drew (h1.step (Below.refl _ w1).drew) (h2.step (Below.refl _ w1).drew) hnn (valid_tame HV.out.1) (valid_tame HV.out.2))
      have hO := valid_k HV.out.1
      have hO' := valid_k HV.out.2
      go_region_held3 (fun W => W.cell? ⟨w.heap.size, 0, none⟩ = some (.slice A n c) ∧ W.cell? ⟨w.heap.size, 1, none⟩ = some (.int .i64 K) ∧ W.cell? ⟨w.heap.size + 1, 0, none⟩ = some (.slice A' n' c') ∧ W.cell? ⟨w.heap.size + 1, 1, none⟩ = some (.int .i64 L)) (go_keep)
        (first
          | (go_at_call 47; refine Z.out.mono ?_; rintro e w2 ⟨g5, rfl, hg5, I5, hb2, O5⟩; have hb2' := (Below.refl w1.heap.size w1).drew.trans hb2; have k0 := (hb2'.cell (p := ⟨w.heap.size, 0, none⟩) l0).trans c10; have k1 := (hb2'.cell (p := ⟨w.heap.size, 1, none⟩) l0).trans c11; have k2 := (hb2'.cell (p := ⟨w.heap.size + 1, 0, none⟩) l1).trans c20; have k3 := (hb2'.cell (p := ⟨w.heap.size + 1, 1, none⟩) l1).trans c21)
          | (go_at_call 40; refine (op_sub _ _ hO hO' _).mono ?_; rintro e w4 ⟨rfl, rfl⟩; rw [HKK.out])
          | (go_at_call 26; refine (lin_fit_bad _ _ _ _ _ _ I5 hr).mono ?_; rintro e w3 ⟨rfl, hb3⟩; have hb3' := below_step hb2' hb3; have k0 := (hb3'.cell (p := ⟨w.heap.size, 0, none⟩) l0).trans c10; have k1 := (hb3'.cell (p := ⟨w.heap.size, 1, none⟩) l0).trans c11; have k2 := (hb3'.cell (p := ⟨w.heap.size + 1, 0, none⟩) l1).trans c20; have k3 := (hb3'.cell (p := ⟨w.heap.size + 1, 1, none⟩) l1).trans c21; have B4 := B3.step hb3'; have c30 := B4.c0; have c31 := B4.c1; have f30 := B4.f 0; have f31 := B4.f 1))
      all_goals
        have c40 := B4.s0 (.slice none 0 0)
        have c41 := (B4.store none 0 0 0).c1
        have hEnd := below_step hB hb3'
        clear k0 k1 k2 k3 c10 c11 c20 c21 m0
        go_wp2
        refine bodyPost_ret (v := .tuple #[.agg #[.slice none 0 0, .int .i64 0], .int .i64 3]) (by simp [results, Try.results38, go_sem, c40, c41]) rfl ?_
        rw [HE.out.2.1]
        exact ret_o HE.out.1 HE.out.2.2 (ints_nil _ _) (below_store2 hEnd (by omega) _ _) (.inl rfl)
    · have HE := Lib.hid (show sE (-1) xs K ys L = 0 ∧ sX (-1) xs K ys L = mixL n 1 xs (-1) ys ∧ sK (-1) xs K ys L = kk from hkk' ▸ s_ok (s := (-1)) hp hI.len (by rw [hkk']; exact hr))
      have HP := Lib.hid hp
      clear hkk hkk' hp hv hv' hll hI hI'
      go_enter Try.func38, Try.ntmps38
      go_wp2_with (go_at_call 23; refine (lin_pair _ _ _ _ xs _ _ _ _ ys _ h1 h2).mono ?_; rintro e w1 ⟨rfl, hb⟩; rw [HP.out]; replace h1 := h1.step hb; replace h2 := h2.step hb; replace B1 := B1.step hb; replace B2 := B2.step hb; replace B3 := B3.step hb; replace hB := below_step hB hb; have c10 := B1.c0; have c11 := B1.c1; have c20 := B2.c0; have c21 := B2.c1)
      have l3 := B3.lt
      have l0 : w.heap.size < w1.heap.size := by omega
      have l1 : w.heap.size + 1 < w1.heap.size := by omega
      have m0 : w.heap.size + 1 + 1 ≠ w.heap.size := by omega
      have Z := Lib.hid (zip_sub A n c xs A' n' c' ys w1.drew (h1.step (Below.refl _ w1).drew) (h2.step (Below.refl _ w1).drew) hnn (valid_tame HV.out.1) (valid_tame HV.out.2))
      have hO := valid_k HV.out.1
      have hO' := valid_k HV.out.2
      go_region_held3 (fun W => W.cell? ⟨w.heap.size, 0, none⟩ = some (.slice A n c) ∧ W.cell? ⟨w.heap.size, 1, none⟩ = some (.int .i64 K) ∧ W.cell? ⟨w.heap.size + 1, 0, none⟩ = some (.slice A' n' c') ∧ W.cell? ⟨w.heap.size + 1, 1, none⟩ = some (.int .i64 L)) (go_keep)
        (first
          | (go_at_call 47; refine Z.out.mono ?_; rintro e w2 ⟨g5, rfl, hg5, I5, hb2, O5⟩; have hb2' := (Below.refl w1.heap.size w1).drew.trans hb2; have k0 := (hb2'.cell (p := ⟨w.heap.size, 0, none⟩) l0).trans c10; have k1 := (hb2'.cell (p := ⟨w.heap.size, 1, none⟩) l0).trans c11; have k2 := (hb2'.cell (p := ⟨w.heap.size + 1, 0, none⟩) l1).trans c20; have k3 := (hb2'.cell (p := ⟨w.heap.size + 1, 1, none⟩) l1).trans c21)
          | (go_at_call 40; refine (op_sub _ _ hO hO' _).mono ?_; rintro e w4 ⟨rfl, rfl⟩; rw [HKK.out])
          | (go_at_call 26; refine (lin_fit_ok _ _ _ _ _ _ I5 hr).mono ?_; rintro e w3 ⟨rfl, hb3⟩; have hb3' := below_step hb2' hb3; have k0 := (hb3'.cell (p := ⟨w.heap.size, 0, none⟩) l0).trans c10; have k1 := (hb3'.cell (p := ⟨w.heap.size, 1, none⟩) l0).trans c11; have k2 := (hb3'.cell (p := ⟨w.heap.size + 1, 0, none⟩) l1).trans c20; have k3 := (hb3'.cell (p := ⟨w.heap.size + 1, 1, none⟩) l1).trans c21; have B4 := B3.step hb3'; have c30 := B4.c0; have c31 := B4.c1; have f30 := B4.f 0; have f31 := B4.f 1))
      all_goals
        have c40 := B4.s0 (.slice (some ⟨g5, 0, none⟩) n n)
        have c41 := (B4.store (some ⟨g5, 0, none⟩) n n kk).c1
        have hEnd := below_step hB hb3'
        have hg6 : w1.heap.size ≤ g5 := hg5
        clear k0 k1 k2 k3 c10 c11 c20 c21 m0
        go_wp2
        refine bodyPost_ret (v := .tuple #[.agg #[.slice (some ⟨g5, 0, none⟩) n n, .int .i64 kk], .int .i64 0]) (by simp [results, Try.results38, go_sem, c40, c41]) rfl ?_
        rw [HE.out.2.1]
        exact ret_o HE.out.1 HE.out.2.2 (ints_store2 (I5.step hb3) rfl (by omega) _ _) (below_store2 hEnd (by omega) _ _) (.inr ⟨g5, rfl, by omega, (O5.step hb3).store2 (by omega) _ _⟩)
  · have HE := Lib.hid (s_err (s := (-1)) hp)
    have q1 : (pairErr xs K ys L != 0) = true := by simpa using hp
    have q2 : (pairErr xs K ys L == 0) = false := by simpa using hp
    clear hp hI hI'
    go_enter Try.func38, Try.ntmps38
    go_wp2_with (go_at_call 23; refine (lin_pair _ _ _ _ xs _ _ _ _ ys _ h1 h2).mono ?_; rintro e w1 ⟨rfl, hb⟩; replace B3 := B3.step hb; replace hB := below_step hB hb; have c30 := B3.c0; have c31 := B3.c1; have f30 := B3.f 0; have f31 := B3.f 1; have c40 := B3.s0 (.slice none 0 0); have c41 := (B3.store none 0 0 0).c1)
    refine bodyPost_ret (v := .tuple #[.agg #[.slice none 0 0, .int .i64 0], .int .i64 (pairErr xs K ys L)]) (by simp [results, Try.results38, go_sem, c40, c41]) rfl ?_
    rw [HE.out.2.1]
    exact ret_o HE.out.1 HE.out.2.2 (ints_nil _ _) (below_store2 hB (by omega) _ _) (.inl rfl)


theorem lin_Add (A : Option Addr) (n c : Nat) (K : Int) (xs : List Int) (A' : Option Addr) (n' c' : Nat) (L : Int) (ys : List Int) (w : World) (hI : IntsAt w A n xs) (hI' : IntsAt w A' n' ys) :
    Calls Try.prog 19 #[.agg #[.slice A n c, .int .i64 K], .agg #[.slice A' n' c', .int .i64 L]] w fun e w' => RetO w e w' (sX 1 xs K ys L) (sK 1 xs K ys L) (sE 1 xs K ys L) := by
  have B3 := LBox.new ((w.alloc (.cells #[.slice A n c, .int .i64 K] 24)).alloc (.cells #[.slice A' n' c', .int .i64 L] 24)) none 0 0 0
  have hB := below_step (below_step (below_alloc w (.cells #[.slice A n c, .int .i64 K] 24)) (below_alloc _ (.cells #[.slice A' n' c', .int .i64 L] 24))) (below_alloc _ (.cells #[.slice none 0 0, .int .i64 0] 24))
  have h1 := hI.step hB
  have h2 := hI'.step hB
  simp only [World.size_alloc] at B3
  clear hI hI'
  go_enter Try.func19, Try.ntmps19
  go_wp2_with (go_at_call 38; refine (both_add _ _ _ _ xs _ _ _ _ ys _ h1 h2).mono ?_; rintro e w1 ⟨A5, n5, c5, rfl, I5, hb, hf⟩; have l3 := B3.lt; have hf1 : n5 = 0 ∨ ∃ g, A5 = some ⟨g, 0, none⟩ ∧ w.heap.size + 1 + 1 < g ∧ OwnRow w1 g n5 (sX 1 xs K ys L) := hf.imp id (fun ⟨g, h, h', ho⟩ => ⟨g, h, Nat.lt_of_lt_of_le l3 h', ho⟩); replace B3 := B3.step hb; replace hB := below_step hB hb; have c30 := B3.c0; have c31 := B3.c1; have f30 := B3.f 0; have f31 := B3.f 1; have c40 := B3.s0 (.slice A5 n5 c5); have c41 := (B3.store A5 n5 c5 (sK 1 xs K ys L)).c1)
  refine bodyPost_ret (v := .tuple #[.agg #[.slice A5 n5 c5, .int .i64 (sK 1 xs K ys L)], .int .i64 (sE 1 xs K ys L)]) (by simp [results, Try.results19, go_sem, c40, c41]) rfl ?_
  exact ret_o rfl rfl (ints_far I5 (hf1.imp id (fun ⟨g, h, h', _⟩ => ⟨g, h, by omega⟩)) _ _) (below_store2 hB (by omega) _ _) (hf1.imp id (fun ⟨g, h, h', ho⟩ => ⟨g, h, by omega, ho.store2 (by omega) _ _⟩))

theorem lin_Sub (A : Option Addr) (n c : Nat) (K : Int) (xs : List Int) (A' : Option Addr) (n' c' : Nat) (L : Int) (ys : List Int) (w : World) (hI : IntsAt w A n xs) (hI' : IntsAt w A' n' ys) :
    Calls Try.prog 21 #[.agg #[.slice A n c, .int .i64 K], .agg #[.slice A' n' c', .int .i64 L]] w fun e w' => RetO w e w' (sX (-1) xs K ys L) (sK (-1) xs K ys L) (sE (-1) xs K ys L) := by
  have B3 := LBox.new ((w.alloc (.cells #[.slice A n c, .int .i64 K] 24)).alloc (.cells #[.slice A' n' c', .int .i64 L] 24)) none 0 0 0
  have hB := below_step (below_step (below_alloc w (.cells #[.slice A n c, .int .i64 K] 24)) (below_alloc _ (.cells #[.slice A' n' c', .int .i64 L] 24))) (below_alloc _ (.cells #[.slice none 0 0, .int .i64 0] 24))
  have h1 := hI.step hB
  have h2 := hI'.step hB
  simp only [World.size_alloc] at B3
  clear hI hI'
  go_enter Try.func21, Try.ntmps21
  go_wp2_with (go_at_call 38; refine (both_sub _ _ _ _ xs _ _ _ _ ys _ h1 h2).mono ?_; rintro e w1 ⟨A5, n5, c5, rfl, I5, hb, hf⟩; have l3 := B3.lt; have hf1 : n5 = 0 ∨ ∃ g, A5 = some ⟨g, 0, none⟩ ∧ w.heap.size + 1 + 1 < g ∧ OwnRow w1 g n5 (sX (-1) xs K ys L) := hf.imp id (fun ⟨g, h, h', ho⟩ => ⟨g, h, Nat.lt_of_lt_of_le l3 h', ho⟩); replace B3 := B3.step hb; replace hB := below_step hB hb; have c30 := B3.c0; have c31 := B3.c1; have f30 := B3.f 0; have f31 := B3.f 1; have c40 := B3.s0 (.slice A5 n5 c5); have c41 := (B3.store A5 n5 c5 (sK (-1) xs K ys L)).c1)
  refine bodyPost_ret (v := .tuple #[.agg #[.slice A5 n5 c5, .int .i64 (sK (-1) xs K ys L)], .int .i64 (sE (-1) xs K ys L)]) (by simp [results, Try.results21, go_sem, c40, c41]) rfl ?_
  exact ret_o rfl rfl (ints_far I5 (hf1.imp id (fun ⟨g, h, h', _⟩ => ⟨g, h, by omega⟩)) _ _) (below_store2 hB (by omega) _ _) (hf1.imp id (fun ⟨g, h, h', ho⟩ => ⟨g, h, by omega, ho.store2 (by omega) _ _⟩))

end Go.Proofs.Ytdcapokamdmneab
