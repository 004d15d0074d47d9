/-
  For all expressions a and b, all integers k and i and all lists x of integers, LinValues returns true and leaves memory as it was. No condition.
-/
import Derived.Test.YtdcapokamdmneabRows
import Derived.Test.YtdcapokamdmneabKit
import Derived.Test.YtdcapokamdmneabLinKit
import Derived.Test.YtdcapokamdmneabLinBase
import Derived.Test.YtdcapokamdmneabLinMake
import Derived.Test.YtdcapokamdmneabLinAwake
import Derived.Test.YtdcapokamdmneabLinArgsC
import Derived.Test.YtdcapokamdmneabLinSum
import Derived.Test.YtdcapokamdmneabLinScale
import Derived.Test.YtdcapokamdmneabLinCut
import Derived.Test.YtdcapokamdmneabLinRoom
import Derived.Test.YtdcapokamdmneabLinRoomErr
import Derived.Test.YtdcapokamdmneabLinRoomNil
import Derived.Test.YtdcapokamdmneabValMath
import Derived.Test.YtdcapokamdmneabAppendInts
import Derived.Test.YtdcapokamdmneabRegInv
import Derived.Test.YtdcapokamdmneabSliceCut
import Derived.Deep.RegionLaw
import Derived.Deep.Cut
set_option linter.unusedVariables false
namespace Go.Proofs.Ytdcapokamdmneab.linValues
open Go.ChangeShapes Go.WideShapes Go.ChangeAt Go.RowKit

/-- What stays known of the world from block to block. -/
def Good (w W : World) (A : Option Addr) (n c : Nat) (K : Int) (xs : List Int) (A' : Option Addr) (n' c' : Nat) (L : Int) (ys : List Int) (Ap : Option Addr) (np : Nat) (ps : List Int) : Prop :=
  IntsAt W A n xs ∧ IntsAt W A' n' ys ∧ IntsAt W Ap np ps ∧ LBox W w.heap.size A n c K ∧ LBox W (w.heap.size + 1) A' n' c' L ∧ Below w.heap.size w W

theorem at_zero {xs ps : List Int} {K : Int} {n np : Nat} (hl : xs.length = n) (hp : ps.length = np) (h : atErr xs K ps = 0) :
    validB xs K = true ∧ n = np ∧ n ≤ 12 ∧ (∀ j, j < n → goodAt xs ps j) ∧ atVal xs K ps = K + dotSum xs ps n := by
  have hv : validB xs K = true := by
    cases hv : validB xs K
    · rw [(at_invalid (ps := ps) hv).2.symm] at h; cases h
    · rfl
  have h0 : dotErr xs ps = 0 := by
    by_cases h0 : dotErr xs ps = 0
    · exact h0
    · rw [← (at_bad hv h0).2] at h; exact absurd h h0
  obtain ⟨a1, a2, a3⟩ := dotErr_zero.1 h0
  refine ⟨hv, by omega, by omega, fun j hj => a3 j (by omega), ?_⟩
  unfold atVal
  rw [if_pos h, hl]

theorem sum_zero {s : Int} {xs ys : List Int} {K L : Int} {n : Nat} (hl : xs.length = n) (h : sE s xs K ys L = 0) :
    pairErr xs K ys L = 0 ∧ validB (mixL n 1 xs s ys) (1 * K + s * L) = true ∧ sX s xs K ys L = mixL n 1 xs s ys ∧ sK s xs K ys L = 1 * K + s * L := by
  by_cases hp : pairErr xs K ys L = 0
  · cases hr : validB (mixL n 1 xs s ys) (1 * K + s * L)
    · rw [(s_bad hp hl hr).1] at h; cases h
    · have := s_ok hp hl hr
      exact ⟨hp, rfl, this.2.1, this.2.2⟩
  · rw [(s_err hp).1] at h; exact absurd h hp

theorem scale_zero {xs : List Int} {K k : Int} {n : Nat} (hl : xs.length = n) (hv : validB xs K = true) (h : kE xs K k = 0) :
    validB (kX xs K k) (kK xs K k) = true ∧ (kX xs K k).length = n ∧ ∀ ps, kK xs K k + dotSum (kX xs K k) ps n = (K + dotSum xs ps n) * k := by
  cases hz : zB xs K
  · cases hk : fitsB k
    · rw [(k_fit hv hz hk).1] at h; cases h
    · cases hr : validB (scL n k xs) (scK k K)
      · rw [(k_bad hv hz hk hl hr).1] at h; cases h
      · obtain ⟨_, e2, e3⟩ := k_ok hv hz hk hl hr
        rw [e2, e3]
        refine ⟨hr, by simp [scL, mixL], fun ps => ?_⟩
        unfold scL scK
        rw [dot_mix n (Nat.le_refl _), Int.add_mul, Int.mul_comm k K, Int.mul_comm k (dotSum xs ps n)]
        omega
  · obtain ⟨_, e2, e3⟩ := k_zero (k := k) hv hz hl
    rw [e2, e3]
    obtain ⟨hx, hK⟩ := sameB_true.1 hz
    have hd : ∀ ps i, dotSum (zeros n) ps i = 0 := fun ps i => by
      induction i with
      | zero => rfl
      | succ i ih =>
        simp only [dotSum, ih]
        have : (zeros n)[i]?.getD 0 = 0 := by
          by_cases hi : i < n <;> simp [zeros, hi]
        rw [this]; simp
    refine ⟨?_, by simp [zeros], fun ps => ?_⟩
    · rw [zeros_valid (by have := (validB_true.1 hv).1; omega)]; decide
    · rw [hd, hK, hx, hl, hd]; simp

set_option maxHeartbeats 4000000 in
theorem put_zero {xs ys : List Int} {K L i : Int} {n : Nat} (hl : xs.length = n) (h : pE xs K i ys L = 0) :
    ∃ j : Nat, i = j ∧ j < n ∧ validB (putL n xs j ys) (K + xs[j]?.getD 0 * L) = true ∧ pXs xs K i ys L = putL n xs j ys ∧ pK xs K i ys L = K + xs[j]?.getD 0 * L := by
  by_cases hp : pairErr xs K ys L = 0
  · by_cases hi : inB xs i = true
    · have e1 : pXs xs K i ys L = putXs n xs K i.toNat ys L := by unfold pXs; rw [if_pos hp, if_pos hi, hl]
      have e2 : pK xs K i ys L = putK n xs K i.toNat ys L := by unfold pK; rw [if_pos hp, if_pos hi, hl]
      have e3 : pE xs K i ys L = putE n xs K i.toNat ys L := by unfold pE; rw [if_pos hp, if_pos hi, hl]
      unfold inB at hi
      have hi' : 0 ≤ i ∧ i < (n : Int) := by rw [← hl]; simpa using hi
      obtain ⟨j, rfl⟩ : ∃ j : Nat, i = j := ⟨i.toNat, by omega⟩
      simp only [Int.toNat_natCast] at e1 e2 e3
      rw [e3] at h
      cases hr : validB (putL n xs j ys) (K + xs[j]?.getD 0 * L)
      · rw [putE_bad (i := j) hr] at h; cases h
      · exact ⟨j, rfl, by omega, hr, by rw [e1]; exact putXs_ok hr, by rw [e2]; exact putK_ok hr⟩
    · have e3 : pE xs K i ys L = 6 := by unfold pE; rw [if_pos hp, if_neg hi]
      rw [e3] at h; cases h
  · have e3 : pE xs K i ys L = pairErr xs K ys L := by unfold pE; rw [if_neg hp]
    rw [e3] at h; exact absurd h hp

theorem room_case (K : Int) (xs : List Int) (i : Int) (hv : validB xs K = true) :
    (∃ E, E ≠ 0 ∧ ∀ (A : Option Addr) (n c : Nat) (W : World), CapAt W.heap.size A n c → IntsAt W A n xs → Calls Try.prog 11 #[.agg #[.slice A n c, .int .i64 K], .int .i64 i, .int .i64 1] W fun e w' => LinRet W e w' [] 0 E) ∨
    (∃ j : Nat, i = j ∧ j ≤ xs.length ∧ xs.length + 1 ≤ 12 ∧ ∀ (A : Option Addr) (n c : Nat) (W : World), CapAt W.heap.size A n c → IntsAt W A n xs → Calls Try.prog 11 #[.agg #[.slice A n c, .int .i64 K], .int .i64 i, .int .i64 1] W fun e w' => RetC W e w' (roomL xs j 1) K 0) := by
  by_cases hi : 0 ≤ i ∧ i ≤ (xs.length : Int)
  · by_cases hk : xs.length + 1 ≤ 12
    · obtain ⟨j, rfl⟩ : ∃ j : Nat, i = j := ⟨i.toNat, by omega⟩
      refine .inr ⟨j, rfl, by omega, hk, fun A n c w hC hI => ?_⟩
      have hl := hI.len
      obtain ⟨⟨hnone, hnc, hcc⟩, hat⟩ := hC
      cases A with
      | none =>
        obtain ⟨rfl, rfl⟩ := hnone rfl
        have hx : xs = [] := List.eq_nil_of_length_eq_zero hl
        subst hx
        have hj : j = 0 := by simp at hi; omega
        subst hj
        exact lin_room_nil K 1 w hv (by omega)
      | some ad =>
        obtain ⟨b, off, sp⟩ := ad
        obtain ⟨h1, h2⟩ := hat _ rfl
        have h1 : sp = none := h1
        have h2 : b < w.heap.size := h2
        subst h1
        have hc : ∀ j, j < n → w.cell? ⟨b, off + j, none⟩ = some (.int .i64 (xs[j]?.getD 0)) := fun j hj => by
          obtain ⟨b', off', e', _, hc⟩ := hI.cells (by omega)
          simp only [Option.some.injEq, Addr.mk.injEq, and_true] at e'
          obtain ⟨rfl, rfl⟩ := e'
          exact hc j hj
        exact lin_room_ok b off n c K xs j 1 w hI h2 hc hnc (by omega) hv (by omega) (by omega)
    · refine .inl ⟨3, by decide, fun A n c w hC hI => ?_⟩
      have hl := hI.len
      exact (lin_room_full A n c K xs i 1 w hI hv hi.1 (by omega) (by omega) (by omega)).mono fun _ _ h => h.lin
  · refine .inl ⟨6, by decide, fun A n c w hC hI => ?_⟩
    have hl := hI.len
    exact (lin_room_rng A n c K xs i 1 w hI hv (by omega)).mono fun _ _ h => h.lin

/-- The facts of the operations that put a 7 between the two parts of a list. -/
def insFacts (Ap : Option Addr) (np cp : Nat) (ps : List Int) (j : Nat) (Aq : Option Addr) (B : Nat) : Nat → Fact B
  | 0 => .own 3 0 []
  | 1 => .val (.slice Ap np cp)
  | 2 => .val (.int .i64 j)
  | 3 => .val (.slice Ap j cp)
  | 4 => .own 3 (0 + j) ([] ++ vals (ps.take j))
  | 5 => .own 3 1 (vals [7])
  | 6 => .own 3 (0 + j + 1) ([] ++ vals (ps.take j) ++ vals [7])
  | 7 => .val (.slice Ap np cp)
  | 8 => .val (.int .i64 j)
  | 9 => .val (.slice Aq (np - j) (cp - j))
  | 10 => .own 3 (0 + j + 1 + (np - j)) ([] ++ vals (ps.take j) ++ vals [7] ++ vals (ps.drop j))
  | 11 => .own 3 (0 + j + 1 + (np - j)) ([] ++ vals (ps.take j) ++ vals [7] ++ vals (ps.drop j))
  | _ => .any
def insPlan : Plan where
  slots := [140, 141, 142, 143, 144, 145, 146, 147, 148, 149, 150, 28]
  kill := [[], [], [], [], [0], [], [4], [], [], [], [6], [10]]
  need := [[], [], [], [1, 2], [0, 3], [], [4, 5], [], [], [7, 8], [6, 9], [10]]

set_option maxRecDepth 100000 in
set_option maxHeartbeats 40000000 in
theorem walk_ok (w : World) (A : Option Addr) (n c : Nat) (K : Int) (xs : List Int) (h : IntsAt w A n xs) (hC0 : CapAt w.heap.size A n c) (A' : Option Addr) (n' c' : Nat) (L : Int) (ys : List Int) (h' : IntsAt w A' n' ys) (k : Int) (wk : -9223372036854775808 ≤ k ∧ k ≤ 9223372036854775807) (i : Int) (wi : -9223372036854775808 ≤ i ∧ i ≤ 9223372036854775807)
    (Ap : Option Addr) (np cp : Nat) (ps : List Int) (hp : IntsAt w Ap np ps) (hCp0 : CapAt w.heap.size Ap np cp) (he : atErr xs K ps = 0) (he' : atErr ys L ps = 0) :
    Calls Try.prog 5 #[.agg #[.slice A n c, .int .i64 K], .agg #[.slice A' n' c', .int .i64 L], .int .i64 k, .int .i64 i, .slice Ap np cp] w fun e w' => e = .returned (.bool true) ∧ Below w.heap.size w w' := by
  have hB := below_step (below_alloc w (.cells #[.slice A n c, .int .i64 K] 24)) (below_alloc _ (.cells #[.slice A' n' c', .int .i64 L] 24))
  have B1 := (LBox.new w A n c K).alloc (.cells #[.slice A' n' c', .int .i64 L] 24)
  have B2 := LBox.new (w.alloc (.cells #[.slice A n c, .int .i64 K] 24)) A' n' c' L
  rw [World.size_alloc] at B2
  have h1 := h.step hB
  have h2 := h'.step hB
  have h3 := hp.step hB
  obtain ⟨hv, hln, h12, hgx, hmx⟩ := at_zero h.len hp.len he
  obtain ⟨hv', hln', h12', hgy, hmy⟩ := at_zero h'.len hp.len he'
  have hnn : n' = n := by omega
  subst hnn
  have hpn : np = n' := hln.symm
  subst hpn
  have HF := Lib.hid (And.intro hv (And.intro hv' (And.intro h12 (And.intro hgx (And.intro hgy (And.intro hmx hmy))))))
  have HL := Lib.hid (And.intro h.len (And.intro h'.len hp.len))
  clear hv hv' hln hln' h12 h12' hgx hgy hmx hmy
  have HE := Lib.hid he
  have HE' := Lib.hid he'
  obtain ⟨mv, hmv⟩ : ∃ mv, atVal xs K ps = mv := ⟨_, rfl⟩
  obtain ⟨nv, hnv⟩ : ∃ nv, atVal ys L ps = nv := ⟨_, rfl⟩
  have HM := Lib.hid hmv
  have HN := Lib.hid hnv
  clear h h' hp he he' hmv hnv
  have T1 : True := trivial
  go_enter Try.func5, Try.ntmps5
  go_upto_if 48 with (first
    | (go_at_call 18; have t1 := T1; clear T1 t1; refine (lin_at _ _ _ _ xs _ _ _ ps _ h1 h3).mono ?_; rintro e w1 ⟨rfl, hb⟩; rw [HE.out, HM.out]; replace h1 := h1.step hb; replace h2 := h2.step hb; replace h3 := h3.step hb; replace B1 := B1.step hb; replace B2 := B2.step hb; have c20 := B2.c0; have c21 := B2.c1; replace hB := below_step hB hb)
    | (go_at_call 18; refine (lin_at _ _ _ _ ys _ _ _ ps _ h2 h3).mono ?_; rintro e w1 ⟨rfl, hb⟩; rw [HE'.out, HN.out]; replace h1 := h1.step hb; replace h2 := h2.step hb; replace h3 := h3.step hb; replace B1 := B1.step hb; replace B2 := B2.step hb; replace hB := below_step hB hb))
  go_cut [] from 15 (fun W => Good w W A np c K xs A' np c' L ys Ap np ps)
  case first =>
    go_wp2
    go_meet
    case rel => exact ⟨h1, h2, h3, B1, B2, hB⟩
  rename_i hrest
  obtain ⟨h1, h2, h3, B1, B2, hB⟩ := hcut
  refine hrest _ _ ?_
  clear hrest
  go_step
  go_cut [] from 15 (fun W => Good w W A np c K xs A' np c' L ys Ap np ps)
  case first =>
    have c10 := B1.c0
    have c11 := B1.c1
    have c20 := B2.c0
    have c21 := B2.c1
    by_cases hE : sE 1 xs K ys L = 0
    · obtain ⟨hpe, hvd, hX, hKK⟩ := sum_zero HL.out.1 hE
      obtain ⟨sv, hop⟩ : ∃ sv, mv + nv = sv := ⟨_, rfl⟩
      rw [← hX, ← hKK] at hvd
      have hlz : (sX 1 xs K ys L).length = np := by rw [hX]; simp [mixL]
      have hval : sK 1 xs K ys L + dotSum (sX 1 xs K ys L) ps np = sv := by
        rw [hX, hKK, dot_mix np (Nat.le_refl _), ← hop, ← HM.out, ← HN.out, HF.out.2.2.2.2.2.1, HF.out.2.2.2.2.2.2]
        omega
      clear hpe hX hKK
      have HV := Lib.hid hval
      have HR := Lib.hid hvd
      have HZ := Lib.hid hlz
      have HQ := Lib.hid hE
      have hw : IntKind.i64.wrap (mv + nv) = sv := by
        rw [hop, ← hval, IntWalk.i64_in _ (by have := sum_bd (validB_true.1 hvd).2.1 (i := np) HF.out.2.2.1 (good_of hvd HF.out.2.2.2.1); omega)]
      clear hval hvd hlz hE hop
      go_wp2_with (first
        | (go_at_call 19; refine (lin_Add _ _ _ _ xs _ _ _ _ ys _ h1 h2).mono ?_; rintro e w2 ⟨A1, n1, c1, rfl, I1, hb, _⟩; rw [HQ.out]; have hn1 := I1.len; rw [HZ.out] at hn1; subst hn1; have t := below_step hb (below_alloc w2 (.cells #[.slice A1 np c1, .int .i64 (sK 1 xs K ys L)] 24)); replace h1 := h1.step t; replace h2 := h2.step t; replace h3 := h3.step t; replace B1 := B1.step t; replace B2 := B2.step t; replace I1 := I1.step (below_alloc w2 (.cells #[.slice A1 np c1, .int .i64 (sK 1 xs K ys L)] 24)); replace hB := below_step hB t)
        | (go_at_call 20; refine (ref_value _ _ _ _ (sX 1 xs K ys L) _ _ _ ps _ I1 h3 (validB_true.1 HR.out).2.1 HF.out.2.2.1 (Nat.le_refl _) (good_of HR.out HF.out.2.2.2.1)).mono ?_; rintro e w3 ⟨rfl, hb2⟩; rw [HV.out]; replace h1 := h1.step hb2; replace h2 := h2.step hb2; replace h3 := h3.step hb2; replace B1 := B1.step hb2; replace B2 := B2.step hb2; replace hB := below_step hB hb2))
      go_meet
      case rel => exact ⟨h1, h2, h3, B1, B2, hB⟩
    · have q1 : (sE 1 xs K ys L == 0) = false := by simpa using hE
      have q2 : (sE 1 xs K ys L != 0) = true := by simpa using hE
      clear hE
      go_wp2_with (go_at_call 19; refine (lin_Add _ _ _ _ xs _ _ _ _ ys _ h1 h2).mono ?_; rintro e w2 ⟨A1, n1, c1, rfl, I1, hb, _⟩; have t := below_step hb (below_alloc w2 (.cells #[.slice A1 n1 c1, .int .i64 (sK 1 xs K ys L)] 24)); replace h1 := h1.step t; replace h2 := h2.step t; replace h3 := h3.step t; replace B1 := B1.step t; replace B2 := B2.step t; replace hB := below_step hB t)
      go_meet
      case rel => exact ⟨h1, h2, h3, B1, B2, hB⟩
  rename_i hrest
  obtain ⟨h1, h2, h3, B1, B2, hB⟩ := hcut
  refine hrest _ _ ?_
  clear hrest
  go_step
  go_cut [] from 15 (fun W => Good w W A np c K xs A' np c' L ys Ap np ps)
  case first =>
    have c10 := B1.c0
    have c11 := B1.c1
    have c20 := B2.c0
    have c21 := B2.c1
    by_cases hE : sE (-1) xs K ys L = 0
    · obtain ⟨hpe, hvd, hX, hKK⟩ := sum_zero HL.out.1 hE
      obtain ⟨sv, hop⟩ : ∃ sv, mv - nv = sv := ⟨_, rfl⟩
      rw [← hX, ← hKK] at hvd
      have hlz : (sX (-1) xs K ys L).length = np := by rw [hX]; simp [mixL]
      have hval : sK (-1) xs K ys L + dotSum (sX (-1) xs K ys L) ps np = sv := by
        rw [hX, hKK, dot_mix np (Nat.le_refl _), ← hop, ← HM.out, ← HN.out, HF.out.2.2.2.2.2.1, HF.out.2.2.2.2.2.2]
        omega
      clear hpe hX hKK
      have HV := Lib.hid hval
      have HR := Lib.hid hvd
      have HZ := Lib.hid hlz
      have HQ := Lib.hid hE
      have hw : IntKind.i64.wrap (mv - nv) = sv := by
        rw [hop, ← hval, IntWalk.i64_in _ (by have := sum_bd (validB_true.1 hvd).2.1 (i := np) HF.out.2.2.1 (good_of hvd HF.out.2.2.2.1); omega)]
      clear hval hvd hlz hE hop
      go_wp2_with (first
        | (go_at_call 21; refine (lin_Sub _ _ _ _ xs _ _ _ _ ys _ h1 h2).mono ?_; rintro e w2 ⟨A1, n1, c1, rfl, I1, hb, _⟩; rw [HQ.out]; have hn1 := I1.len; rw [HZ.out] at hn1; subst hn1; have t := below_step hb (below_alloc w2 (.cells #[.slice A1 np c1, .int .i64 (sK (-1) xs K ys L)] 24)); replace h1 := h1.step t; replace h2 := h2.step t; replace h3 := h3.step t; replace B1 := B1.step t; replace B2 := B2.step t; replace I1 := I1.step (below_alloc w2 (.cells #[.slice A1 np c1, .int .i64 (sK (-1) xs K ys L)] 24)); replace hB := below_step hB t)
        | (go_at_call 20; refine (ref_value _ _ _ _ (sX (-1) xs K ys L) _ _ _ ps _ I1 h3 (validB_true.1 HR.out).2.1 HF.out.2.2.1 (Nat.le_refl _) (good_of HR.out HF.out.2.2.2.1)).mono ?_; rintro e w3 ⟨rfl, hb2⟩; rw [HV.out]; replace h1 := h1.step hb2; replace h2 := h2.step hb2; replace h3 := h3.step hb2; replace B1 := B1.step hb2; replace B2 := B2.step hb2; replace hB := below_step hB hb2))
      go_meet
      case rel => exact ⟨h1, h2, h3, B1, B2, hB⟩
    · have q1 : (sE (-1) xs K ys L == 0) = false := by simpa using hE
      have q2 : (sE (-1) xs K ys L != 0) = true := by simpa using hE
      clear hE
      go_wp2_with (go_at_call 21; refine (lin_Sub _ _ _ _ xs _ _ _ _ ys _ h1 h2).mono ?_; rintro e w2 ⟨A1, n1, c1, rfl, I1, hb, _⟩; have t := below_step hb (below_alloc w2 (.cells #[.slice A1 n1 c1, .int .i64 (sK (-1) xs K ys L)] 24)); replace h1 := h1.step t; replace h2 := h2.step t; replace h3 := h3.step t; replace B1 := B1.step t; replace B2 := B2.step t; replace hB := below_step hB t)
      go_meet
      case rel => exact ⟨h1, h2, h3, B1, B2, hB⟩
  rename_i hrest
  obtain ⟨h1, h2, h3, B1, B2, hB⟩ := hcut
  refine hrest _ _ ?_
  clear hrest
  go_step
  go_cut [] from 15 (fun W => Good w W A np c K xs A' np c' L ys Ap np ps)
  case first =>
    have c10 := B1.c0
    have c11 := B1.c1
    have c20 := B2.c0
    have c21 := B2.c1
    by_cases hE : kE xs K k = 0
    · obtain ⟨hvd, hlz, hval0⟩ := scale_zero HL.out.1 HF.out.1 hE
      obtain ⟨sv, hop⟩ : ∃ sv, mv * k = sv := ⟨_, rfl⟩
      have hval : kK xs K k + dotSum (kX xs K k) ps np = sv := by
        rw [hval0, ← hop, ← HM.out, HF.out.2.2.2.2.2.1]
      clear hval0
      have HV := Lib.hid hval
      have HR := Lib.hid hvd
      have HZ := Lib.hid hlz
      have HQ := Lib.hid hE
      have hw : IntKind.i64.wrap (mv * k) = sv := by
        rw [hop, ← hval, IntWalk.i64_in _ (by have := sum_bd (validB_true.1 hvd).2.1 (i := np) HF.out.2.2.1 (good_of hvd HF.out.2.2.2.1); omega)]
      clear hval hvd hlz hE hop
      go_wp2_with (first
        | (go_at_call 22; refine (lin_scale _ _ _ _ xs k _ h1).mono ?_; rintro e w2 ⟨A1, n1, c1, rfl, I1, hb, _⟩; rw [HQ.out]; have hn1 := I1.len; rw [HZ.out] at hn1; subst hn1; have t := below_step hb (below_alloc w2 (.cells #[.slice A1 np c1, .int .i64 (kK xs K k)] 24)); replace h1 := h1.step t; replace h2 := h2.step t; replace h3 := h3.step t; replace B1 := B1.step t; replace B2 := B2.step t; replace I1 := I1.step (below_alloc w2 (.cells #[.slice A1 np c1, .int .i64 (kK xs K k)] 24)); replace hB := below_step hB t)
        | (go_at_call 20; refine (ref_value _ _ _ _ (kX xs K k) _ _ _ ps _ I1 h3 (validB_true.1 HR.out).2.1 HF.out.2.2.1 (Nat.le_refl _) (good_of HR.out HF.out.2.2.2.1)).mono ?_; rintro e w3 ⟨rfl, hb2⟩; rw [HV.out]; replace h1 := h1.step hb2; replace h2 := h2.step hb2; replace h3 := h3.step hb2; replace B1 := B1.step hb2; replace B2 := B2.step hb2; replace hB := below_step hB hb2))
      go_meet
      case rel => exact ⟨h1, h2, h3, B1, B2, hB⟩
    · have q1 : (kE xs K k == 0) = false := by simpa using hE
      have q2 : (kE xs K k != 0) = true := by simpa using hE
      clear hE
      go_wp2_with (go_at_call 22; refine (lin_scale _ _ _ _ xs k _ h1).mono ?_; rintro e w2 ⟨A1, n1, c1, rfl, I1, hb, _⟩; have t := below_step hb (below_alloc w2 (.cells #[.slice A1 n1 c1, .int .i64 (kK xs K k)] 24)); replace h1 := h1.step t; replace h2 := h2.step t; replace h3 := h3.step t; replace B1 := B1.step t; replace B2 := B2.step t; replace hB := below_step hB t)
      go_meet
      case rel => exact ⟨h1, h2, h3, B1, B2, hB⟩
  rename_i hrest
  obtain ⟨h1, h2, h3, B1, B2, hB⟩ := hcut
  refine hrest _ _ ?_
  clear hrest
  go_step
  go_cut [] from 15 (fun W => Good w W A np c K xs A' np c' L ys Ap np ps)
  case first =>
    have c10 := B1.c0
    have c11 := B1.c1
    have c20 := B2.c0
    have c21 := B2.c1
    by_cases hE : pE xs K i ys L = 0
    · obtain ⟨j, rfl, hj, hvd, hX, hM⟩ := put_zero HL.out.1 hE
      rw [← hX, ← hM] at hvd
      have HR := Lib.hid hvd
      have HQ := Lib.hid hE
      have hlz : (pXs xs K j ys L).length = np := by rw [hX]; simp [putL]
      have HZ := Lib.hid hlz
      have hval : pK xs K j ys L + dotSum (pXs xs K j ys L) ps np = K + dotSum xs (ps.set j nv) np := by
        rw [hX, hM, put_value HL.out.1 HL.out.2.2 hj, ← HN.out, HF.out.2.2.2.2.2.2]
      have HV := Lib.hid hval
      have hj1 : (j : Int) < np := by omega
      clear hX hM hvd hE hlz hval
      go_upto_if 109 with (go_at_call 7; refine (lin_put _ _ _ _ xs _ _ _ _ _ ys _ h1 h2).mono ?_; rintro e w2 ⟨A1, n1, c1, rfl, I1, hb⟩; rw [HQ.out]; have hn1 := I1.len; rw [HZ.out] at hn1; subst hn1; have t := below_step hb (below_alloc w2 (.cells #[.slice A1 np c1, .int .i64 (pK xs K j ys L)] 24)); replace h1 := h1.step t; replace h2 := h2.step t; replace h3 := h3.step t; replace B1 := B1.step t; replace B2 := B2.step t; replace hB := below_step hB t; replace I1 := I1.step (below_alloc w2 (.cells #[.slice A1 np c1, .int .i64 (pK xs K j ys L)] 24)); have P1 := LBox.new w2 A1 np c1 (pK xs K j ys L))
      generalize hW2 : w2.alloc (.cells #[.slice A1 np c1, .int .i64 (pK xs K j ys L)] 24) = W2 at *
      generalize hsb : w2.heap.size = sb at *
      generalize pK xs K j ys L = M at *
      generalize pXs xs K j ys L = X at *
      have hrow : (W2.alloc (.cells #[] 3)).ownsRow W2.heap.size 3 1 (.slice (some ⟨W2.heap.size, 0, none⟩) 0 0) 0 [] := World.ownsRow_lit W2 #[] 0 (Nat.le_refl _) (by decide) rfl
      have h3a := h3.step (below_alloc W2 (.cells #[] 3))
      have hq1 : 0 + np ≤ 17592186044416 := by have := HF.out.2.2.1; omega
      have hq2 : W2.heap.size ≤ (W2.alloc (.cells #[] 3)).heap.size := by simp
      have hq3 : 0 < 0 + np := by omega
      have hnvr : -9223372036854775808 ≤ nv ∧ nv ≤ 9223372036854775807 := by
        have := sum_bd (validB_true.1 HF.out.2.1).2.1 (i := np) HF.out.2.2.1 HF.out.2.2.2.2.1
        rw [← HN.out, HF.out.2.2.2.2.2.2]
        omega
      have hwf : ∀ x ∈ ps.set j nv, -9223372036854775808 ≤ x ∧ x ≤ 9223372036854775807 := fun x hx => by
        rcases List.mem_or_eq_of_mem_set hx with h | h
        · exact h3.wf x h
        · subst h; exact hnvr
      have hsm := h3.small
      have HPL := Lib.hid HL.out.2.2
      clear t hb hW2 hsb
      by_cases ha : atErr xs K (ps.set j nv) = 0
      · have HVV := Lib.hid ((at_zero (np := np) HL.out.1 (by rw [List.length_set]; exact HL.out.2.2) ha).2.2.2.2.trans HV.out.symm)
        obtain ⟨vv, hvv⟩ : ∃ vv, M + dotSum X ps np = vv := ⟨_, rfl⟩
        have HV2 := Lib.hid hvv
        have HA := Lib.hid ha
        clear ha hvv
        go_wp2_with (first
          | (at_builtin; refine wpList_append_ints rfl _ _ rfl W2.heap.size _ _ _ rfl hrow _ _ _ _ rfl h3a hq1 hq2 ?_; intro A3 c3 w4 hown4 hgr4; have hown5 : w4.ownsRow W2.heap.size 3 1 (.slice A3 (0 + np) c3) (0 + np) (ps.map (Value.int .i64)) := hown4; obtain ⟨g, cap, e4, hg, OR⟩ := ownRow_of_owns hown5 hq3; simp only [Value.slice.injEq, true_and] at e4; obtain ⟨rfl, rfl⟩ := e4; rw [Nat.zero_add] at OR; have hb4 := ((Below.refl W2.heap.size W2).alloc (Nat.le_refl _) (.cells #[] 3)).grown hgr4 hq2 (fun k e => by cases e; exact Nat.le_refl _); have d0 := OR.cell hj; have d1 := OR.free j; have hb5 := hb4.setCell (p := ⟨g, j, none⟩) hg (.int .i64 nv); have OR5 := OR.set hj nv; have IY := OR5.ints (by omega) hwf; have J1 := h1.step hb5; have BB := B1.step hb5; have c10 := BB.c0; have c11 := BB.c1)
          | (go_at_call 18; refine (lin_at _ _ _ _ xs _ _ _ (ps.set j nv) _ J1 IY).mono ?_; rintro e w6 ⟨rfl, hb6⟩; rw [HA.out, HVV.out, HV2.out]; have hb7 := hb5.trans (hb6.mono hb5.size); replace h1 := h1.step hb7; replace h2 := h2.step hb7; replace h3 := h3.step hb7; replace B1 := B1.step hb7; replace B2 := B2.step hb7; replace hB := below_step hB hb7; replace I1 := I1.step hb7; replace P1 := P1.step hb7; have p0 := P1.c0; have p1 := P1.c1)
          | (go_at_call 20; refine (ref_value _ _ _ _ X _ _ _ ps _ I1 h3 (validB_true.1 HR.out).2.1 HF.out.2.2.1 (Nat.le_refl _) (good_of HR.out HF.out.2.2.2.1)).mono ?_; rintro e w7 ⟨rfl, hb8⟩; rw [HV2.out]; replace h1 := h1.step hb8; replace h2 := h2.step hb8; replace h3 := h3.step hb8; replace B1 := B1.step hb8; replace B2 := B2.step hb8; replace hB := below_step hB hb8))
        go_meet
        case rel => exact ⟨h1, h2, h3, B1, B2, hB⟩
      · have q1 : (atErr xs K (ps.set j nv) == 0) = false := by simpa using ha
        have q2 : (atErr xs K (ps.set j nv) != 0) = true := by simpa using ha
        clear ha
        go_wp2_with (first
          | (at_builtin; refine wpList_append_ints rfl _ _ rfl W2.heap.size _ _ _ rfl hrow _ _ _ _ rfl h3a hq1 hq2 ?_; intro A3 c3 w4 hown4 hgr4; have hown5 : w4.ownsRow W2.heap.size 3 1 (.slice A3 (0 + np) c3) (0 + np) (ps.map (Value.int .i64)) := hown4; obtain ⟨g, cap, e4, hg, OR⟩ := ownRow_of_owns hown5 hq3; simp only [Value.slice.injEq, true_and] at e4; obtain ⟨rfl, rfl⟩ := e4; rw [Nat.zero_add] at OR; have hb4 := ((Below.refl W2.heap.size W2).alloc (Nat.le_refl _) (.cells #[] 3)).grown hgr4 hq2 (fun k e => by cases e; exact Nat.le_refl _); have d0 := OR.cell hj; have d1 := OR.free j; have hb5 := hb4.setCell (p := ⟨g, j, none⟩) hg (.int .i64 nv); have OR5 := OR.set hj nv; have IY := OR5.ints (by omega) hwf; have J1 := h1.step hb5; have BB := B1.step hb5; have c10 := BB.c0; have c11 := BB.c1)
          | (go_at_call 18; refine (lin_at _ _ _ _ xs _ _ _ (ps.set j nv) _ J1 IY).mono ?_; rintro e w6 ⟨rfl, hb6⟩; have hb7 := hb5.trans (hb6.mono hb5.size); replace h1 := h1.step hb7; replace h2 := h2.step hb7; replace h3 := h3.step hb7; replace B1 := B1.step hb7; replace B2 := B2.step hb7; replace hB := below_step hB hb7; replace I1 := I1.step hb7; replace P1 := P1.step hb7; have p0 := P1.c0; have p1 := P1.c1))
        go_meet
        case rel => exact ⟨h1, h2, h3, B1, B2, hB⟩
    · have q1 : (pE xs K i ys L == 0) = false := by simpa using hE
      have q2 : (pE xs K i ys L != 0) = true := by simpa using hE
      clear hE
      go_wp2_with (go_at_call 7; refine (lin_put _ _ _ _ xs _ _ _ _ _ ys _ h1 h2).mono ?_; rintro e w2 ⟨A1, n1, c1, rfl, I1, hb⟩; have t := below_step hb (below_alloc w2 (.cells #[.slice A1 n1 c1, .int .i64 (pK xs K i ys L)] 24)); replace h1 := h1.step t; replace h2 := h2.step t; replace h3 := h3.step t; replace B1 := B1.step t; replace B2 := B2.step t; replace hB := below_step hB t)
      go_meet
      case rel => exact ⟨h1, h2, h3, B1, B2, hB⟩
  rename_i hrest
  obtain ⟨h1, h2, h3, B1, B2, hB⟩ := hcut
  refine hrest _ _ ?_
  clear hrest
  go_step
  go_cut [] from 15 (fun W => Good w W A np c K xs A' np c' L ys Ap np ps)
  case first =>
    have hC := hC0.mono hB.size
    have hCp := hCp0.mono hB.size
    have c10 := B1.c0
    have c11 := B1.c1
    rcases room_case K xs i HF.out.1 with ⟨E, hE, hr⟩ | ⟨j, rfl, hj, hj12, hr⟩
    · have q1 : (E == 0) = false := by simpa using hE
      have q2 : (E != 0) = true := by simpa using hE
      have HR := Lib.hid hr
      clear hE hr
      go_wp2_with (go_at_call 11; refine (HR.out _ _ _ _ hC h1).mono ?_; rintro e w2 ⟨A1, n1, c1, rfl, I1, hb⟩; have t := below_step hb (below_alloc w2 (.cells #[.slice A1 n1 c1, .int .i64 0] 24)); replace h1 := h1.step t; replace h2 := h2.step t; replace h3 := h3.step t; replace B1 := B1.step t; replace B2 := B2.step t; replace hB := below_step hB t)
      go_meet
      case rel => exact ⟨h1, h2, h3, B1, B2, hB⟩
    · have HR := Lib.hid hr
      rw [HL.out.1] at hj hj12
      have hlz : (roomL xs j 1).length = np + 1 := room_len HL.out.1 hj
      have HZ := Lib.hid hlz
      have hvX := Lib.hid (room_valid HF.out.1 (by rw [HL.out.1]; exact hj12) (by rw [HL.out.1]; exact hj))
      have hgX := Lib.hid (room_good hvX.out HL.out.1 HL.out.2.2 hj HF.out.2.2.2.1)
      have hzX := Lib.hid (show (roomL xs j 1)[j]?.getD 0 = 0 from ins_at (by rw [HL.out.1]; exact hj))
      have hbX := Lib.hid (room_back HL.out.1 hj)
      have hval := Lib.hid (show K + dotSum (roomL xs j 1) (ps.take j ++ [7] ++ ps.drop j) (np + 1) = mv by
        rw [room_value HL.out.1 HL.out.2.2 hj, ← HM.out, HF.out.2.2.2.2.2.1])
      generalize roomL xs j 1 = X at *
      clear hlz hr
      have hj1 : (j : Int) ≤ np := by omega
      go_upto_if 139 with (go_at_call 11; refine (HR.out _ _ _ _ hC h1).mono ?_; rintro e w2 ⟨A1, n1, c1, rfl, I1, hb, hfr, hcap⟩; have hn1 := I1.len; rw [HZ.out] at hn1; subst hn1; have t := below_step hb (below_alloc w2 (.cells #[.slice A1 (np + 1) c1, .int .i64 K] 24)); replace h1 := h1.step t; replace h2 := h2.step t; replace h3 := h3.step t; replace B1 := B1.step t; replace B2 := B2.step t; replace hB := below_step hB t; replace hC := hC.mono t.size; replace hCp := hCp.mono t.size; replace I1 := I1.step (below_alloc w2 (.cells #[.slice A1 (np + 1) c1, .int .i64 K] 24)); have P1 := LBox.new w2 A1 (np + 1) c1 K)
      generalize hW2 : w2.alloc (.cells #[.slice A1 (np + 1) c1, .int .i64 K] 24) = W2 at *
      generalize hsb : w2.heap.size = sb at *
      obtain ⟨g1, rfl⟩ : ∃ g1, A1 = some ⟨g1, 0, none⟩ := by
        rcases hfr with h0 | ⟨g, e, _⟩
        · omega
        · exact ⟨g, e⟩
      clear t hb hW2 hsb hfr
      go_wp2
      obtain ⟨Aq, hsl, hsi⟩ := slice_high hCp hj HL.out.2.2
      go_cut [28] from 31 (fun v W => ∃ Ay cy, v = .slice Ay (np + 1) cy ∧ IntsAt W Ay (np + 1) (ps.take j ++ [7] ++ ps.drop j) ∧ Below W2.heap.size W2 W)
      case first =>
        rename_i hJ hK
        have hnp := HF.out.2.2.1
        have hpl := HL.out.2.2
        have HSL := Lib.hid (fun (a : Act) (W : World) (o : Oper) (k l : Nat) ho hx hy => hsl (a := a) (W := W) (o := o) (k := k) (l := l) ho hx hy)
        have HSI := Lib.hid (fun (W : World) hh => hsi (W := W) hh)
        have HLO := Lib.hid (fun (a : Act) (W : World) (o : Oper) (k l : Nat) (ho : o.op = .slice 22 (.tmp k) none (some (.tmp l)) none) hx hy => slice_low hCp hj (a := a) (W := W) ho hx hy)
        have HC := Lib.hid hCp
        have J1 : ∀ W : World, Below W2.heap.size W2 W → IntsAt W Ap j (ps.take j) := fun W hW => by
          have h := h3.step hW
          by_cases hj0 : j = 0
          · subst hj0; exact ⟨by simp, by omega, fun x hx => by simp at hx, fun h0 => absurd h0 (by omega)⟩
          · obtain ⟨b', off', e', _, _⟩ := h.cells (by omega)
            subst e'
            simpa using sub_ints (d := 0) (k := j) h (by omega)
        have HJ1 := Lib.hid J1
        clear hsl hsi hCp hC J1
        refine wp_region_plan (by rfl) insPlan (insFacts Ap np cp ps j Aq W2.heap.size) (fun W => Below W2.heap.size W2 W) (by kernel_rfl) rfl (Below.refl _ _).drew ?_ ?_
        case refine_2 =>
          intro a W hS hsz hdf hold hf
          have ho := hf 11 (by decide) (by decide)
          have ho : W.ownsRow W2.heap.size 3 1 (a.tmps.getD 28 undef) (0 + j + 1 + (np - j)) ([] ++ vals (ps.take j) ++ vals [7] ++ vals (ps.drop j)) := ho
          rw [List.nil_append, ← vals_app, ← vals_app, show 0 + j + 1 + (np - j) = np + 1 by omega] at ho
          obtain ⟨Ay, cy, ey, Iy⟩ := own_ints ho (by omega) (fun x hx => by
            simp only [List.mem_append] at hx
            rcases hx with (hx | hx) | hx
            · exact h3.wf x (List.mem_of_mem_take hx)
            · rw [List.mem_singleton.1 hx]; omega
            · exact h3.wf x (List.mem_of_mem_drop hx))
          refine hK _ _ (Met.intro (hJ _ _ ?_))
          repeat apply Exists.intro
          exact ⟨⟨Ay, cy, ey, Iy, hS⟩, act_lit (n := 173) insPlan hsz hdf hold⟩
        refine ⟨?_, ?_, ?_, ?_, ?_, ?_, ?_, ?_, ?_, ?_, ?_, ?_, trivial⟩ <;> intro a W hS hold hn hap hsz0 <;> have hsz : Hid (a.tmps.size = 173) := Lib.hid hsz0 <;> clear hsz0
        · refine step_lit (cs := #[]) rfl rfl (slot_lt hsz (by kernel_rfl)) rfl (by decide) hS.size ?_ (hS.alloc hS.size _)
          go_simp
        · have e2 := getd (hold 4 rfl)
          refine step_val rfl rfl (slot_lt hsz (by kernel_rfl)) ?_ hS
          go_simp
        · have e2 := getd (hold 3 rfl)
          refine step_val rfl rfl (slot_lt hsz (by kernel_rfl)) ?_ hS
          go_simp
        · obtain ⟨f1, f2, _⟩ := hn
          exact step_val rfl rfl (slot_lt hsz (by kernel_rfl)) (HLO.out a W _ 141 142 rfl f1 f2) hS
        · obtain ⟨f1, f2, _⟩ := hn
          have f1 : W.ownsRow W2.heap.size 3 1 (a.tmps.getD 140 undef) (0) ([]) := f1
          have f2 : a.tmps.getD 143 undef = _ := f2
          refine step_more rfl rfl (slot_lt hsz (by kernel_rfl)) rfl rfl ?_ (fun w' hg => hS.grown hg hS.size fun k hk => (f1.lt k hk).1)
          obtain ⟨v', w', r1, r2, r3, r4⟩ := append_ints W W2.heap.size 22 _ _ _ f1 _ _ _ _ (HJ1.out W hS) (by omega) hS.size
          exact ⟨v', w', exec_append rfl rfl f2 r1, r2, r3, r4⟩
        · refine step_lit (cs := #[.int .i64 7]) rfl rfl (slot_lt hsz (by kernel_rfl)) rfl (by decide) hS.size ?_ (hS.alloc hS.size _)
          go_simp
        · obtain ⟨f1, f2, _⟩ := hn
          have f1 : W.ownsRow W2.heap.size 3 1 (a.tmps.getD 144 undef) (0 + j) ([] ++ vals (ps.take j)) := f1
          have f2 : W.ownsRow W2.heap.size 3 1 (a.tmps.getD 145 undef) 1 (vals [7]) := f2
          obtain ⟨A2, c2, e2, i2⟩ := own_ints f2 (by omega) (fun x hx => by rw [List.mem_singleton.1 hx]; omega)
          refine step_more rfl rfl (slot_lt hsz (by kernel_rfl)) rfl rfl ?_ (fun w' hg => hS.grown hg hS.size fun k hk => (f1.lt k hk).1)
          obtain ⟨v', w', r1, r2, r3, r4⟩ := append_ints W W2.heap.size 22 _ _ _ f1 _ _ _ _ i2 (by omega) hS.size
          exact ⟨v', w', exec_append rfl rfl e2 r1, r2, r3, r4⟩
        · have e2 := getd (hold 4 rfl)
          refine step_val rfl rfl (slot_lt hsz (by kernel_rfl)) ?_ hS
          go_simp
        · have e2 := getd (hold 3 rfl)
          refine step_val rfl rfl (slot_lt hsz (by kernel_rfl)) ?_ hS
          go_simp
        · obtain ⟨f1, f2, _⟩ := hn
          exact step_val rfl rfl (slot_lt hsz (by kernel_rfl)) (HSL.out a W _ 147 148 rfl f1 f2) hS
        · obtain ⟨f1, f2, _⟩ := hn
          have f1 : W.ownsRow W2.heap.size 3 1 (a.tmps.getD 146 undef) (0 + j + 1) ([] ++ vals (ps.take j) ++ vals [7]) := f1
          have f2 : a.tmps.getD 149 undef = _ := f2
          refine step_more rfl rfl (slot_lt hsz (by kernel_rfl)) rfl rfl ?_ (fun w' hg => hS.grown hg hS.size fun k hk => (f1.lt k hk).1)
          obtain ⟨v', w', r1, r2, r3, r4⟩ := append_ints W W2.heap.size 22 _ _ _ f1 _ _ _ _ (HSI.out W (h3.step hS)) (by omega) hS.size
          exact ⟨v', w', exec_append rfl rfl f2 r1, r2, r3, r4⟩
        · obtain ⟨f1, _⟩ := hn
          have f1 : W.ownsRow W2.heap.size 3 1 (a.tmps.getD 150 undef) (0 + j + 1 + (np - j)) ([] ++ vals (ps.take j) ++ vals [7] ++ vals (ps.drop j)) := f1
          generalize hr : a.tmps.getD 150 undef = r at f1
          have e1 := getd hr
          refine step_pass rfl rfl (slot_lt hsz (by kernel_rfl)) rfl rfl hr f1 ?_ hS
          go_simp
      case rest =>
        clear hsl hsi hC hCp
        obtain ⟨Ay, cy, rfl, IY, hbw⟩ := hcut
        replace h1 := h1.step hbw
        replace h2 := h2.step hbw
        replace h3 := h3.step hbw
        replace B1 := B1.step hbw
        replace B2 := B2.step hbw
        replace hB := below_step hB hbw
        replace I1 := I1.step hbw
        replace P1 := P1.step hbw
        obtain ⟨b', off', e', hlg, hcg⟩ := I1.cells (by omega)
        simp only [Option.some.injEq, Addr.mk.injEq, and_true] at e'
        obtain ⟨rfl, rfl⟩ := e'
        have hcu := lin_cut_ok g1 0 (np + 1) c1 K X j wc I1 hlg hcg hcap.1 hcap.2 hvX.out (by omega) hzX.out
        rw [hbX.out] at hcu
        have HCU := Lib.hid hcu
        have p0 := P1.c0
        have p1 := P1.c1
        have hY := Lib.hid (rfl : ps.take j ++ [7] ++ ps.drop j = ps.take j ++ [7] ++ ps.drop j)
        generalize ps.take j ++ [7] ++ ps.drop j = Y at *
        clear hcu hcg hY
        go_wp2_with (first
          | (go_at_call 9; refine HCU.out.mono ?_; rintro e w4 ⟨A4, n4, c4, rfl, I4, hb4, _⟩; have hn4 := I4.len; rw [HL.out.1] at hn4; subst hn4; have t4 := below_step hb4 (below_alloc w4 (.cells #[.slice A4 np c4, .int .i64 K] 24)); replace h1 := h1.step t4; replace h2 := h2.step t4; replace h3 := h3.step t4; replace B1 := B1.step t4; replace B2 := B2.step t4; replace hB := below_step hB t4; replace I1 := I1.step t4; replace IY := IY.step t4; replace P1 := P1.step t4; replace I4 := I4.step (below_alloc w4 (.cells #[.slice A4 np c4, .int .i64 K] 24)); have P4 := LBox.new w4 A4 np c4 K; have p0 := P1.c0; have p1 := P1.c1)
          | (go_at_call 20; refine (ref_value _ _ _ _ X _ _ _ Y _ I1 IY (validB_true.1 hvX.out).2.1 hj12 (Nat.le_refl _) hgX.out).mono ?_; rintro e w5 ⟨rfl, hb5⟩; rw [hval.out]; replace h1 := h1.step hb5; replace h2 := h2.step hb5; replace h3 := h3.step hb5; replace B1 := B1.step hb5; replace B2 := B2.step hb5; replace hB := below_step hB hb5; replace I1 := I1.step hb5; replace IY := IY.step hb5; replace P1 := P1.step hb5; replace I4 := I4.step hb5; replace P4 := P4.step hb5; have q0 := P4.c0; have q1 := P4.c1; have c10 := B1.c0; have c11 := B1.c1)
          | (go_at_call 17; refine (ref_same _ _ _ _ xs _ _ _ _ xs _ I4 h1).mono ?_; rintro e w6 ⟨rfl, hb6⟩; rw [sameB_self]; replace h1 := h1.step hb6; replace h2 := h2.step hb6; replace h3 := h3.step hb6; replace B1 := B1.step hb6; replace B2 := B2.step hb6; replace hB := below_step hB hb6; replace I1 := I1.step hb6; replace IY := IY.step hb6; replace P1 := P1.step hb6))
        go_meet
        case rel => exact ⟨h1, h2, h3, B1, B2, hB⟩
  rename_i hrest
  obtain ⟨h1, h2, h3, B1, B2, hB⟩ := hcut
  refine hrest _ _ ?_
  clear hrest
  go_wp2_with (go_at_call 14; refine (awake2 _).mono ?_; rintro e w3 ⟨rfl, hb⟩; replace hB := below_step hB hb)
  go_ret
  exact ⟨rfl, hB⟩

set_option maxHeartbeats 2000000 in
set_option maxRecDepth 100000 in
theorem walk_err (w : World) (A : Option Addr) (n c : Nat) (K : Int) (xs : List Int) (h : IntsAt w A n xs) (A' : Option Addr) (n' c' : Nat) (L : Int) (ys : List Int) (h' : IntsAt w A' n' ys) (k : Int) (i : Int)
    (Ap : Option Addr) (np cp : Nat) (ps : List Int) (hp : IntsAt w Ap np ps) (he : atErr xs K ps ≠ 0 ∨ (atErr xs K ps = 0 ∧ atErr ys L ps ≠ 0)) :
    Calls Try.prog 5 #[.agg #[.slice A n c, .int .i64 K], .agg #[.slice A' n' c', .int .i64 L], .int .i64 k, .int .i64 i, .slice Ap np cp] w fun e w' => e = .returned (.bool true) ∧ Below w.heap.size w w' := by
  have hB := below_step (below_alloc w (.cells #[.slice A n c, .int .i64 K] 24)) (below_alloc _ (.cells #[.slice A' n' c', .int .i64 L] 24))
  have B1 := (LBox.new w A n c K).alloc (.cells #[.slice A' n' c', .int .i64 L] 24)
  have B2 := LBox.new (w.alloc (.cells #[.slice A n c, .int .i64 K] 24)) A' n' c' L
  rw [World.size_alloc] at B2
  have h1 := h.step hB
  have h2 := h'.step hB
  have h3 := hp.step hB
  have T1 : True := trivial
  rcases he with he | ⟨he, he'⟩
  · have q1 : (atErr xs K ps != 0) = true := by simpa using he
    have q2 : (atErr xs K ps == 0) = false := by simpa using he
    clear h h' hp he
    go_enter Try.func5, Try.ntmps5
    go_wp2_with (first
      | (go_at_call 18; have t1 := T1; clear T1 t1; refine (lin_at _ _ _ _ xs _ _ _ ps _ h1 h3).mono ?_; rintro e w1 ⟨rfl, hb⟩; replace h1 := h1.step hb; replace h2 := h2.step hb; replace h3 := h3.step hb; replace B1 := B1.step hb; replace B2 := B2.step hb; have c20 := B2.c0; have c21 := B2.c1; replace hB := below_step hB hb)
      | (go_at_call 18; refine (lin_at _ _ _ _ ys _ _ _ ps _ h2 h3).mono ?_; rintro e w1 ⟨rfl, hb⟩; replace hB := below_step hB hb)
      | (go_at_call 14; refine (awake2 _).mono ?_; rintro e w3 ⟨rfl, hb⟩; replace hB := below_step hB hb))
    go_ret
    exact ⟨rfl, hB⟩
  · have q1 : (atErr ys L ps != 0) = true := by simpa using he'
    have q2 : (atErr ys L ps == 0) = false := by simpa using he'
    have HE := Lib.hid he
    clear h h' hp he he'
    go_enter Try.func5, Try.ntmps5
    go_wp2_with (first
      | (go_at_call 18; have t1 := T1; clear T1 t1; refine (lin_at _ _ _ _ xs _ _ _ ps _ h1 h3).mono ?_; rintro e w1 ⟨rfl, hb⟩; rw [HE.out]; replace h1 := h1.step hb; replace h2 := h2.step hb; replace h3 := h3.step hb; replace B1 := B1.step hb; replace B2 := B2.step hb; have c20 := B2.c0; have c21 := B2.c1; replace hB := below_step hB hb)
      | (go_at_call 18; refine (lin_at _ _ _ _ ys _ _ _ ps _ h2 h3).mono ?_; rintro e w1 ⟨rfl, hb⟩; replace hB := below_step hB hb)
      | (go_at_call 14; refine (awake2 _).mono ?_; rintro e w3 ⟨rfl, hb⟩; replace hB := below_step hB hb))
    go_ret
    exact ⟨rfl, hB⟩

theorem walk (w : World) (A : Option Addr) (n c : Nat) (K : Int) (xs : List Int) (h : IntsAt w A n xs) (hC0 : CapAt w.heap.size A n c) (hK : -9223372036854775808 ≤ K ∧ K ≤ 9223372036854775807) (A' : Option Addr) (n' c' : Nat) (L : Int) (ys : List Int) (h' : IntsAt w A' n' ys) (hC0' : CapAt w.heap.size A' n' c') (hL : -9223372036854775808 ≤ L ∧ L ≤ 9223372036854775807) (k : Int) (wk : -9223372036854775808 ≤ k) (wk' : k ≤ 9223372036854775807) (i : Int) (wi : -9223372036854775808 ≤ i) (wi' : i ≤ 9223372036854775807)
    (Ap : Option Addr) (np cp : Nat) (ps : List Int) (hp : IntsAt w Ap np ps) (hCp0 : CapAt w.heap.size Ap np cp) :
    Calls Try.prog 5 #[.agg #[.slice A n c, .int .i64 K], .agg #[.slice A' n' c', .int .i64 L], .int .i64 k, .int .i64 i, .slice Ap np cp] w fun e w' => e = .returned (.bool true) ∧ Below w.heap.size w w' := by
  by_cases he : atErr xs K ps = 0
  · by_cases he' : atErr ys L ps = 0
    · exact walk_ok w A n c K xs h hC0 A' n' c' L ys h' k ⟨wk, wk'⟩ i ⟨wi, wi'⟩ Ap np cp ps hp hCp0 he he'
    · exact walk_err w A n c K xs h A' n' c' L ys h' k i Ap np cp ps hp (.inr ⟨he, he'⟩)
  · exact walk_err w A n c K xs h A' n' c' L ys h' k i Ap np cp ps hp (.inl he)

set_option maxRecDepth 100000 in
theorem lifted (os : Os) (started : os.Started) (H : Type) (enc : TypeId × Value → H) :
    ReturnsInHanded {} Try.checked os 5 .any (Rows.linValuesSpec.pre6 enc Try.prog Try.f5 Rows.linValuesRow.domain false) (Rows.linValuesSpec.post enc Try.prog Try.f5 false true false false) := by
  refine returnsInHanded_of_change_sized (C := Try.checked) own started (by kernel_rfl) Try.func5
    (ChangeSpec.witness6 (enc := enc) (C := Try.checked) false ⟨#[], #[.agg #[.slice none 0 0, .int .i64 0], .agg #[.slice none 0 0, .int .i64 0], .int .i64 0, .int .i64 0, .slice none 0 0], []⟩ 8 (by kernel_rfl) (by kernel_rfl) (by kernel_rfl) (by kernel_rfl)) ?_
  intro W base args ds gs before hval0 hW _ hsz0 _
  have hval : ∀ (j : Nat) t v, Try.f5.params[j]? = some t → args[j]? = some v → Value.okWide Try.prog W .any base t v := hval0
  have hW' := hW
  have hlt := hW.lt
  obtain ⟨p, q, hA0, hV, rfl, hfz, hnd⟩ := hW
  have hA : DataW.TrodAll enc Try.prog W 0 (fun _ => true) true Try.f5.params.toList args.toList ds p := hA0
  have hsz : (DataW.weightsEach Try.prog (Try.f5.params.toList ++ []) (ds ++ gs)).all (· ≤ reachBytes) = true := hsz0
  rw [Try.params5] at hA hval hsz
  obtain ⟨rfl, rfl⟩ := trodVars_none hV
  obtain ⟨v0, vs0, d0, ds0, p0, q0, hargs, rfl, rfl, h0, r0⟩ := trodAll_cons hA
  obtain ⟨v1, vs1, d1, ds1, p1, q1, rfl, rfl, rfl, h1, r1⟩ := trodAll_cons r0
  obtain ⟨v2, vs2, d2, ds2, p2, q2, rfl, rfl, rfl, h2, r2⟩ := trodAll_cons r1
  obtain ⟨v3, vs3, d3, ds3, p3, q3, rfl, rfl, rfl, h3, r3⟩ := trodAll_cons r2
  obtain ⟨v4, vs4, d4, ds4, p4, q4, rfl, rfl, rfl, h4, r4⟩ := trodAll_cons r3
  obtain ⟨rfl, rfl, rfl⟩ := trodAll_nil r4
  obtain rfl : args = #[v0, v1, v2, v3, v4] := by cases args; simp_all
  obtain ⟨z0, hsz⟩ := weights_cons hsz
  obtain ⟨z1, hsz⟩ := weights_cons hsz
  obtain ⟨z2, hsz⟩ := weights_cons hsz
  obtain ⟨z3, hsz⟩ := weights_cons hsz
  obtain ⟨z4, hsz⟩ := weights_cons hsz
  have hpost : ∀ W' : World, Below W.heap.size W W' → ∃ v, Ending.returned (.bool true) = .returned v ∧ Rows.linValuesSpec.post enc Try.prog Try.f5 false true false false W #[v0, v1, v2, v3, v4] v W' :=
    fun W' hb => ⟨_, rfl, law_post laidOut (of_decide_eq_true (by kernel_rfl)) rfl rfl Try.underlying4 rfl hW' hb⟩
  obtain ⟨A0, n0, c0, K0, xs0, rfl, I0, C0, k0⟩ := lin_ofD (hval 0 24 v0 rfl rfl) (fun x hx => hlt x (by simp only [List.mem_append]; simp [hx])) z0 h0
  obtain ⟨A1, n1, c1, K1, xs1, rfl, I1, C1, k1⟩ := lin_ofD (hval 1 24 v1 rfl rfl) (fun x hx => hlt x (by simp only [List.mem_append]; simp [hx])) z1 h1
  obtain ⟨a2, rfl, rfl, rfl, w2⟩ := open_int Try.underlying3 (hval 2 3 v2 rfl rfl) h2
  have b2 := bounds_i64 w2
  obtain ⟨a3, rfl, rfl, rfl, w3⟩ := open_int Try.underlying3 (hval 3 3 v3 rfl rfl) h3
  have b3 := bounds_i64 w3
  obtain ⟨A4, n4, c4, xs4, rfl, I4, C4⟩ := ints_ofD (hval 4 22 v4 rfl rfl) (fun x hx => hlt x (by simp only [List.mem_append]; simp [hx])) z4 h4
  refine (walk A0 n0 c0 K0 xs0 I0 C0 k0 A1 n1 c1 K1 xs1 I1 C1 k1 a2 b2.1 b2.2 a3 b3.1 b3.2 A4 n4 c4 xs4 I4 C4 (w := W)).mono fun e W' ⟨he, hb⟩ => ?_
  subst he
  exact hpost W' hb

theorem proved : Rows.LinValuesSaid :=
  OpenClaim.holds_of_wide 5 Try.f5 rfl rfl rfl rfl rfl rfl rfl ⟨rfl, rfl, rfl, rfl, rfl⟩ rfl rfl rfl rfl rfl (by kernel_rfl) Try.func5 (by kernel_rfl)
    (of_decide_eq_true (by kernel_rfl)) (by unfold Func.isWrapper; first | (rw [if_pos (by decide +kernel)]; kernel_rfl) | (rw [if_neg (by decide +kernel)]; exact ⟨rfl, rfl⟩))
    (fun os started H enc _ => lifted os started H enc)
#print axioms proved
end Go.Proofs.Ytdcapokamdmneab.linValues
