/-
  slices.Clone at every slice; cond.shifted; wide.Fits.
-/
import Derived.Test.YtbjkijifpikhkaaProg
import Derived.Test.YtbjkijifpikhkaaKit
import Derived.Test.YtbjkijifpikhkaaLinKit
import Derived.Test.YtbjkijifpikhkaaLinTerms
import Derived.Test.YtbjkijifpikhkaaLinClone
import Derived.Test.YtbjkijifpikhkaaLinPut
import Derived.Test.YtbjkijifpikhkaaLinMix
import Derived.Test.YtbjkijifpikhkaaCondKit
import Derived.Test.YtbjkijifpikhkaaCondNormal
import Derived.Test.YtbjkijifpikhkaaRegInv
namespace Go.Proofs.Ytbjkijifpikhkaa
open Go.RowKit
set_option linter.unusedVariables false
set_option linter.unusedSimpArgs false

/-- A row that a call has made, or nothing. -/
abbrev FreshRow (N : Nat) (w : World) (A : Option Addr) (n : Nat) (xs : List Int) : Prop := n = 0 ∨ ∃ g, A = some ⟨g, 0, none⟩ ∧ N ≤ g ∧ OwnRow w g n xs

theorem clone_any (A : Option Addr) (n c : Nat) (xs : List Int) (w : World) (hI : IntsAt w A n xs) :
    Calls Try.prog 64 #[.slice A n c] w fun e w' => ∃ A' c', e = .returned (.slice A' n c') ∧ IntsAt w' A' n xs ∧ FreshRow w.heap.size w' A' n xs ∧ Below w.heap.size w w' := by
  rcases Nat.eq_zero_or_pos n with rfl | hn
  · obtain rfl : xs = [] := List.length_eq_zero_iff.1 hI.len
    have heq := fun w => run_eql_slice_nil w A 0 c
    cases A with
    | none =>
      go_enter Try.func64, Try.ntmps64
      go_wp2
      go_ret
      exact ⟨none, 0, rfl, ints_nil _ _, .inl rfl, Below.refl _ _⟩
    | some ad =>
      obtain ⟨i0, hi, hz0, hz1, hz2⟩ := info_parts infoInt
      have hown := World.ownsRow_lit (base := w.heap.size) (e := 3) (size := 1) w #[] 0 (Nat.le_refl _) (by decide) (by simp)
      go_enter Try.func64, Try.ntmps64
      go_wp2_with (at_builtin; refine wpList_append_own _ rfl _ _ 22 rfl w.heap.size 3 i0 (.int .i64 0) 1 8 Try.underlying22 hi hz0 hz1 hz2 rfl (by decide) _ _ _ rfl hown ad 0 c ([] : List Value) rfl ?c0 ?c1 ?c2 ?c3 ?c4 ?c5 ?_)
      intro v' w1 hown' hgrow _
      obtain ⟨A', c', rfl⟩ := own_slice hown'
      have hB : Below w.heap.size w w1 := (below_alloc w _).grown hgrow (by simp) (fun k e => by cases e; exact Nat.le_refl _)
      clear hown' hgrow
      go_wp2
      go_ret
      exact ⟨A', c', rfl, ints_nil _ _, .inl rfl, hB⟩
  · obtain ⟨b, off, rfl, hb, hc⟩ := hI.cells hn
    refine (clone_in b off n c xs w hn hI.small hI.len hc hb).mono ?_
    rintro e w' ⟨g, cap, rfl, hg, O, hB⟩
    exact ⟨some ⟨g, 0, none⟩, cap, rfl, O.ints hI.small hI.wf, .inr ⟨g, rfl, hg, O⟩, hB⟩

/-- The multiples of the first i elements, the others as they are. -/
def mulTo (n : Nat) (xs : List Int) (s : Int) (i : Nat) : List Int := (List.range n).map fun j => if j < i then s * xs[j]?.getD 0 else xs[j]?.getD 0
def mulL (n : Nat) (s : Int) (xs : List Int) : List Int := (List.range n).map fun j => s * xs[j]?.getD 0
theorem mul_zero {n : Nat} {xs : List Int} (s : Int) (hl : xs.length = n) : mulTo n xs s 0 = xs := by
  apply List.ext_getElem (by simp [mulTo, hl])
  intro j h1 h2
  simp [mulTo, h2]
theorem mul_step (n : Nat) (xs : List Int) (s : Int) (i : Nat) : (mulTo n xs s i).set i (s * xs[i]?.getD 0) = mulTo n xs s (i + 1) := by
  unfold mulTo
  rw [tab_set]
  apply List.map_congr_left
  intro j _
  by_cases e : j = i
  · subst e; simp
  · have : (j < i + 1) ↔ (j < i) := by omega
    simp [e, this]
theorem mul_all (n : Nat) (xs : List Int) (s : Int) : mulTo n xs s n = mulL n s xs := by
  apply List.map_congr_left
  intro j hj
  rw [if_pos (List.mem_range.1 hj)]
theorem mul_at {n i : Nat} {xs : List Int} {s : Int} (hi : i < n) : (mulTo n xs s i)[i]?.getD 0 = xs[i]?.getD 0 := by
  unfold mulTo; rw [tab_get _ hi, if_neg (by omega)]
theorem mulL_mix (n : Nat) (s t : Int) (xs : List Int) : mixL n s xs t (zeros n) = mulL n s xs := by
  apply List.map_congr_left
  intro j hj
  have : (zeros n)[j]?.getD 0 = 0 := by simp [zeros, List.getElem?_replicate]; split <;> rfl
  rw [this, Int.mul_zero, Int.add_zero]
theorem sign_bd {s x B : Int} (hs : s = 1 ∨ s = -1) (hx : -B ≤ x ∧ x ≤ B) : -B ≤ s * x ∧ s * x ≤ B := by
  rcases hs with rfl | rfl <;> omega
theorem mulL_bd {n : Nat} {s : Int} {xs : List Int} (hs : s = 1 ∨ s = -1) (hx : Tame xs) : ∀ z ∈ mulL n s xs, -1048576 ≤ z ∧ z ≤ 1048576 := by
  intro z hz
  obtain ⟨j, _, rfl⟩ := List.mem_map.1 hz
  exact sign_bd hs (hx j)

set_option maxHeartbeats 4000000 in
theorem cond_shifted (A : Option Addr) (n c : Nat) (K : Int) (xs : List Int) (s k : Int) (hs : s = 1 ∨ s = -1) (hK : -1048576 ≤ K ∧ K ≤ 1048576) (hk : -512 ≤ k ∧ k ≤ 512) (hx : Tame xs) (w : World) (hI : IntsAt w A n xs) :
    Calls Try.prog 52 #[.agg #[.slice A n c, .int .i64 K], .int .i64 s, .int .i64 k] w fun e w' =>
      ∃ A' c', e = .returned (.agg #[.slice A' n c', .int .i64 (s * K + k)]) ∧ IntsAt w' A' n (mulL n s xs) ∧ FreshRow w.heap.size w' A' n (mulL n s xs) ∧ Below w.heap.size w w' := by
  have hsm := hI.small
  have hB := below_step (below_alloc w (.cells #[.slice A n c, .int .i64 K] 24)) (below_alloc _ (.cells #[.slice none 0 0, .int .i64 0] 24))
  have h1 := hI.step hB
  have B1 := (LBox.new w A n c K).alloc (.cells #[.slice none 0 0, .int .i64 0] 24)
  have B2 := LBox.new (w.alloc (.cells #[.slice A n c, .int .i64 K] 24)) none 0 0 0
  simp only [World.size_alloc] at B2
  have c0 := B1.c0
  have HX := Lib.hid (And.intro hx hs)
  have HL := Lib.hid hI.len
  have hsk := sign_bd hs hK
  have hw1 : IntKind.i64.wrap (s * K) = s * K := IntWalk.i64_in _ (by omega)
  have hw2 : IntKind.i64.wrap (s * K + k) = s * K + k := IntWalk.i64_in _ (by omega)
  have HKK := Lib.hid hsk
  clear hI hx hs hsk
  go_enter Try.func52, Try.ntmps52
  go_wp2_with (go_at_call 64; refine (clone_any _ _ _ xs _ h1).mono ?_; rintro e w1 ⟨A1, c1, rfl, I1, F1, hb⟩; replace hB := below_step hB hb; replace B1 := B1.step hb; replace B2 := B2.step hb)
  have l1 := B1.lt
  have l2 := B2.lt
  rcases F1 with rfl | ⟨g, rfl, hg, O⟩
  · go_loopw [14] (fun v wr => v = .int .i64 0 ∧ wr = w1) (fun v _ => 0)
    case atStart => exact ⟨rfl, rfl⟩
    case round =>
      obtain ⟨rfl, rfl⟩ := hrel
      have c11 := B1.c1
      have f20 := B2.f 0
      have f21 := B2.f 1
      have d0 := B2.c0
      have d1 := B2.c1
      have c40 := B2.s0 (.slice A1 0 c1)
      have c41 := (B2.store A1 0 c1 (s * K + k)).c1
      have hEnd := below_store2 hB (b := w.heap.size + 1) (by omega) (.slice A1 0 c1) (.int .i64 (s * K + k))
      go_wp2
      refine bodyPost_ret (v := .agg #[.slice A1 0 c1, .int .i64 (s * K + k)]) (by simp [results, Try.results52, go_sem, c40, c41]) rfl ?_
      exact ⟨A1, c1, rfl, ints_nil _ _, .inl rfl, hEnd⟩
  · have hg1 : w.heap.size + 1 < g := by simp at hg; omega
    clear hg hb h1 c0
    go_loopw [14] (fun v wr => ∃ i : Nat, i ≤ n ∧ v = .int .i64 i ∧ LBox wr w.heap.size A n c K ∧ LBox wr (w.heap.size + 1) none 0 0 0 ∧ OwnRow wr g n (mulTo n xs s i) ∧ Below w.heap.size w wr) (fun v _ => n - (intOf v).toNat)
    case atStart => exact ⟨0, Nat.zero_le _, rfl, B1, B2, by rw [mul_zero s HL.out]; exact O, hB⟩
    case round =>
      obtain ⟨i, hi, rfl, S1, S2, hrow, hBw⟩ := hrel
      clear O B1 B2 hB I1
      by_cases hlt : i < n
      · have hcr := hrow.cell hlt
        rw [mul_at hlt] at hcr
        have hfr := hrow.free i
        have q1 : (i : Int) < n := by omega
        have f2 := (hrow.set hlt (s * xs[i]?.getD 0))
        rw [mul_step] at f2
        have f1 := S1.other (a := ⟨g, i, none⟩) (show w.heap.size ≠ g by omega) (.int .i64 (s * xs[i]?.getD 0))
        have f3 := S2.other (a := ⟨g, i, none⟩) (show w.heap.size + 1 ≠ g by omega) (.int .i64 (s * xs[i]?.getD 0))
        have f5 := hBw.setCell (p := ⟨g, i, none⟩) (show w.heap.size ≤ g by omega) (.int .i64 (s * xs[i]?.getD 0))
        have hxb := sign_bd HX.out.2 (HX.out.1 i)
        have FF := Lib.hid (And.intro f1 (And.intro f2 (And.intro f3 f5)))
        generalize xs[i]?.getD 0 = x at *
        have hw : IntKind.i64.wrap (x * s) = s * x := by rw [Int.mul_comm]; exact IntWalk.i64_in _ (by omega)
        clear f1 f2 f3 f5 S1 S2 hrow hBw hxb
        go_wp2
        go_roundw
        case rel => exact ⟨i + 1, by omega, by go_num, FF.out.1, FF.out.2.2.1, FF.out.2.1, FF.out.2.2.2⟩
        case measure => simp [intOf]; omega
      · obtain rfl : i = n := by omega
        rw [mul_all] at hrow
        have hge : ¬ ((i : Int) < i) := by omega
        have c11 := S1.c1
        have f20 := S2.f 0
        have f21 := S2.f 1
        have d0 := S2.c0
        have d1 := S2.c1
        have c40 := S2.s0 (.slice (some ⟨g, 0, none⟩) i c1)
        have c41 := (S2.store (some ⟨g, 0, none⟩) i c1 (s * K + k)).c1
        have hEnd := below_store2 hBw (b := w.heap.size + 1) (by omega) (.slice (some ⟨g, 0, none⟩) i c1) (.int .i64 (s * K + k))
        have O := hrow.store2 (b := w.heap.size + 1) (by omega) (.slice (some ⟨g, 0, none⟩) i c1) (.int .i64 (s * K + k))
        have HW := Lib.hid (mulL_bd (n := i) HX.out.2 HX.out.1)
        clear hrow hBw S1
        go_wp2
        refine bodyPost_ret (v := .agg #[.slice (some ⟨g, 0, none⟩) i c1, .int .i64 (s * K + k)]) (by simp [results, Try.results52, go_sem, c40, c41]) rfl ?_
        exact ⟨some ⟨g, 0, none⟩, ⟨c1, rfl⟩, O.ints hsm (fun x hx => by have := HW.out x hx; omega), .inr ⟨g, rfl, by omega, O⟩, hEnd⟩

/-- Does a condition fit? -/
theorem wide_fits (q M : Int) (A : Option Addr) (n c : Nat) (K : Int) (xs : List Int) (hM : M ≤ 512) (w : World) (hI : IntsAt w A n xs) :
    Calls Try.prog 33 #[condV q M A n c K] w fun e w' => e = .returned (.bool (validB xs K)) ∧ Below w.heap.size w w' := by
  have hB := below_alloc w (.cells #[.int .i64 q, .int .i64 M, .slice A n c, .int .i64 K] 26)
  have h1 := hI.step hB
  have B1 := CBox.new w q M A n c K
  have c1 := B1.c1
  have c2 := B1.c2
  have c3 := B1.c3
  clear hI
  obtain ⟨v, hv⟩ : ∃ v, validB xs K = v := ⟨_, rfl⟩
  have HV := Lib.hid hv
  rw [hv]
  clear hv
  go_enter Try.func33, Try.ntmps33
  go_wp2_with (go_at_call 27; refine (lin_valid _ _ _ _ xs _ h1).mono ?_; rintro e w1 ⟨rfl, hb⟩; rw [HV.out]; replace hB := below_step hB hb)
  go_ret
  exact ⟨ret_bool (by first | rfl | simp), hB⟩
end Go.Proofs.Ytbjkijifpikhkaa
