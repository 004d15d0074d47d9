/-
  Contracts for At of package lin, and for Point, Value and At of its reference.
-/
import Derived.Test.YtbjkijifpikhkaaProg
import Derived.Test.YtbjkijifpikhkaaLinKit
import Derived.Test.YtbjkijifpikhkaaLinTerms
import Derived.Test.YtbjkijifpikhkaaLinBase
import Derived.Test.YtbjkijifpikhkaaLinAt
import Derived.Test.YtbjkijifpikhkaaNumDot
namespace Go.Proofs.Ytbjkijifpikhkaa
open Go.RowKit
set_option linter.unusedVariables false

noncomputable def atErr (xs : List Int) (K : Int) (ps : List Int) : Int := if validB xs K = true then dotErr xs ps else 1
noncomputable def atVal (xs : List Int) (K : Int) (ps : List Int) : Int := if atErr xs K ps = 0 then K + dotSum xs ps xs.length else 0

theorem dotErr_zero {xs ps : List Int} : dotErr xs ps = 0 ↔ xs.length = ps.length ∧ xs.length ≤ 12 ∧ ∀ i, i < xs.length → goodAt xs ps i := by
  unfold dotErr
  split
  · rename_i h; exact ⟨(fun e => by cases e), fun h' => absurd h'.1 h⟩
  · rename_i h
    split
    · rename_i h'; exact ⟨(fun e => by cases e), fun h2 => absurd h2.2.1 (by omega)⟩
    · rename_i h'
      split
      · rename_i h2; exact ⟨fun _ => ⟨by simpa using h, by omega, h2⟩, fun _ => rfl⟩
      · rename_i h2; exact ⟨(fun e => by cases e), fun h3 => absurd h3.2.2 h2⟩

theorem dotVal_zero {xs ps : List Int} (h : dotErr xs ps = 0) : dotVal xs ps = dotSum xs ps xs.length := by unfold dotVal; rw [if_pos h]

theorem sum_bd {xs ps : List Int} {K : Int} (hk : fitsB K = true) {i : Nat} (h12 : i ≤ 12) (hg : ∀ j, j < i → goodAt xs ps j) : -4611686018427387904 ≤ K + dotSum xs ps i ∧ K + dotSum xs ps i ≤ 4611686018427387904 := by
  have h1 := dotSum_bd i hg
  have h2 := fitsB_true.1 hk
  omega

theorem at_ok {xs ps : List Int} {K : Int} (hv : validB xs K = true) (h : dotErr xs ps = 0) : wrap64 (dotVal xs ps + K) = atVal xs K ps ∧ 0 = atErr xs K ps := by
  have e : atErr xs K ps = 0 := by unfold atErr; rw [if_pos hv, h]
  obtain ⟨h1, h2, h3⟩ := dotErr_zero.1 h
  have hb := sum_bd (validB_true.1 hv).2.1 h2 h3
  rw [dotVal_zero h]
  refine ⟨?_, e.symm⟩
  unfold atVal
  rw [if_pos e, IntWalk.wrap64_in _ (by omega)]; omega
theorem at_bad {xs ps : List Int} {K : Int} (hv : validB xs K = true) (h : dotErr xs ps ≠ 0) : 0 = atVal xs K ps ∧ dotErr xs ps = atErr xs K ps := by
  have e : atErr xs K ps = dotErr xs ps := by unfold atErr; rw [if_pos hv]
  exact ⟨by unfold atVal; rw [if_neg (by rw [e]; exact h)], e.symm⟩
theorem at_invalid {xs ps : List Int} {K : Int} (hv : validB xs K = false) : 0 = atVal xs K ps ∧ 1 = atErr xs K ps := by
  have e : atErr xs K ps = 1 := by unfold atErr; rw [if_neg (by rw [hv]; simp)]
  exact ⟨by unfold atVal; rw [if_neg (by rw [e]; decide)], e.symm⟩

theorem lin_at (A : Option Addr) (n c : Nat) (K : Int) (xs : List Int) (A' : Option Addr) (n' c' : Nat) (ps : List Int) (w : World) (hI : IntsAt w A n xs) (hI' : IntsAt w A' n' ps) :
    Calls Try.prog 24 #[.agg #[.slice A n c, .int .i64 K], .slice A' n' c'] w fun e w' => e = .returned (.tuple #[.int .i64 (atVal xs K ps), .int .i64 (atErr xs K ps)]) ∧ Below w.heap.size w w' := by
  have hB := below_alloc w (.cells #[.slice A n c, .int .i64 K] 24)
  have h1 := hI.step hB
  have h2 := hI'.step hB
  have B1 := LBox.new w A n c K
  clear hI hI'
  cases hv : validB xs K
  · have HE := Lib.hid (at_invalid (ps := ps) hv)
    go_enter Try.func24, Try.ntmps24
    go_wp2_with (go_at_call 27; refine (lin_valid _ _ _ _ xs _ h1).mono ?_; rintro e w' ⟨rfl, hb⟩; replace hB := below_step hB hb)
    go_ret2
    exact ⟨ret2 (vint HE.out.1) (vint HE.out.2), hB⟩
  · by_cases h0 : dotErr xs ps = 0
    · have HE := Lib.hid (at_ok hv h0)
      have H0 := Lib.hid h0
      clear h0
      go_enter Try.func24, Try.ntmps24
      go_wp2_with (first
        | (go_at_call 27; refine (lin_valid _ _ _ _ xs _ h1).mono ?_; rintro e w' ⟨rfl, hb⟩; replace hB := below_step hB hb; replace h1 := h1.step hb; replace h2 := h2.step hb; replace B1 := B1.step hb; have c10 := B1.c0; have c11 := B1.c1)
        | (go_at_call 40; refine (num_dot _ _ _ _ _ _ _ _ xs ps h1 h2).mono ?_; rintro e w' ⟨rfl, k, rfl⟩; rw [H0.out]))
      go_ret2
      exact ⟨ret2 (vint HE.out.1) (vint HE.out.2), below_step hB (below_of_drewN _)⟩
    · have HE := Lib.hid (at_bad hv h0)
      have q1 : (dotErr xs ps != 0) = true := by simpa using h0
      have q2 : (dotErr xs ps == 0) = false := by simpa using h0
      clear h0
      go_enter Try.func24, Try.ntmps24
      go_wp2_with (first
        | (go_at_call 27; refine (lin_valid _ _ _ _ xs _ h1).mono ?_; rintro e w' ⟨rfl, hb⟩; replace hB := below_step hB hb; replace h1 := h1.step hb; replace h2 := h2.step hb; replace B1 := B1.step hb; have c10 := B1.c0; have c11 := B1.c1)
        | (go_at_call 40; refine (num_dot _ _ _ _ _ _ _ _ xs ps h1 h2).mono ?_; rintro e w' ⟨rfl, k, rfl⟩))
      go_ret2
      exact ⟨ret2 (vint HE.out.1) (vint HE.out.2), below_step hB (below_of_drewN _)⟩

def pointB (ps : List Int) : Bool := ps.all coordB

theorem ref_point (A : Option Addr) (n c : Nat) (ps : List Int) (w : World) (h : IntsAt w A n ps) :
    Calls Try.prog 26 #[.slice A n c] w fun e w' => e = .returned (.bool (pointB ps)) ∧ w = w' := by
  have HL := Lib.hid h.len
  have hsm := h.small
  go_enter Try.func26, Try.ntmps26
  go_wp2
  go_loop [7] (fun v => ∃ i : Nat, i ≤ n ∧ v = .int .i64 i ∧ ∀ j, j < i → coordB (ps[j]?.getD 0) = true) (fun v => n - (intOf v).toNat)
  case atStart => exact ⟨0, Nat.zero_le _, rfl, fun j hj => absurd hj (by omega)⟩
  case round =>
    obtain ⟨i, hi, rfl, hg⟩ := hrel
    have HG := Lib.hid hg
    clear hg
    by_cases hlt : i < n
    · have hmem := h.mem hlt
      obtain ⟨b, off, rfl, hb, hc⟩ := h.cells (by omega)
      have hcell := hc i hlt
      clear hc
      cases hx : coordB (ps[i]?.getD 0)
      · have HV := Lib.hid (show pointB ps = false by
          rw [Bool.eq_false_iff]; intro h'; have := List.all_eq_true.1 h' _ hmem; rw [hx] at this; cases this)
        clear hmem
        go_wp2_with (go_at_call 41; refine (coord_any _ _).mono ?_; rintro e w' ⟨rfl, rfl⟩)
        go_ret
        exact ⟨ret_bool HV.out.symm, rfl⟩
      · have HX := Lib.hid hx
        clear hmem
        go_wp2_with (go_at_call 41; refine (coord_any _ _).mono ?_; rintro e w' ⟨rfl, rfl⟩)
        go_round
        case rel => exact ⟨i + 1, by omega, by go_num, fun j hj => by
          rcases Nat.lt_or_eq_of_le (Nat.le_of_lt_succ hj) with h1 | h1
          · exact HG.out j h1
          · exact h1 ▸ HX.out⟩
        case measure => simp [intOf]; omega
    · obtain rfl : i = n := by omega
      have HV := Lib.hid (show pointB ps = true from List.all_eq_true.2 ((all_getD (p := fun x => coordB x = true)).2 fun j hj => HG.out j (by have := HL.out; omega)))
      go_wp2
      go_ret
      exact ⟨ret_bool HV.out.symm, rfl⟩

theorem ref_value (A : Option Addr) (n c : Nat) (K : Int) (xs : List Int) (A' : Option Addr) (n' c' : Nat) (ps : List Int) (w : World) (hI : IntsAt w A n xs) (hI' : IntsAt w A' n' ps)
    (hk : fitsB K = true) (h12 : n ≤ 12) (hnn : n ≤ n') (hgood : ∀ j, j < n → goodAt xs ps j) :
    Calls Try.prog 39 #[.agg #[.slice A n c, .int .i64 K], .slice A' n' c'] w fun e w' => e = .returned (.int .i64 (K + dotSum xs ps n)) ∧ Below w.heap.size w w' := by
  have hB := below_alloc w (.cells #[.slice A n c, .int .i64 K] 24)
  have h := hI.step hB
  have h' := hI'.step hB
  have hsm' := hI'.small
  have HK := Lib.hid hk
  have HG := Lib.hid hgood
  clear hk hgood hI hI'
  go_enter Try.func39, Try.ntmps39
  go_wp2
  go_loopw [5, 12] (fun u v wr => ∃ i k : Nat, i ≤ n ∧ v = .int .i64 i ∧ u = .int .i64 (K + dotSum xs ps i) ∧ wr = (w.alloc (.cells #[.slice A n c, .int .i64 K] 24)).drewN k) (fun _ v _ => n - (intOf v).toNat)
  case atStart => exact ⟨0, 0, Nat.zero_le _, rfl, by simp [dotSum], rfl⟩
  case round =>
    obtain ⟨i, k, hi, rfl, rfl, rfl⟩ := hrel
    by_cases hlt : i < n
    · obtain ⟨b, off, rfl, hb, hc⟩ := h.cells (by omega)
      obtain ⟨b', off', rfl, hb', hc'⟩ := h'.cells (by omega)
      have hcell := hc i hlt
      have hcell' := hc' i (by omega)
      have hlt' : i < n' := by omega
      clear hc hc'
      have HE := Lib.hid (show wrap64 (K + dotSum xs ps i + wrap64 (xs[i]?.getD 0 * ps[i]?.getD 0)) = K + dotSum xs ps (i + 1) by
        have hm := mul_bd (HG.out i hlt).1 (HG.out i hlt).2
        have hs := sum_bd (i := i + 1) HK.out (by omega) (fun j hj => HG.out j (by omega))
        simp only [dotSum] at hs ⊢
        rw [IntWalk.wrap64_in (xs[i]?.getD 0 * ps[i]?.getD 0) (by omega), IntWalk.wrap64_in _ (by omega)]; omega)
      go_wp2
      go_quiet (fail)
      go_wp2
      go_roundw
      case rel => exact ⟨i + 1, _, by omega, by go_num, vint HE.out, rfl⟩
      case measure => simp [intOf]; omega
    · obtain rfl : i = n := by omega
      go_wp2
      go_ret
      exact ⟨rfl, below_step hB (below_of_drewN _)⟩

theorem dot_cases {xs ps : List Int} {K : Int} (hv : validB xs K = true) : (xs.length ≠ ps.length ∧ dotErr xs ps = 2) ∨ (xs.length = ps.length ∧ pointB ps = false ∧ dotErr xs ps = 6) ∨ (xs.length = ps.length ∧ pointB ps = true ∧ dotErr xs ps = 0) := by
  obtain ⟨h12, _, hf⟩ := validB_true.1 hv
  by_cases hl : xs.length = ps.length
  · have hg : (∀ i, i < xs.length → goodAt xs ps i) ↔ pointB ps = true := by
      refine ⟨fun h => List.all_eq_true.2 ((all_getD (p := fun x => coordB x = true)).2 fun j hj => coordB_true.2 (h j (by omega)).2), fun h i hi => ?_⟩
      exact ⟨fitsB_true.1 (hf _ (getD_mem hi)), coordB_true.1 (List.all_eq_true.1 h _ (getD_mem (by omega)))⟩
    cases hp : pointB ps
    · refine .inr (.inl ⟨hl, rfl, ?_⟩)
      unfold dotErr
      rw [if_neg (by simpa using hl), if_neg (by omega), if_neg (by rw [hg, hp]; simp)]
    · exact .inr (.inr ⟨hl, rfl, dotErr_zero.2 ⟨hl, h12, hg.2 hp⟩⟩)
  · exact .inl ⟨hl, by unfold dotErr; rw [if_pos hl]⟩

end Go.Proofs.Ytbjkijifpikhkaa