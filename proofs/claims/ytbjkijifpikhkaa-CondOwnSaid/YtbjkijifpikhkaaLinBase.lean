/-
  Contracts for the functions of package lin, and of its reference, that only read.
-/
import Derived.Test.YtbjkijifpikhkaaProg
import Derived.Test.YtbjkijifpikhkaaLinKit
import Derived.Test.YtbjkijifpikhkaaLinTerms
import Derived.Test.YtbjkijifpikhkaaNumDot
namespace Go.Proofs.Ytbjkijifpikhkaa
open Go.RowKit
set_option linter.unusedVariables false

theorem ref_valid (A : Option Addr) (n c : Nat) (K : Int) (xs : List Int) (w : World) (hI : IntsAt w A n xs) :
    Calls Try.prog 28 #[.agg #[.slice A n c, .int .i64 K]] w fun e w' => e = .returned (.bool (validB xs K)) ∧ Below w.heap.size w w' := by
  have hB := below_alloc w (.cells #[.slice A n c, .int .i64 K] 24)
  have h := hI.step hB
  have HL := Lib.hid hI.len
  have hsm := hI.small
  go_enter Try.func28, Try.ntmps28
  go_wp2
  go_loop [8] (fun v => ∃ i : Nat, i ≤ n ∧ v = .int .i64 i ∧ ∀ j, j < i → fitsB (xs[j]?.getD 0) = true) (fun v => n - (intOf v).toNat)
  case atStart => exact ⟨0, Nat.zero_le _, rfl, fun j hj => absurd hj (by omega)⟩
  case round =>
    obtain ⟨i, hi, rfl, hg⟩ := hrel
    have HG := Lib.hid hg
    clear hg
    by_cases hlt : i < n
    · obtain ⟨b, off, rfl, hb, hc⟩ := h.cells (by omega)
      have hcell := hc i hlt
      clear hc
      cases hx : fitsB (xs[i]?.getD 0)
      · have HV := Lib.hid (show validB xs K = false by
          rw [Bool.eq_false_iff]; intro h'; have := (validB_true.1 h').2.2 _ (hI.mem hlt); rw [hx] at this; cases this)
        go_wp2_with (go_at_call 44; refine (headlandref01_fits _ _).mono ?_; rintro e w' ⟨rfl, rfl⟩)
        go_ret
        exact ⟨ret_bool HV.out.symm, hB⟩
      · have HX := Lib.hid hx
        go_wp2_with (go_at_call 44; refine (headlandref01_fits _ _).mono ?_; rintro e w' ⟨rfl, rfl⟩)
        go_round
        case rel => exact ⟨i + 1, by omega, by go_num, fun j hj => by
          rcases Nat.lt_or_eq_of_le (Nat.le_of_lt_succ hj) with h1 | h1
          · exact HG.out j h1
          · exact h1 ▸ HX.out⟩
        case measure => simp [intOf]; omega
    · obtain rfl : i = n := by omega
      have hall : ∀ x ∈ xs, fitsB x = true := (all_getD (p := fun x => fitsB x = true)).2 fun j hj => HG.out j (by have := HL.out; omega)
      by_cases h12 : 12 < i
      · have HV := Lib.hid (show validB xs K = false by unfold validB; rw [HL.out, decide_eq_false (by omega)]; rfl)
        have h12' : (12 : Int) < i := by omega
        clear hall
        go_wp2
        go_ret
        exact ⟨ret_bool HV.out.symm, hB⟩
      · have HV := Lib.hid (show validB xs K = fitsB K by
          cases hk : fitsB K
          · unfold validB; rw [hk]; simp
          · exact validB_true.2 ⟨by have := HL.out; omega, hk, hall⟩)
        have h12' : (i : Int) ≤ 12 := by omega
        clear hall
        go_wp2_with (go_at_call 44; refine (headlandref01_fits _ _).mono ?_; rintro e w' ⟨rfl, rfl⟩)
        go_ret
        exact ⟨ret_bool HV.out.symm, hB⟩

/-- Equal expressions. -/
def sameB (xs : List Int) (K : Int) (ys : List Int) (L : Int) : Bool := decide (xs = ys ∧ K = L)
theorem sameB_self (xs : List Int) (K : Int) : sameB xs K xs K = true := by unfold sameB; simp
theorem sameB_true {xs ys : List Int} {K L : Int} : sameB xs K ys L = true ↔ xs = ys ∧ K = L := by unfold sameB; simp

theorem ref_same (A : Option Addr) (n c : Nat) (K : Int) (xs : List Int) (A' : Option Addr) (n' c' : Nat) (L : Int) (ys : List Int) (w : World) (hI : IntsAt w A n xs) (hI' : IntsAt w A' n' ys) :
    Calls Try.prog 31 #[.agg #[.slice A n c, .int .i64 K], .agg #[.slice A' n' c', .int .i64 L]] w fun e w' => e = .returned (.bool (sameB xs K ys L)) ∧ Below w.heap.size w w' := by
  obtain ⟨o1, ho1⟩ : ∃ o, o = Obj.cells #[.slice A n c, .int .i64 K] 24 := ⟨_, rfl⟩
  obtain ⟨o2, ho2⟩ : ∃ o, o = Obj.cells #[.slice A' n' c', .int .i64 L] 24 := ⟨_, rfl⟩
  have hB := below_step (below_alloc w o1) (below_alloc (w.alloc o1) o2)
  have h := hI.step hB
  have h' := hI'.step hB
  rw [ho1, ho2] at h h' hB
  clear ho1 ho2
  have HL := Lib.hid hI.len
  have HL' := Lib.hid hI'.len
  have hsm := hI.small
  have hsm' := hI'.small
  by_cases hn : n = n'
  · subst hn
    by_cases hk : K = L
    · subst hk
      go_enter Try.func31, Try.ntmps31
      go_wp2
      go_loopw [23] (fun v wr => ∃ i k : Nat, i ≤ n ∧ v = .int .i64 i ∧ (∀ j, j < i → xs[j]?.getD 0 = ys[j]?.getD 0) ∧ wr = ((w.alloc (.cells #[.slice A n c, .int .i64 K] 24)).alloc (.cells #[.slice A' n c', .int .i64 K] 24)).drewN k) (fun v _ => n - (intOf v).toNat)
      case atStart => exact ⟨0, 0, Nat.zero_le _, rfl, fun j hj => absurd hj (by omega), rfl⟩
      case round =>
        obtain ⟨i, k, hi, rfl, hg, rfl⟩ := hrel
        have HG := Lib.hid hg
        clear hg
        by_cases hlt : i < n
        · obtain ⟨b, off, rfl, hb, hc⟩ := h.cells (by omega)
          obtain ⟨b', off', rfl, hb', hc'⟩ := h'.cells (by omega)
          have hcell := hc i hlt
          have hcell' := hc' i hlt
          clear hc hc'
          by_cases hx : xs[i]?.getD 0 = ys[i]?.getD 0
          · have HX := Lib.hid hx
            rw [hx] at hcell
            clear hx
            go_wp2
            go_quiet (fail)
            go_wp2
            go_roundw
            case rel => exact ⟨i + 1, _, by omega, by go_num, (fun j hj => by
              rcases Nat.lt_or_eq_of_le (Nat.le_of_lt_succ hj) with h1 | h1
              · exact HG.out j h1
              · exact h1 ▸ HX.out), rfl⟩
            case measure => simp [intOf]; omega
          · have HV := Lib.hid (show sameB xs K ys K = false by
              rw [Bool.eq_false_iff]; intro h'; exact hx (by rw [(sameB_true.1 h').1]))
            have hx1 : (xs[i]?.getD 0 != ys[i]?.getD 0) = true := by simpa using hx
            have hx2 : (xs[i]?.getD 0 == ys[i]?.getD 0) = false := by simpa using hx
            clear hx
            go_wp2
            go_quiet (fail)
            go_wp2
            go_ret
            exact ⟨ret_bool HV.out.symm, by first | exact below_step hB (below_of_drewN _) | (simp only [World.drewN_drewN]; exact below_step hB (below_of_drewN _))⟩
        · obtain rfl : i = n := by omega
          have HV := Lib.hid (show sameB xs K ys K = true from sameB_true.2 ⟨by
            apply List.ext_getElem (by rw [HL.out, HL'.out])
            intro j h1 h2
            have := HG.out j (by have := HL.out; omega)
            simpa [h1, h2] using this, rfl⟩)
          go_wp2
          go_ret
          exact ⟨ret_bool HV.out.symm, by first | exact below_step hB (below_of_drewN _) | (simp only [World.drewN_drewN]; exact below_step hB (below_of_drewN _))⟩
    · have HV := Lib.hid (show sameB xs K ys L = false by
        rw [Bool.eq_false_iff]; intro h'; exact hk (sameB_true.1 h').2)
      have hk1 : (K != L) = true := by simpa using hk
      have hk2 : (K == L) = false := by simpa using hk
      clear hk
      go_enter Try.func31, Try.ntmps31
      go_wp2
      go_ret
      exact ⟨ret_bool HV.out.symm, hB⟩
  · have HV := Lib.hid (show sameB xs K ys L = false by
      rw [Bool.eq_false_iff]; intro h'; exact hn (by rw [← HL.out, ← HL'.out, (sameB_true.1 h').1]))
    have hk1 : ((n : Int) != (n' : Int)) = true := by simpa using fun e => hn (by omega)
    have hk2 : ((n : Int) == (n' : Int)) = false := by simpa using fun e => hn (by omega)
    clear hn
    go_enter Try.func31, Try.ntmps31
    go_wp2
    go_ret
    exact ⟨ret_bool HV.out.symm, hB⟩
end Go.Proofs.Ytbjkijifpikhkaa
