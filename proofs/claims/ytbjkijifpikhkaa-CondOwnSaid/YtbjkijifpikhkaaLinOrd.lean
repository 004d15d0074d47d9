/-
  The reference's Order.
-/
import Derived.Test.YtbjkijifpikhkaaProg
import Derived.Test.YtbjkijifpikhkaaLinCmp
namespace Go.Proofs.Ytbjkijifpikhkaa
open Go.RowKit
set_option linter.unusedVariables false
set_option linter.unusedSimpArgs false

theorem ref_order (w : World) (A A' : Option Addr) (n c c' : Nat) (xs ys : List Int) (h : IntsAt w A n xs) (h' : IntsAt w A' n ys) :
    Calls Try.prog 56 #[.slice A n c, .slice A' n c'] w fun e w' => e = .returned (.int .i64 (ordL xs ys)) ∧ ∃ k, w' = w.drewN k := by
  have HL := Lib.hid h.len
  have HL' := Lib.hid h'.len
  have hsm := h.small
  go_enter Try.func56, Try.ntmps56
  go_wp2
  go_loopw [8] (fun v wr => ∃ i k : Nat, i ≤ n ∧ v = .int .i64 i ∧ (∀ j, j < i → xs[j]?.getD 0 = ys[j]?.getD 0) ∧ wr = w.drewN k) (fun v _ => n - (intOf v).toNat)
  case atStart => exact ⟨0, 0, Nat.zero_le _, rfl, fun j hj => absurd hj (by omega), rfl⟩
  case round =>
    obtain ⟨i, k, hi, rfl, hg, rfl⟩ := hrel
    have HG := Lib.hid hg
    clear hg
    by_cases hlt : i < n
    · obtain ⟨b, off, rfl, hb, hc⟩ := h.cells (by omega)
      obtain ⟨b', off', rfl, hb', hc'⟩ := h'.cells (by omega)
      have hcell := hc i hlt
      have hcell' := hc' i hlt
      clear hc hc'
      have HO := Lib.hid (ord_at HL.out HL'.out hlt HG.out)
      rcases (show xs[i]?.getD 0 < ys[i]?.getD 0 ∨ ys[i]?.getD 0 < xs[i]?.getD 0 ∨ xs[i]?.getD 0 = ys[i]?.getD 0 by omega) with hx | hx | hx
      · have HV := Lib.hid (show ordL xs ys = -1 by rw [HO.out, if_pos hx])
        go_wp2
        go_quiet (fail)
        go_wp2
        go_ret
        exact ⟨ret_i64 HV.out.symm, by first | exact ⟨_, rfl⟩ | (simp only [World.drewN_drewN]; exact ⟨_, rfl⟩)⟩
      · have HV := Lib.hid (show ordL xs ys = 1 by rw [HO.out, if_neg (by omega), if_pos hx])
        have hx1 : ys[i]?.getD 0 ≤ xs[i]?.getD 0 := by omega
        go_wp2
        go_quiet (fail)
        go_wp2
        go_quiet (fail)
        go_wp2
        go_ret
        exact ⟨ret_i64 HV.out.symm, by first | exact ⟨_, rfl⟩ | (simp only [World.drewN_drewN]; exact ⟨_, rfl⟩)⟩
      · have HE := Lib.hid hx
        rw [hx] at hcell
        clear hx
        go_wp2
        go_quiet (fail)
        go_wp2
        go_quiet (fail)
        go_wp2
        go_roundw
        case rel => exact ⟨i + 1, _, by omega, by go_num, (fun j hj => by
          rcases Nat.lt_or_eq_of_le (Nat.le_of_lt_succ hj) with h1 | h1
          · exact HG.out j h1
          · exact h1 ▸ HE.out), by first | rfl | (simp only [World.drewN_drewN]; rfl)⟩
        case measure => simp [intOf]; omega
    · obtain rfl : i = n := by omega
      have HV := Lib.hid (ord_end HL.out HL'.out HG.out)
      go_wp2
      go_ret
      exact ⟨ret_i64 HV.out.symm, k, rfl⟩
end Go.Proofs.Ytbjkijifpikhkaa
