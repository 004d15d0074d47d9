/-
  Contracts for the orders of lists of integers: cmp.Compare, slices.Compare, and the reference's Order.
-/
import Derived.Test.YtbjkijifpikhkaaProg
import Derived.Test.YtbjkijifpikhkaaLinKit
import Derived.Test.YtbjkijifpikhkaaLinTerms
import Derived.Test.YtbjkijifpikhkaaNumDot
namespace Go.Proofs.Ytbjkijifpikhkaa
open Go.RowKit
set_option linter.unusedVariables false
set_option linter.unusedSimpArgs false

def cmpI (x y : Int) : Int := if x < y then -1 else if y < x then 1 else 0
def ordL : List Int → List Int → Int
  | x :: xs, y :: ys => if x < y then -1 else if y < x then 1 else ordL xs ys
  | _, _ => 0

theorem ord_skip : ∀ (i : Nat) (xs ys : List Int), xs.length = ys.length → i ≤ xs.length → (∀ j, j < i → xs[j]?.getD 0 = ys[j]?.getD 0) → ordL xs ys = ordL (xs.drop i) (ys.drop i)
  | 0, _, _, _, _, _ => rfl
  | i + 1, [], _, _, hi, _ => by simp at hi
  | i + 1, _ :: _, [], hl, _, _ => by simp at hl
  | i + 1, x :: xs, y :: ys, hl, hi, h => by
    have h0 := h 0 (by omega)
    simp at h0
    subst h0
    have := ord_skip i xs ys (by simpa using hl) (by simpa using hi) (fun j hj => by have := h (j + 1) (by omega); simpa using this)
    simpa [ordL] using this

theorem ord_at {n i : Nat} {xs ys : List Int} (hl : xs.length = n) (hl' : ys.length = n) (hi : i < n) (h : ∀ j, j < i → xs[j]?.getD 0 = ys[j]?.getD 0) :
    ordL xs ys = if xs[i]?.getD 0 < ys[i]?.getD 0 then -1 else if ys[i]?.getD 0 < xs[i]?.getD 0 then 1 else ordL (xs.drop (i + 1)) (ys.drop (i + 1)) := by
  rw [ord_skip i xs ys (by omega) (by omega) h, List.drop_eq_getElem_cons (by omega : i < xs.length), List.drop_eq_getElem_cons (by omega : i < ys.length)]
  simp [ordL, show i < xs.length by omega, show i < ys.length by omega]

theorem ord_end {n : Nat} {xs ys : List Int} (hl : xs.length = n) (hl' : ys.length = n) (h : ∀ j, j < n → xs[j]?.getD 0 = ys[j]?.getD 0) : ordL xs ys = 0 := by
  rw [ord_skip n xs ys (by omega) (by omega) h, List.drop_eq_nil_of_le (by omega)]; rfl

theorem ret_i64 {a b : Int} (h : a = b) : Ending.returned (.int .i64 a) = .returned (.int .i64 b) := by rw [h]

theorem is_nan (x : Int) (w : World) : Calls Try.prog 55 #[.int .i64 x] w fun e w' => e = .returned (.bool false) ∧ w = w' := by
  go_enter Try.func55, Try.ntmps55
  go_wp2
  go_ret
  exact ⟨ret_bool (by simp), rfl⟩

theorem cmp_compare (x y : Int) (w : World) : Calls Try.prog 36 #[.int .i64 x, .int .i64 y] w fun e w' => e = .returned (.int .i64 (cmpI x y)) ∧ w = w' := by
  rcases (show x < y ∨ (¬ x < y ∧ y < x) ∨ (¬ x < y ∧ ¬ y < x) by omega) with h | ⟨h1, h⟩ | ⟨h1, h⟩
  all_goals
    go_enter Try.func36, Try.ntmps36
    go_wp2_with (go_at_call 55; refine (is_nan _ _).mono ?_; rintro e w' ⟨rfl, rfl⟩)
    go_ret
    exact ⟨ret_i64 (by unfold cmpI; (repeat' split) <;> omega), rfl⟩

theorem slices_compare (w : World) (A A' : Option Addr) (n c c' : Nat) (xs ys : List Int) (h : IntsAt w A n xs) (h' : IntsAt w A' n ys) :
    Calls Try.prog 54 #[.slice A n c, .slice A' n c'] w fun e w' => e = .returned (.int .i64 (ordL xs ys)) ∧ w = w' := by
  have HL := Lib.hid h.len
  have HL' := Lib.hid h'.len
  have hsm := h.small
  go_enter Try.func54, Try.ntmps54
  go_wp2
  go_loop [11] (fun v => ∃ i : Nat, i ≤ n ∧ v = .int .i64 i ∧ ∀ j, j < i → xs[j]?.getD 0 = ys[j]?.getD 0) (fun v => n - (intOf v).toNat)
  case atStart => exact ⟨0, Nat.zero_le _, rfl, fun j hj => absurd hj (by omega)⟩
  case round =>
    obtain ⟨i, hi, rfl, hg⟩ := hrel
    have HG := Lib.hid hg
    clear hg
    by_cases hlt : i < n
    · obtain ⟨b, off, rfl, hb, hc⟩ := h.cells (by omega)
      obtain ⟨b', off', rfl, hb', hc'⟩ := h'.cells (by omega)
      have hcell := hc i hlt
      have hcell' := hc' i hlt
      clear hc hc'
      have HO := Lib.hid (ord_at HL.out HL'.out hlt HG.out)
      rcases (show xs[i]?.getD 0 < ys[i]?.getD 0 ∨ ys[i]?.getD 0 < xs[i]?.getD 0 ∨ xs[i]?.getD 0 = ys[i]?.getD 0 by omega) with hx | hx | hx
      · have HX : RowKit.Hid (cmpI (xs[i]?.getD 0) (ys[i]?.getD 0) = -1) := Lib.hid (by unfold cmpI; rw [if_pos hx])
        have HV := Lib.hid (show ordL xs ys = -1 by rw [HO.out, if_pos hx])
        clear hx
        go_wp2_with (go_at_call 36; refine (cmp_compare _ _ _).mono ?_; rintro e w' ⟨rfl, rfl⟩; rw [HX.out])
        go_ret
        exact ⟨ret_i64 HV.out.symm, rfl⟩
      · have HX : RowKit.Hid (cmpI (xs[i]?.getD 0) (ys[i]?.getD 0) = 1) := Lib.hid (by unfold cmpI; rw [if_neg (by omega), if_pos hx])
        have HV := Lib.hid (show ordL xs ys = 1 by rw [HO.out, if_neg (by omega), if_pos hx])
        clear hx
        go_wp2_with (go_at_call 36; refine (cmp_compare _ _ _).mono ?_; rintro e w' ⟨rfl, rfl⟩; rw [HX.out])
        go_ret
        exact ⟨ret_i64 HV.out.symm, rfl⟩
      · have HE := Lib.hid hx
        have HX : RowKit.Hid (cmpI (xs[i]?.getD 0) (ys[i]?.getD 0) = 0) := Lib.hid (by unfold cmpI; rw [if_neg (by omega), if_neg (by omega)])
        clear hx
        go_wp2_with (go_at_call 36; refine (cmp_compare _ _ _).mono ?_; rintro e w' ⟨rfl, rfl⟩; rw [HX.out])
        go_round
        case rel => exact ⟨i + 1, by omega, by go_num, fun j hj => by
          rcases Nat.lt_or_eq_of_le (Nat.le_of_lt_succ hj) with h1 | h1
          · exact HG.out j h1
          · exact h1 ▸ HE.out⟩
        case measure => simp [intOf]; omega
    · obtain rfl : i = n := by omega
      have HV := Lib.hid (ord_end HL.out HL'.out HG.out)
      go_wp2
      go_ret
      exact ⟨ret_i64 HV.out.symm, rfl⟩
end Go.Proofs.Ytbjkijifpikhkaa
