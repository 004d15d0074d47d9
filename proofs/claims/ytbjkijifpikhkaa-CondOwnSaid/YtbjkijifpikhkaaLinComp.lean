/-
  lin.Compare.
-/
import Derived.Test.YtbjkijifpikhkaaProg
import Derived.Test.YtbjkijifpikhkaaLinKit
import Derived.Test.YtbjkijifpikhkaaLinTerms
import Derived.Test.YtbjkijifpikhkaaLinAt
import Derived.Test.YtbjkijifpikhkaaLinClone
import Derived.Test.YtbjkijifpikhkaaLinPut
import Derived.Test.YtbjkijifpikhkaaLinMake
import Derived.Test.YtbjkijifpikhkaaLinSum
import Derived.Test.YtbjkijifpikhkaaLinCmp
import Derived.Deep.RegionHeld3
namespace Go.Proofs.Ytbjkijifpikhkaa
open Go.RowKit
set_option linter.unusedVariables false
set_option linter.unusedSimpArgs false

/-- The order of two expressions of the same length. -/
def ordE (xs : List Int) (K : Int) (ys : List Int) (L : Int) : Int := if ordL xs ys = 0 then cmpI K L else ordL xs ys

theorem lin_comp_err (A : Option Addr) (n c : Nat) (K : Int) (xs : List Int) (A' : Option Addr) (n' c' : Nat) (L : Int) (ys : List Int) (w : World) (hI : IntsAt w A n xs) (hI' : IntsAt w A' n' ys) (hp : pairErr xs K ys L ≠ 0) :
    Calls Try.prog 34 #[.agg #[.slice A n c, .int .i64 K], .agg #[.slice A' n' c', .int .i64 L]] w fun e w' => e = .returned (.tuple #[.int .i64 0, .int .i64 (pairErr xs K ys L)]) ∧ Below w.heap.size w w' := by
  have B1 := (LBox.new w A n c K).alloc (.cells #[.slice A' n' c', .int .i64 L] 24)
  have B2 := LBox.new (w.alloc (.cells #[.slice A n c, .int .i64 K] 24)) A' n' c' L
  have hB := below_step (below_alloc w (.cells #[.slice A n c, .int .i64 K] 24)) (below_alloc _ (.cells #[.slice A' n' c', .int .i64 L] 24))
  have h1 := hI.step hB
  have h2 := hI'.step hB
  simp only [World.size_alloc] at B2
  go_enter Try.func34, Try.ntmps34
  go_wp2_with (go_at_call 53; refine (lin_pair _ _ _ _ xs _ _ _ _ ys _ h1 h2).mono ?_; rintro e w1 ⟨rfl, hb⟩; replace h1 := h1.step hb; replace h2 := h2.step hb; replace B1 := B1.step hb; replace B2 := B2.step hb; have c10 := B1.c0; have c11 := B1.c1; have c20 := B2.c0; have c21 := B2.c1; have hE := below_step hB hb)
  refine bodyPost_ret (v := .tuple #[.int .i64 0, .int .i64 (pairErr xs K ys L)]) (by simp [results, Try.results34, go_sem]) rfl ?_
  exact ⟨by first | rfl | simp, hE⟩

theorem lin_comp_ne (A : Option Addr) (n c : Nat) (K : Int) (xs : List Int) (A' : Option Addr) (n' c' : Nat) (L : Int) (ys : List Int) (w : World) (hI : IntsAt w A n xs) (hI' : IntsAt w A' n' ys) (hp : pairErr xs K ys L = 0) (ho : ordL xs ys ≠ 0) :
    Calls Try.prog 34 #[.agg #[.slice A n c, .int .i64 K], .agg #[.slice A' n' c', .int .i64 L]] w fun e w' => e = .returned (.tuple #[.int .i64 (ordL xs ys), .int .i64 0]) ∧ Below w.heap.size w w' := by
  have B1 := (LBox.new w A n c K).alloc (.cells #[.slice A' n' c', .int .i64 L] 24)
  have B2 := LBox.new (w.alloc (.cells #[.slice A n c, .int .i64 K] 24)) A' n' c' L
  have hB := below_step (below_alloc w (.cells #[.slice A n c, .int .i64 K] 24)) (below_alloc _ (.cells #[.slice A' n' c', .int .i64 L] 24))
  have h1 := hI.step hB
  have h2 := hI'.step hB
  simp only [World.size_alloc] at B2
  have hnn : n = n' := by have a0 := (pair_zero hp).2.2; have a1 := hI.len; have a2 := hI'.len; omega
  subst hnn
  have HP := Lib.hid hp
  clear hp hI hI'
  obtain ⟨o, hoo⟩ : ∃ o, ordL xs ys = o := ⟨_, rfl⟩
  rw [hoo] at ho ⊢
  have HO := Lib.hid hoo
  clear hoo
  go_enter Try.func34, Try.ntmps34
  go_wp2_with (first | (go_at_call 53; refine (lin_pair _ _ _ _ xs _ _ _ _ ys _ h1 h2).mono ?_; rintro e w1 ⟨rfl, hb⟩; rw [HP.out]; replace h1 := h1.step hb; replace h2 := h2.step hb; replace B1 := B1.step hb; replace B2 := B2.step hb; have c10 := B1.c0; have c11 := B1.c1; have c20 := B2.c0; have c21 := B2.c1; have hE := below_step hB hb) | (go_at_call 54; refine (slices_compare _ _ _ _ _ _ xs ys h1 h2).mono ?_; rintro e w2 ⟨rfl, rfl⟩; rw [HO.out]) | (go_at_call 36; refine (cmp_compare _ _ _).mono ?_; rintro e w2 ⟨rfl, rfl⟩))
  refine bodyPost_ret (v := .tuple #[.int .i64 o, .int .i64 0]) (by simp [results, Try.results34, go_sem]) rfl ?_
  exact ⟨by first | rfl | simp, hE⟩

theorem lin_comp_eq (A : Option Addr) (n c : Nat) (K : Int) (xs : List Int) (A' : Option Addr) (n' c' : Nat) (L : Int) (ys : List Int) (w : World) (hI : IntsAt w A n xs) (hI' : IntsAt w A' n' ys) (hp : pairErr xs K ys L = 0) (ho : ordL xs ys = 0) :
    Calls Try.prog 34 #[.agg #[.slice A n c, .int .i64 K], .agg #[.slice A' n' c', .int .i64 L]] w fun e w' => e = .returned (.tuple #[.int .i64 (cmpI K L), .int .i64 0]) ∧ Below w.heap.size w w' := by
  have B1 := (LBox.new w A n c K).alloc (.cells #[.slice A' n' c', .int .i64 L] 24)
  have B2 := LBox.new (w.alloc (.cells #[.slice A n c, .int .i64 K] 24)) A' n' c' L
  have hB := below_step (below_alloc w (.cells #[.slice A n c, .int .i64 K] 24)) (below_alloc _ (.cells #[.slice A' n' c', .int .i64 L] 24))
  have h1 := hI.step hB
  have h2 := hI'.step hB
  simp only [World.size_alloc] at B2
  have hnn : n = n' := by have a0 := (pair_zero hp).2.2; have a1 := hI.len; have a2 := hI'.len; omega
  subst hnn
  have HP := Lib.hid hp
  clear hp hI hI'
  have HO := Lib.hid ho
  clear ho
  go_enter Try.func34, Try.ntmps34
  go_wp2_with (first | (go_at_call 53; refine (lin_pair _ _ _ _ xs _ _ _ _ ys _ h1 h2).mono ?_; rintro e w1 ⟨rfl, hb⟩; rw [HP.out]; replace h1 := h1.step hb; replace h2 := h2.step hb; replace B1 := B1.step hb; replace B2 := B2.step hb; have c10 := B1.c0; have c11 := B1.c1; have c20 := B2.c0; have c21 := B2.c1; have hE := below_step hB hb) | (go_at_call 54; refine (slices_compare _ _ _ _ _ _ xs ys h1 h2).mono ?_; rintro e w2 ⟨rfl, rfl⟩; rw [HO.out]) | (go_at_call 36; refine (cmp_compare _ _ _).mono ?_; rintro e w2 ⟨rfl, rfl⟩))
  refine bodyPost_ret (v := .tuple #[.int .i64 (cmpI K L), .int .i64 0]) (by simp [results, Try.results34, go_sem]) rfl ?_
  exact ⟨by first | rfl | simp, hE⟩

/-- lin.Compare, in one. -/
theorem lin_comp (A : Option Addr) (n c : Nat) (K : Int) (xs : List Int) (A' : Option Addr) (n' c' : Nat) (L : Int) (ys : List Int) (w : World) (hI : IntsAt w A n xs) (hI' : IntsAt w A' n' ys) :
    Calls Try.prog 34 #[.agg #[.slice A n c, .int .i64 K], .agg #[.slice A' n' c', .int .i64 L]] w fun e w' => e = .returned (.tuple #[.int .i64 (if pairErr xs K ys L = 0 then ordE xs K ys L else 0), .int .i64 (pairErr xs K ys L)]) ∧ Below w.heap.size w w' := by
  by_cases hp : pairErr xs K ys L = 0
  · by_cases ho : ordL xs ys = 0
    · have := lin_comp_eq A n c K xs A' n' c' L ys w hI hI' hp ho
      rw [if_pos hp, hp]; unfold ordE; rw [if_pos ho]; exact this
    · have := lin_comp_ne A n c K xs A' n' c' L ys w hI hI' hp ho
      rw [if_pos hp, hp]; unfold ordE; rw [if_neg ho]; exact this
  · have := lin_comp_err A n c K xs A' n' c' L ys w hI hI' hp
    rw [if_neg hp]; exact this
end Go.Proofs.Ytbjkijifpikhkaa
