/-
  The reference's Cmp: two rows, each with the constant behind it, in any order; then Order.
-/
import Derived.Test.YtbjkijifpikhkaaProg
import Derived.Test.YtbjkijifpikhkaaLinKit
import Derived.Test.YtbjkijifpikhkaaLinOrd
import Derived.Test.YtbjkijifpikhkaaLinComp
import Derived.Test.YtbjkijifpikhkaaRegInv
import Derived.Test.YtbjkijifpikhkaaAppendInts
namespace Go.Proofs.Ytbjkijifpikhkaa
open Go.RowKit
set_option linter.unusedVariables false
set_option linter.unusedSimpArgs false

/-- The facts of Cmp's operations. -/
def cmpFacts (n : Nat) (b1 : Nat) (A : Option Addr) (c : Nat) (K : Int) (xs : List Int) (b2 : Nat) (A' : Option Addr) (c' : Nat) (L : Int) (ys : List Int) (B : Nat) : Nat → Fact B
  | 0 => .own 3 0 []
  | 1 => .val (.pointer (some ⟨b1, 0, none⟩))
  | 2 => .val (.slice A n c)
  | 3 => .own 3 (0 + n) ([] ++ vals xs)
  | 4 => .val (.pointer (some ⟨b1, 1, none⟩))
  | 5 => .val (.int .i64 K)
  | 6 => .own 3 1 (vals [K])
  | 7 => .own 3 ((0 + n) + 1) (([] ++ vals xs) ++ vals [K])
  | 8 => .own 3 0 []
  | 9 => .val (.pointer (some ⟨b2, 0, none⟩))
  | 10 => .val (.slice A' n c')
  | 11 => .own 3 (0 + n) ([] ++ vals ys)
  | 12 => .val (.pointer (some ⟨b2, 1, none⟩))
  | 13 => .val (.int .i64 L)
  | 14 => .own 3 1 (vals [L])
  | 15 => .own 3 ((0 + n) + 1) (([] ++ vals ys) ++ vals [L])
  | 16 => .val (.int .i64 (ordL (xs ++ [K]) (ys ++ [L])))
  | 17 => .val (.int .i64 (ordL (xs ++ [K]) (ys ++ [L])))
  | _ => .any

def cmpPlan : Plan where
  slots := [5, 6, 7, 8, 9, 10, 11, 12, 13, 14, 15, 16, 17, 18, 19, 20, 21, 4]
  kill := [[], [], [], [0], [], [], [], [3], [], [], [], [8], [], [], [], [11], [], []]
  need := [[], [], [1], [0, 2], [], [4], [5], [3, 6], [], [], [9], [8, 10], [], [12], [13], [11, 14], [7, 15], [16]]

theorem ref_cmp (A : Option Addr) (n c : Nat) (K : Int) (xs : List Int) (A' : Option Addr) (c' : Nat) (L : Int) (ys : List Int) (w : World) (hI : IntsAt w A n xs) (hI' : IntsAt w A' n ys) (hn12 : n ≤ 12) (hK : -9223372036854775808 ≤ K ∧ K ≤ 9223372036854775807) (hL : -9223372036854775808 ≤ L ∧ L ≤ 9223372036854775807) :
    Calls Try.prog 58 #[.agg #[.slice A n c, .int .i64 K], .agg #[.slice A' n c', .int .i64 L]] w fun e w' => e = .returned (.int .i64 (ordL (xs ++ [K]) (ys ++ [L]))) ∧ Below w.heap.size w w' := by
  have B1 := (LBox.new w A n c K).alloc (.cells #[.slice A' n c', .int .i64 L] 24)
  have B2 := LBox.new (w.alloc (.cells #[.slice A n c, .int .i64 K] 24)) A' n c' L
  have hB := below_step (below_alloc w (.cells #[.slice A n c, .int .i64 K] 24)) (below_alloc _ (.cells #[.slice A' n c', .int .i64 L] 24))
  have h1 := hI.step hB
  have h2 := hI'.step hB
  simp only [World.size_alloc] at B2
  have HKs := Lib.hid (show ∀ x ∈ xs ++ [K], -9223372036854775808 ≤ x ∧ x ≤ 9223372036854775807 by
    intro x hx
    rcases List.mem_append.1 hx with h | h
    · exact hI.wf x h
    · rw [List.mem_singleton.1 h]; exact hK)
  have HLs := Lib.hid (show ∀ x ∈ ys ++ [L], -9223372036854775808 ≤ x ∧ x ≤ 9223372036854775807 by
    intro x hx
    rcases List.mem_append.1 hx with h | h
    · exact hI'.wf x h
    · rw [List.mem_singleton.1 h]; exact hL)
  have HK : ∀ x ∈ [K], -9223372036854775808 ≤ x ∧ x ≤ 9223372036854775807 := fun x hx => by rw [List.mem_singleton.1 hx]; exact hK
  have HL : ∀ x ∈ [L], -9223372036854775808 ≤ x ∧ x ≤ 9223372036854775807 := fun x hx => by rw [List.mem_singleton.1 hx]; exact hL
  clear hI hI' hK hL
  go_enter Try.func58, Try.ntmps58
  go_wp2
  generalize hw1 : ((w.alloc (.cells #[.slice A n c, .int .i64 K] 24)).alloc (.cells #[.slice A' n c', .int .i64 L] 24)) = w1 at *
  rename_i hwalk
  refine wp_region_plan (by rfl) cmpPlan (cmpFacts n w.heap.size A c K xs (w.heap.size + 1) A' c' L ys w1.heap.size) (fun W => Below w1.heap.size w1 W) (by kernel_rfl) rfl (Below.refl _ _).drew ?_ ?_
  case refine_2 =>
    intro a W hS hsz hdf hold hf
    have e1 := getd (show a.tmps.getD 4 undef = _ from hf 17 (by decide) (by decide))
    refine hwalk a W ?_
    go_wp2
    refine bodyPost_ret (v := .int .i64 (ordL (xs ++ [K]) (ys ++ [L]))) ?_ hdf ⟨rfl, below_step hB hS⟩
    simp [results, Try.results58, go_sem, e1]
  have hsm := h1.small
  refine ⟨?_, ?_, ?_, ?_, ?_, ?_, ?_, ?_, ?_, ?_, ?_, ?_, ?_, ?_, ?_, ?_, ?_, ?_, trivial⟩ <;> intro a W hS hold hn _ hsz0 <;> have hsz : Hid (a.tmps.size = 22) := Lib.hid hsz0 <;> clear hsz0
  · refine step_lit (cs := #[]) rfl rfl (slot_lt hsz (by kernel_rfl)) rfl (by decide) hS.size ?_ (hS.alloc hS.size _)
    go_simp
  · have e2 := getd (hold 2 rfl)
    refine step_val rfl rfl (slot_lt hsz (by kernel_rfl)) ?_ hS
    go_simp
  · obtain ⟨f1, _⟩ := hn
    have e1 := getd (show a.tmps.getD 6 undef = _ from f1)
    have c1 := (B1.below hS B1.lt).c0
    refine step_val rfl rfl (slot_lt hsz (by kernel_rfl)) ?_ hS
    go_simp
  · obtain ⟨f1, f2, _⟩ := hn
    have f1 : W.ownsRow w1.heap.size 3 1 (a.tmps.getD 5 undef) 0 ([]) := f1
    have f2 : a.tmps.getD 7 undef = _ := f2
    refine step_more rfl rfl (slot_lt hsz (by kernel_rfl)) rfl rfl ?_ (fun w' hg => hS.grown hg hS.size fun k hk => (f1.lt k hk).1)
    obtain ⟨v', w', r1, r2, r3, r4⟩ := append_ints W w1.heap.size 22 _ _ _ f1 _ _ _ _ (h1.step hS) (by omega) hS.size
    exact ⟨v', w', exec_append rfl rfl f2 r1, r2, r3, r4⟩
  · have e2 := getd (hold 2 rfl)
    refine step_val rfl rfl (slot_lt hsz (by kernel_rfl)) ?_ hS
    go_simp
  · obtain ⟨f1, _⟩ := hn
    have e1 := getd (show a.tmps.getD 9 undef = _ from f1)
    have c1 := (B1.below hS B1.lt).c1
    refine step_val rfl rfl (slot_lt hsz (by kernel_rfl)) ?_ hS
    go_simp
  · obtain ⟨f1, _⟩ := hn
    have e1 := getd (show a.tmps.getD 10 undef = _ from f1)
    refine step_lit (cs := #[.int .i64 K]) rfl rfl (slot_lt hsz (by kernel_rfl)) rfl (by decide) hS.size ?_ (hS.alloc hS.size _)
    go_simp
  · obtain ⟨f1, f2, _⟩ := hn
    have f1 : W.ownsRow w1.heap.size 3 1 (a.tmps.getD 8 undef) (0 + n) ([] ++ vals xs) := f1
    have f2 : W.ownsRow w1.heap.size 3 1 (a.tmps.getD 11 undef) 1 (vals [K]) := f2
    obtain ⟨A2, c2, e2, i2⟩ := own_ints f2 (by omega) (HK)
    refine step_more rfl rfl (slot_lt hsz (by kernel_rfl)) rfl rfl ?_ (fun w' hg => hS.grown hg hS.size fun k hk => (f1.lt k hk).1)
    obtain ⟨v', w', r1, r2, r3, r4⟩ := append_ints W w1.heap.size 22 _ _ _ f1 _ _ _ _ i2 (by omega) hS.size
    exact ⟨v', w', exec_append rfl rfl e2 r1, r2, r3, r4⟩
  · refine step_lit (cs := #[]) rfl rfl (slot_lt hsz (by kernel_rfl)) rfl (by decide) hS.size ?_ (hS.alloc hS.size _)
    go_simp
  · have e2 := getd (hold 3 rfl)
    refine step_val rfl rfl (slot_lt hsz (by kernel_rfl)) ?_ hS
    go_simp
  · obtain ⟨f1, _⟩ := hn
    have e1 := getd (show a.tmps.getD 14 undef = _ from f1)
    have c1 := (B2.below hS B2.lt).c0
    refine step_val rfl rfl (slot_lt hsz (by kernel_rfl)) ?_ hS
    go_simp
  · obtain ⟨f1, f2, _⟩ := hn
    have f1 : W.ownsRow w1.heap.size 3 1 (a.tmps.getD 13 undef) 0 ([]) := f1
    have f2 : a.tmps.getD 15 undef = _ := f2
    refine step_more rfl rfl (slot_lt hsz (by kernel_rfl)) rfl rfl ?_ (fun w' hg => hS.grown hg hS.size fun k hk => (f1.lt k hk).1)
    obtain ⟨v', w', r1, r2, r3, r4⟩ := append_ints W w1.heap.size 22 _ _ _ f1 _ _ _ _ (h2.step hS) (by omega) hS.size
    exact ⟨v', w', exec_append rfl rfl f2 r1, r2, r3, r4⟩
  · have e2 := getd (hold 3 rfl)
    refine step_val rfl rfl (slot_lt hsz (by kernel_rfl)) ?_ hS
    go_simp
  · obtain ⟨f1, _⟩ := hn
    have e1 := getd (show a.tmps.getD 17 undef = _ from f1)
    have c1 := (B2.below hS B2.lt).c1
    refine step_val rfl rfl (slot_lt hsz (by kernel_rfl)) ?_ hS
    go_simp
  · obtain ⟨f1, _⟩ := hn
    have e1 := getd (show a.tmps.getD 18 undef = _ from f1)
    refine step_lit (cs := #[.int .i64 L]) rfl rfl (slot_lt hsz (by kernel_rfl)) rfl (by decide) hS.size ?_ (hS.alloc hS.size _)
    go_simp
  · obtain ⟨f1, f2, _⟩ := hn
    have f1 : W.ownsRow w1.heap.size 3 1 (a.tmps.getD 16 undef) (0 + n) ([] ++ vals ys) := f1
    have f2 : W.ownsRow w1.heap.size 3 1 (a.tmps.getD 19 undef) 1 (vals [L]) := f2
    obtain ⟨A2, c2, e2, i2⟩ := own_ints f2 (by omega) (HL)
    refine step_more rfl rfl (slot_lt hsz (by kernel_rfl)) rfl rfl ?_ (fun w' hg => hS.grown hg hS.size fun k hk => (f1.lt k hk).1)
    obtain ⟨v', w', r1, r2, r3, r4⟩ := append_ints W w1.heap.size 22 _ _ _ f1 _ _ _ _ i2 (by omega) hS.size
    exact ⟨v', w', exec_append rfl rfl e2 r1, r2, r3, r4⟩
  · obtain ⟨f1, f2, _⟩ := hn
    have f1 : W.ownsRow w1.heap.size 3 1 (a.tmps.getD 12 undef) ((0 + n) + 1) (([] ++ vals xs) ++ vals [K]) := f1
    have f2 : W.ownsRow w1.heap.size 3 1 (a.tmps.getD 20 undef) ((0 + n) + 1) (([] ++ vals ys) ++ vals [L]) := f2
    rw [List.nil_append, ← vals_app, Nat.zero_add] at f1 f2
    obtain ⟨A1, c1, e1, i1⟩ := own_ints f1 (by omega) (HKs.out)
    obtain ⟨A2, c2, e2, i2⟩ := own_ints f2 (by omega) (HLs.out)
    have e1 := getd e1
    have e2 := getd e2
    refine step_call (f := 56) (args := #[.slice A1 (n + 1) c1, .slice A2 (n + 1) c2]) rfl rfl (slot_lt hsz (by kernel_rfl)) ?_ ((ref_order W A1 A2 (n + 1) c1 c2 _ _ i1 i2).mono ?_)
    · go_simp
    · rintro e w' ⟨rfl, k, rfl⟩
      exact ⟨rfl, hS.trans ((below_of_drewN k).mono hS.size), ⟨rfl, rfl, rfl, Nat.le_refl _, fun _ _ _ => rfl⟩⟩
  · obtain ⟨f1, _⟩ := hn
    have e1 := getd (show a.tmps.getD 21 undef = _ from f1)
    refine step_val rfl rfl (slot_lt hsz (by kernel_rfl)) ?_ hS
    go_simp

theorem ordL_snoc : ∀ (xs ys : List Int) (K L : Int), xs.length = ys.length → ordL (xs ++ [K]) (ys ++ [L]) = ordE xs K ys L := by
  intro xs
  induction xs with
  | nil => intro ys K L h; cases ys with
    | nil => simp [ordE, ordL, cmpI]
    | cons y ys => simp at h
  | cons x xs ih => intro ys K L h; cases ys with
    | nil => simp at h
    | cons y ys =>
      have := ih ys K L (by simpa using h)
      unfold ordE at this ⊢
      simp only [List.cons_append, ordL] at this ⊢
      split
      · simp
      · split
        · simp
        · exact this
end Go.Proofs.Ytbjkijifpikhkaa
