/-
  Part 1 of the texts that the laws stand on.
-/
import Derived.WalkKit
import Derived.ProofKit
import Derived.OpenShut
import Derived.SizedLaws
import Derived.Handy
import Derived.Deep.Draws
import Derived.Test.YtkgnlloioaobiaaGreatProg
import Derived.Deep.QuietTactic
import Derived.BigQuiet
import Derived.Lib.Hide
import Derived.OwnWalk
import Derived.Laws.OwnMore
import Derived.RangeFuncNested
import Derived.RangeFuncBound
import Derived.RangeFuncCalls
import Derived.RangeFuncLeaves
import Derived.Shelf.Abstract
import Derived.Shelf.RegionOpen
import Derived.OwnWalkIn
import Derived.TacticsInMore
import Derived.LoopNIn
import Derived.LoopIn
import Derived.OrdersIn
import Derived.OrdersHeld
import Derived.Orders
import Derived.TacticsIn
import Derived.Deep.RegionHeld3
import Derived.BigRegion
import Derived.Deep.Cut
import Derived.Laws.AppendOwn
import Derived.Below
import Derived.Deep.AppendLies
import Derived.Lib.SliceRun
import Derived.Maps.AppendAt
import Derived.Sort.Grow
import Derived.Deep.LoopGhost
import Derived.Laws.IdiomStrings
import Derived.Lib.SmallJoins
import Derived.Deep.Strs
import Derived.RangeFuncWrites
import Derived.Maps.OwnOps
import Derived.Maps.OwnSet
import Derived.Maps.Views
import Derived.Laws.AppendOwnNone
import Derived.Lib.AppendZerosOnto
import Derived.Lib.Walk
import Derived.Shelf.SlSortCmp.WholeK
import Derived.Deep.RegionLaw
import Derived.Test.YtkgnlloioaobiaaGreatJd
set_option linter.unusedVariables false
set_option linter.unusedSimpArgs false
set_option maxRecDepth 100000
set_option linter.unusedSectionVars false
namespace Go.Proofs.YtkgnlloioaobiaaGreat
open Go.RowKit
theorem fitsB_false {n : Int} : fitsB n = false ↔ ¬ (-1048576 ≤ n ∧ n ≤ 1048576) := by unfold fitsB; simp
theorem num_mod (a b : Int) (wa : -9223372036854775808 ≤ a) (wa' : a ≤ 9223372036854775807) (wb : b ≤ 9223372036854775807) (hb : 1 ≤ b) (w : World) : Calls Tryz.prog 89 #[.int .i64 a, .int .i64 b] w fun e w' => e = .returned (.tuple #[.int .i64 (a % b), .int .i64 0]) ∧ w = w' := by
  have hc := tmod_cases a b hb
  have m0 := Int.emod_nonneg a (show b ≠ 0 by omega)
  have m1 := Int.emod_lt_of_pos a (show 0 < b by omega)
  have HC := Lib.hid (And.intro hc (And.intro m0 m1))
  clear hc m0 m1
  by_cases g1 : a.tmod b < 0
  · go_enter Tryz.func89, Tryz.ntmps89
    go_wp2
    go_ret2
    exact ⟨ret2 (vint (by have := HC.out; unfold wrap64; omega)) rfl, rfl⟩
  · go_enter Tryz.func89, Tryz.ntmps89
    go_wp2
    go_ret2
    exact ⟨ret2 (vint (by have := HC.out; omega)) rfl, rfl⟩
end Go.Proofs.YtkgnlloioaobiaaGreat
namespace Go.Proofs.YtkgnlloioaobiaaGreat
open Go.RowKit
def goodAt (cs xs : List Int) (i : Nat) : Prop := (-1048576 ≤ cs[i]?.getD 0 ∧ cs[i]?.getD 0 ≤ 1048576) ∧ -4294967296 ≤ xs[i]?.getD 0 ∧ xs[i]?.getD 0 ≤ 4294967296
open Classical in
noncomputable def dotErr (cs xs : List Int) : Int := if cs.length ≠ xs.length then 2 else if 12 < cs.length then 3 else if ∀ i, i < cs.length → goodAt cs xs i then 0 else 6
noncomputable def dotVal (cs xs : List Int) : Int := if dotErr cs xs = 0 then dotSum cs xs cs.length else 0
theorem mul_bd {x y A B : Int} (hx : -A ≤ x ∧ x ≤ A) (hy : -B ≤ y ∧ y ≤ B) : -(A * B) ≤ x * y ∧ x * y ≤ A * B := by
  have h : (x * y).natAbs ≤ A.natAbs * B.natAbs := by rw [Int.natAbs_mul]; exact Nat.mul_le_mul (by omega) (by omega)
  have e : ((A.natAbs * B.natAbs : Nat) : Int) = A * B := by
    rw [Int.natCast_mul]
    have h1 : (A.natAbs : Int) = A := by omega
    have h2 : (B.natAbs : Int) = B := by omega
    rw [h1, h2]
  omega
theorem dotSum_bd {cs xs : List Int} : ∀ i, (∀ j, j < i → goodAt cs xs j) → -(4503599627370496 * (i : Int)) ≤ dotSum cs xs i ∧ dotSum cs xs i ≤ 4503599627370496 * (i : Int)
  | 0, _ => by simp [dotSum]
  | i + 1, h => by
    have ih := dotSum_bd i fun j hj => h j (by omega)
    obtain ⟨h1, h2⟩ := h i (by omega)
    have hm := mul_bd h1 h2
    simp only [dotSum, Int.natCast_add]
    omega
theorem good_succ {cs xs : List Int} {i : Nat} (hg : ∀ j, j < i → goodAt cs xs j) (h : goodAt cs xs i) : ∀ j, j < i + 1 → goodAt cs xs j := fun j hj => by
  rcases Nat.lt_or_eq_of_le (Nat.le_of_lt_succ hj) with h1 | h1
  · exact hg j h1
  · exact h1 ▸ h
def coordB (n : Int) : Bool := decide (-4294967296 ≤ n ∧ n ≤ 4294967296)
theorem coordB_true {n : Int} : coordB n = true ↔ -4294967296 ≤ n ∧ n ≤ 4294967296 := by unfold coordB; simp
theorem coordB_false {n : Int} : coordB n = false ↔ ¬ (-4294967296 ≤ n ∧ n ≤ 4294967296) := by unfold coordB; simp
theorem coord_any (n : Int) (w : World) : Calls Tryz.prog 63 #[.int .i64 n] w fun e w' => e = .returned (.bool (coordB n)) ∧ w = w' := by
  by_cases h1 : -4294967296 ≤ n
  all_goals
    go_enter Tryz.func63, Tryz.ntmps63
    go_wp2
    go_ret
    exact ⟨ret_bool (by unfold coordB; simp; omega), rfl⟩
theorem dot_bad {cs xs : List Int} {i : Nat} (hl : cs.length = xs.length) (h12 : ¬ 12 < cs.length) (hi : i < cs.length) (hb : ¬ goodAt cs xs i) : 0 = dotVal cs xs ∧ 6 = dotErr cs xs := by
  have e1 : dotErr cs xs = 6 := by
    unfold dotErr
    rw [if_neg (by simpa using hl), if_neg h12, if_neg (fun h => hb (h i hi))]
  exact ⟨by unfold dotVal; rw [if_neg (by rw [e1]; decide)], e1.symm⟩
theorem dot_ok {cs xs : List Int} (hl : cs.length = xs.length) (h12 : ¬ 12 < cs.length) (h : ∀ i, i < cs.length → goodAt cs xs i) : dotSum cs xs cs.length = dotVal cs xs ∧ 0 = dotErr cs xs := by
  have e1 : dotErr cs xs = 0 := by
    unfold dotErr
    rw [if_neg (by simpa using hl), if_neg h12, if_pos h]
  exact ⟨by unfold dotVal; rw [if_pos e1], e1.symm⟩
theorem not_good {cs xs : List Int} {i : Nat} (h : ¬ goodAt cs xs i) : ¬ (-1048576 ≤ cs[i]?.getD 0 ∧ cs[i]?.getD 0 ≤ 1048576) ∨
    ((-1048576 ≤ cs[i]?.getD 0 ∧ cs[i]?.getD 0 ≤ 1048576) ∧ xs[i]?.getD 0 < -4294967296) ∨ ((-1048576 ≤ cs[i]?.getD 0 ∧ cs[i]?.getD 0 ≤ 1048576) ∧ -4294967296 ≤ xs[i]?.getD 0 ∧ 4294967296 < xs[i]?.getD 0) := by
  unfold goodAt at h; omega
theorem num_dot (w : World) (B : Nat) (A A' : Option Addr) (n c n' c' : Nat) (cs xs : List Int) (h : Ints w B A n cs) (h' : Ints w B A' n' xs) :
    Calls Tryz.prog 109 #[.slice A n c, .slice A' n' c'] w fun e w' => e = .returned (.tuple #[.int .i64 (dotVal cs xs), .int .i64 (dotErr cs xs)]) ∧ ∃ k, w' = w.drewN k := by
  have hn := h.small
  have hn' := h'.small
  by_cases hl : n = n'
  · subst hl
    by_cases h12 : 12 < n
    · have e1 : dotErr cs xs = 3 := by unfold dotErr; rw [if_neg (by rw [h.len, h'.len]; simp), if_pos (by rw [h.len]; exact h12)]
      have e2 : dotVal cs xs = 0 := by unfold dotVal; rw [if_neg (by rw [e1]; decide)]
      have HE := Lib.hid (And.intro e2.symm e1.symm)
      clear e1 e2
      have h12' : (12 : Int) < n := by omega
      go_enter Tryz.func109, Tryz.ntmps109
      go_wp2
      go_ret2
      exact ⟨ret2 (vint HE.out.1) (vint HE.out.2), 0, rfl⟩
    · have h12' : (n : Int) ≤ 12 := by omega
      go_enter Tryz.func109, Tryz.ntmps109
      go_wp2
      go_loopw [6, 18] (fun u v wr => ∃ (i k : Nat), i ≤ n ∧ v = .int .i64 i ∧ u = .int .i64 (dotSum cs xs i) ∧ (∀ j, j < i → goodAt cs xs j) ∧ wr = w.drewN k) (fun _ v _ => n - (intOf v).toNat)
      case atStart => exact ⟨0, 0, Nat.zero_le _, rfl, rfl, fun j hj => absurd hj (by omega), rfl⟩
      case round =>
        obtain ⟨i, k, hi, rfl, rfl, hg, rfl⟩ := hrel
        by_cases hlt : i < n
        · obtain ⟨bl, off, rfl, hb, hc⟩ := h.cells (by omega)
          obtain ⟨bl', off', rfl, hb', hc'⟩ := h'.cells (by omega)
          have hcell := hc i hlt
          have hcell' := hc' i hlt
          clear hc hc'
          by_cases hgood : goodAt cs xs i
          · have hs := dotSum_bd i hg
            have hs' := dotSum_bd (cs := cs) (xs := xs) (i + 1) (good_succ hg hgood)
            have hm := mul_bd hgood.1 hgood.2
            have HG := Lib.hid (And.intro hg hgood)
            have gd := coordB_true.2 hgood.2
            have gf := fitsB_true.2 hgood.1
            obtain ⟨⟨g1, g2⟩, g3, g4⟩ := hgood
            simp only [dotSum] at hs'
            have HE := Lib.hid (show wrap64 (dotSum cs xs i + wrap64 (cs[i]?.getD 0 * xs[i]?.getD 0)) = dotSum cs xs (i + 1) by
              rw [IntWalk.wrap64_in (cs[i]?.getD 0 * xs[i]?.getD 0) (by omega)]
              exact IntWalk.wrap64_in _ (by omega))
            clear hs hs' hm hg
            have q1 : (0 : Int) ≤ i := by omega
            have q2 : (i : Int) < n := by omega
            go_wp2_with (first
              | (go_at_call 111; refine (num_fits _ _).mono ?_; rintro e w' ⟨rfl, rfl⟩)
              | (go_at_call 111; refine (coord_any _ _).mono ?_; rintro e w' ⟨rfl, rfl⟩))
            go_quiet (fail)
            go_wp2
            go_roundw
            case rel => exact ⟨i + 1, _, by omega, by go_num, vint HE.out, good_succ HG.out.1 HG.out.2, rfl⟩
            case measure => simp [intOf]; omega
          · have HB := Lib.hid (dot_bad (h.len.trans h'.len.symm) (by rw [h.len]; exact h12) (by rw [h.len]; exact hlt) hgood)
            have q1 : (0 : Int) ≤ i := by omega
            have q2 : (i : Int) < n := by omega
            rcases not_good hgood with g | ⟨⟨g1, g2⟩, g3⟩ | ⟨⟨g1, g2⟩, g3, g4⟩
            · have gd := fitsB_false.2 g
              clear g hgood hg
              go_wp2_with (first
                | (go_at_call 111; refine (num_fits _ _).mono ?_; rintro e w' ⟨rfl, rfl⟩)
                | (go_at_call 111; refine (coord_any _ _).mono ?_; rintro e w' ⟨rfl, rfl⟩))
              go_ret2
              exact ⟨ret2 (vint HB.out.1) (vint HB.out.2), _, rfl⟩
            · have gd : coordB (xs[i]?.getD 0) = false := coordB_false.2 (by omega)
              have gf := fitsB_true.2 ⟨g1, g2⟩
              clear hgood hg
              go_wp2_with (first
                | (go_at_call 111; refine (num_fits _ _).mono ?_; rintro e w' ⟨rfl, rfl⟩)
                | (go_at_call 111; refine (coord_any _ _).mono ?_; rintro e w' ⟨rfl, rfl⟩))
              go_ret2
              exact ⟨ret2 (vint HB.out.1) (vint HB.out.2), _, rfl⟩
            · have gd : coordB (xs[i]?.getD 0) = false := coordB_false.2 (by omega)
              have gf := fitsB_true.2 ⟨g1, g2⟩
              clear hgood hg
              go_wp2_with (first
                | (go_at_call 111; refine (num_fits _ _).mono ?_; rintro e w' ⟨rfl, rfl⟩)
                | (go_at_call 111; refine (coord_any _ _).mono ?_; rintro e w' ⟨rfl, rfl⟩))
              go_ret2
              exact ⟨ret2 (vint HB.out.1) (vint HB.out.2), _, rfl⟩
        · have e : n = i := by omega
          have HB := Lib.hid (dot_ok (h.len.trans h'.len.symm) (by rw [h.len]; exact h12) (fun j hj => hg j (by rw [h.len] at hj; omega)))
          have HL := Lib.hid (h.len.trans e)
          have hge : ¬ i < n := hlt
          clear e hg
          go_wp2
          go_ret2
          exact ⟨ret2 (vint (by rw [← HB.out.1, HL.out])) (vint HB.out.2), _, rfl⟩
  · have e1 : dotErr cs xs = 2 := by unfold dotErr; rw [if_pos (by rw [h.len, h'.len]; exact hl)]
    have e2 : dotVal cs xs = 0 := by unfold dotVal; rw [if_neg (by rw [e1]; decide)]
    have HE := Lib.hid (And.intro e2.symm e1.symm)
    have hne : ((n : Int) != n') = true := by simp; omega
    clear e1 e2
    go_enter Tryz.func109, Tryz.ntmps109
    go_wp2
    go_ret2
    exact ⟨ret2 (vint HE.out.1) (vint HE.out.2), 0, rfl⟩
end Go.Proofs.YtkgnlloioaobiaaGreat
namespace Go.Proofs.YtkgnlloioaobiaaGreat
open Go.RowKit
theorem ints_store2 {w : World} {g b n : Nat} {xs : List Int} (h : IntsAt w (some ⟨g, 0, none⟩) n xs) {x : Option Addr} (hx : x = some ⟨g, 0, none⟩) (hb : b ≠ g) (u v : Value) : IntsAt ((w.setCell ⟨b, 0, none⟩ u).setCell ⟨b, 1, none⟩ v) x n xs := by
  subst hx
  refine ⟨h.len, h.small, h.wf, fun hn => ?_⟩
  obtain ⟨b', off, e, hlt, hc⟩ := h.cells hn
  obtain ⟨rfl, rfl⟩ : g = b' ∧ 0 = off := by simpa using e
  refine ⟨g, 0, rfl, by simpa using hlt, fun j hj => ?_⟩
  rw [World.cell?_setCell_far _ ⟨b, 1, none⟩ ⟨g, 0 + j, none⟩ _ hb, World.cell?_setCell_far _ ⟨b, 0, none⟩ ⟨g, 0 + j, none⟩ _ hb]
  exact hc j hj
end Go.Proofs.YtkgnlloioaobiaaGreat
namespace Go.Proofs.YtkgnlloioaobiaaGreat
open Go.RowKit
noncomputable def atErr (xs : List Int) (K : Int) (ps : List Int) : Int := if validB xs K = true then dotErr xs ps else 1
noncomputable def atVal (xs : List Int) (K : Int) (ps : List Int) : Int := if atErr xs K ps = 0 then K + dotSum xs ps xs.length else 0
theorem dotErr_zero {xs ps : List Int} : dotErr xs ps = 0 ↔ xs.length = ps.length ∧ xs.length ≤ 12 ∧ ∀ i, i < xs.length → goodAt xs ps i := by
  unfold dotErr
  split
  · rename_i h; exact ⟨(fun e => by cases e), fun h' => absurd h'.1 h⟩
  · rename_i h
    split
    · rename_i h'; exact ⟨(fun e => by cases e), fun h2 => absurd h2.2.1 (by omega)⟩
    · rename_i h'
      split
      · rename_i h2; exact ⟨fun _ => ⟨by simpa using h, by omega, h2⟩, fun _ => rfl⟩
      · rename_i h2; exact ⟨(fun e => by cases e), fun h3 => absurd h3.2.2 h2⟩
theorem dotVal_zero {xs ps : List Int} (h : dotErr xs ps = 0) : dotVal xs ps = dotSum xs ps xs.length := by unfold dotVal; rw [if_pos h]
theorem sum_bd {xs ps : List Int} {K : Int} (hk : fitsB K = true) {i : Nat} (h12 : i ≤ 12) (hg : ∀ j, j < i → goodAt xs ps j) : -4611686018427387904 ≤ K + dotSum xs ps i ∧ K + dotSum xs ps i ≤ 4611686018427387904 := by
  have h1 := dotSum_bd i hg
  have h2 := fitsB_true.1 hk
  omega
theorem at_ok {xs ps : List Int} {K : Int} (hv : validB xs K = true) (h : dotErr xs ps = 0) : wrap64 (dotVal xs ps + K) = atVal xs K ps ∧ 0 = atErr xs K ps := by
  have e : atErr xs K ps = 0 := by unfold atErr; rw [if_pos hv, h]
  obtain ⟨h1, h2, h3⟩ := dotErr_zero.1 h
  have hb := sum_bd (validB_true.1 hv).2.1 h2 h3
  rw [dotVal_zero h]
  refine ⟨?_, e.symm⟩
  unfold atVal
  rw [if_pos e, IntWalk.wrap64_in _ (by omega)]; omega
theorem at_bad {xs ps : List Int} {K : Int} (hv : validB xs K = true) (h : dotErr xs ps ≠ 0) : 0 = atVal xs K ps ∧ dotErr xs ps = atErr xs K ps := by
  have e : atErr xs K ps = dotErr xs ps := by unfold atErr; rw [if_pos hv]
  exact ⟨by unfold atVal; rw [if_neg (by rw [e]; exact h)], e.symm⟩
theorem at_invalid {xs ps : List Int} {K : Int} (hv : validB xs K = false) : 0 = atVal xs K ps ∧ 1 = atErr xs K ps := by
  have e : atErr xs K ps = 1 := by unfold atErr; rw [if_neg (by rw [hv]; simp)]
  exact ⟨by unfold atVal; rw [if_neg (by rw [e]; decide)], e.symm⟩
theorem lin_at (A : Option Addr) (n c : Nat) (K : Int) (xs : List Int) (A' : Option Addr) (n' c' : Nat) (ps : List Int) (w : World) (hI : IntsAt w A n xs) (hI' : IntsAt w A' n' ps) :
    Calls Tryz.prog 88 #[.agg #[.slice A n c, .int .i64 K], .slice A' n' c'] w fun e w' => e = .returned (.tuple #[.int .i64 (atVal xs K ps), .int .i64 (atErr xs K ps)]) ∧ Below w.heap.size w w' := by
  have hB := below_alloc w (.cells #[.slice A n c, .int .i64 K] 54)
  have h1 := hI.step hB
  have h2 := hI'.step hB
  have B1 := LBox.new w A n c K
  clear hI hI'
  cases hv : validB xs K
  · have HE := Lib.hid (at_invalid (ps := ps) hv)
    go_enter Tryz.func88, Tryz.ntmps88
    go_wp2_with (go_at_call 91; refine (lin_valid _ _ _ _ xs _ h1).mono ?_; rintro e w' ⟨rfl, hb⟩; replace hB := below_step hB hb)
    go_ret2
    exact ⟨ret2 (vint HE.out.1) (vint HE.out.2), hB⟩
  · by_cases h0 : dotErr xs ps = 0
    · have HE := Lib.hid (at_ok hv h0)
      have H0 := Lib.hid h0
      clear h0
      go_enter Tryz.func88, Tryz.ntmps88
      go_wp2_with (first
        | (go_at_call 91; refine (lin_valid _ _ _ _ xs _ h1).mono ?_; rintro e w' ⟨rfl, hb⟩; replace hB := below_step hB hb; replace h1 := h1.step hb; replace h2 := h2.step hb; replace B1 := B1.step hb; have c10 := B1.c0; have c11 := B1.c1)
        | (go_at_call 109; refine (num_dot _ _ _ _ _ _ _ _ xs ps h1 h2).mono ?_; rintro e w' ⟨rfl, k, rfl⟩; rw [H0.out]))
      go_ret2
      exact ⟨ret2 (vint HE.out.1) (vint HE.out.2), below_step hB (below_of_drewN _)⟩
    · have HE := Lib.hid (at_bad hv h0)
      have q1 : (dotErr xs ps != 0) = true := by simpa using h0
      have q2 : (dotErr xs ps == 0) = false := by simpa using h0
      clear h0
      go_enter Tryz.func88, Tryz.ntmps88
      go_wp2_with (first
        | (go_at_call 91; refine (lin_valid _ _ _ _ xs _ h1).mono ?_; rintro e w' ⟨rfl, hb⟩; replace hB := below_step hB hb; replace h1 := h1.step hb; replace h2 := h2.step hb; replace B1 := B1.step hb; have c10 := B1.c0; have c11 := B1.c1)
        | (go_at_call 109; refine (num_dot _ _ _ _ _ _ _ _ xs ps h1 h2).mono ?_; rintro e w' ⟨rfl, k, rfl⟩))
      go_ret2
      exact ⟨ret2 (vint HE.out.1) (vint HE.out.2), below_step hB (below_of_drewN _)⟩
def pointB (ps : List Int) : Bool := ps.all coordB
theorem ref_value (A : Option Addr) (n c : Nat) (K : Int) (xs : List Int) (A' : Option Addr) (n' c' : Nat) (ps : List Int) (w : World) (hI : IntsAt w A n xs) (hI' : IntsAt w A' n' ps)
    (hk : fitsB K = true) (h12 : n ≤ 12) (hnn : n ≤ n') (hgood : ∀ j, j < n → goodAt xs ps j) :
    Calls Tryz.prog 110 #[.agg #[.slice A n c, .int .i64 K], .slice A' n' c'] w fun e w' => e = .returned (.int .i64 (K + dotSum xs ps n)) ∧ Below w.heap.size w w' := by
  have hB := below_alloc w (.cells #[.slice A n c, .int .i64 K] 54)
  have h := hI.step hB
  have h' := hI'.step hB
  have hsm' := hI'.small
  have HK := Lib.hid hk
  have HG := Lib.hid hgood
  clear hk hgood hI hI'
  go_enter Tryz.func110, Tryz.ntmps110
  go_wp2
  go_loopw [5, 12] (fun u v wr => ∃ i k : Nat, i ≤ n ∧ v = .int .i64 i ∧ u = .int .i64 (K + dotSum xs ps i) ∧ wr = (w.alloc (.cells #[.slice A n c, .int .i64 K] 54)).drewN k) (fun _ v _ => n - (intOf v).toNat)
  case atStart => exact ⟨0, 0, Nat.zero_le _, rfl, by simp [dotSum], rfl⟩
  case round =>
    obtain ⟨i, k, hi, rfl, rfl, rfl⟩ := hrel
    by_cases hlt : i < n
    · obtain ⟨b, off, rfl, hb, hc⟩ := h.cells (by omega)
      obtain ⟨b', off', rfl, hb', hc'⟩ := h'.cells (by omega)
      have hcell := hc i hlt
      have hcell' := hc' i (by omega)
      have hlt' : i < n' := by omega
      clear hc hc'
      have HE := Lib.hid (show wrap64 (K + dotSum xs ps i + wrap64 (xs[i]?.getD 0 * ps[i]?.getD 0)) = K + dotSum xs ps (i + 1) by
        have hm := mul_bd (HG.out i hlt).1 (HG.out i hlt).2
        have hs := sum_bd (i := i + 1) HK.out (by omega) (fun j hj => HG.out j (by omega))
        simp only [dotSum] at hs ⊢
        rw [IntWalk.wrap64_in (xs[i]?.getD 0 * ps[i]?.getD 0) (by omega), IntWalk.wrap64_in _ (by omega)]; omega)
      go_wp2
      go_quiet (fail)
      go_wp2
      go_roundw
      case rel => exact ⟨i + 1, _, by omega, by go_num, vint HE.out, rfl⟩
      case measure => simp [intOf]; omega
    · obtain rfl : i = n := by omega
      go_wp2
      go_ret
      exact ⟨rfl, below_step hB (below_of_drewN _)⟩
theorem dot_cases {xs ps : List Int} {K : Int} (hv : validB xs K = true) : (xs.length ≠ ps.length ∧ dotErr xs ps = 2) ∨ (xs.length = ps.length ∧ pointB ps = false ∧ dotErr xs ps = 6) ∨ (xs.length = ps.length ∧ pointB ps = true ∧ dotErr xs ps = 0) := by
  obtain ⟨h12, _, hf⟩ := validB_true.1 hv
  by_cases hl : xs.length = ps.length
  · have hg : (∀ i, i < xs.length → goodAt xs ps i) ↔ pointB ps = true := by
      refine ⟨fun h => List.all_eq_true.2 ((all_getD (p := fun x => coordB x = true)).2 fun j hj => coordB_true.2 (h j (by omega)).2), fun h i hi => ?_⟩
      exact ⟨fitsB_true.1 (hf _ (getD_mem hi)), coordB_true.1 (List.all_eq_true.1 h _ (getD_mem (by omega)))⟩
    cases hp : pointB ps
    · refine .inr (.inl ⟨hl, rfl, ?_⟩)
      unfold dotErr
      rw [if_neg (by simpa using hl), if_neg (by omega), if_neg (by rw [hg, hp]; simp)]
    · exact .inr (.inr ⟨hl, rfl, dotErr_zero.2 ⟨hl, h12, hg.2 hp⟩⟩)
  · exact .inl ⟨hl, by unfold dotErr; rw [if_pos hl]⟩
end Go.Proofs.YtkgnlloioaobiaaGreat
namespace Go.Proofs.YtkgnlloioaobiaaGreat
open Go.RowKit
noncomputable def hErr (q M : Int) (xs : List Int) (K : Int) (ps : List Int) : Int := if validC q M xs K = true then atErr xs K ps else 1
noncomputable def hVal (q M : Int) (xs : List Int) (K : Int) (ps : List Int) : Bool := if hErr q M xs K ps = 0 then holdB q M (atVal xs K ps) else false
theorem h_inv {q M : Int} {xs : List Int} {K : Int} {ps : List Int} (h : validC q M xs K = false) : hVal q M xs K ps = false ∧ hErr q M xs K ps = 1 := by
  have e : hErr q M xs K ps = 1 := by unfold hErr; rw [h]; rfl
  exact ⟨by unfold hVal; rw [e]; rfl, e⟩
theorem h_bad {q M : Int} {xs : List Int} {K : Int} {ps : List Int} (h : validC q M xs K = true) (he : atErr xs K ps ≠ 0) : hVal q M xs K ps = false ∧ hErr q M xs K ps = atErr xs K ps := by
  have e : hErr q M xs K ps = atErr xs K ps := by unfold hErr; rw [if_pos h]
  exact ⟨by unfold hVal; rw [e, if_neg he], e⟩
theorem h_ok {q M : Int} {xs : List Int} {K : Int} {ps : List Int} (h : validC q M xs K = true) (he : atErr xs K ps = 0) : hVal q M xs K ps = holdB q M (atVal xs K ps) ∧ hErr q M xs K ps = 0 := by
  have e : hErr q M xs K ps = 0 := by unfold hErr; rw [if_pos h, he]
  exact ⟨by unfold hVal; rw [e, if_pos rfl], e⟩
theorem retB {a b : Bool} {x y : Int} (h : a = b) (h' : x = y) : Ending.returned (.tuple #[.bool a, .int .i64 x]) = Ending.returned (.tuple #[.bool b, .int .i64 y]) := by rw [h, h']
set_option maxHeartbeats 4000000 in
theorem cond_holds (q M : Int) (A : Option Addr) (n c : Nat) (K : Int) (xs : List Int) (A' : Option Addr) (n' c' : Nat) (ps : List Int) (w : World) (hI : IntsAt w A n xs) (hI' : IntsAt w A' n' ps) :
    Calls Tryz.prog 65 #[condV q M A n c K, .slice A' n' c'] w fun e w' => e = .returned (.tuple #[.bool (hVal q M xs K ps), .int .i64 (hErr q M xs K ps)]) ∧ Below w.heap.size w w' := by
  have hB := below_alloc w (.cells #[.int .i64 q, .int .i64 M, .slice A n c, .int .i64 K] 56)
  have h1 := hI.step hB
  have h2 := hI'.step hB
  have B1 := CBox.new w q M A n c K
  clear hI hI'
  cases hv : validC q M xs K
  · have HE := Lib.hid (h_inv (ps := ps) hv)
    have HV := Lib.hid hv
    clear hv
    go_enter Tryz.func65, Tryz.ntmps65
    go_wp2_with (go_at_call 84; refine (cond_valid _ _ _ _ _ _ xs _ h1).mono ?_; rintro e w1 ⟨rfl, hb⟩; rw [HV.out]; replace hB := below_step hB hb)
    go_ret2
    exact ⟨retB HE.out.1.symm HE.out.2.symm, hB⟩
  · by_cases he : atErr xs K ps = 0
    · have HE := Lib.hid (h_ok hv he)
      have HV := Lib.hid hv
      have HA := Lib.hid he
      obtain ⟨v, hvv⟩ : ∃ v, atVal xs K ps = v := ⟨_, rfl⟩
      have HX := Lib.hid hvv
      rw [hvv] at HE
      have hrg : -9223372036854775808 ≤ v ∧ v ≤ 9223372036854775807 := by
        have hvB := (validC_kind hv).1
        have h0 : dotErr xs ps = 0 := by
          by_cases h0 : dotErr xs ps = 0
          · exact h0
          · rw [← (at_bad hvB h0).2] at he; exact absurd he h0
        obtain ⟨_, a2, a3⟩ := dotErr_zero.1 h0
        have hbd := sum_bd (validB_true.1 hvB).2.1 a2 a3
        rw [← hvv]; unfold atVal; rw [if_pos he]; omega
      have hk := (validC_kind hv).2
      clear hv he hvv
      rcases hk with ⟨rfl, rfl⟩ | ⟨rfl, rfl⟩ | ⟨rfl, hM, hM'⟩
      · have hf := HE.out.1
        go_enter Tryz.func65, Tryz.ntmps65
        clear hf
        go_wp2_with (first
          | (go_at_call 84; refine (cond_valid _ _ _ _ _ _ xs _ h1).mono ?_; rintro e w1 ⟨rfl, hb⟩; rw [HV.out]; replace hB := below_step hB hb; replace h1 := h1.step hb; replace h2 := h2.step hb; replace B1 := B1.step hb; have c0 := B1.c0; have c1 := B1.c1; have c2 := B1.c2; have c3 := B1.c3)
          | (go_at_call 88; refine (lin_at _ _ _ _ xs _ _ _ ps _ h1 h2).mono ?_; rintro e w1 ⟨rfl, hb⟩; rw [HA.out, HX.out]; replace hB := below_step hB hb; replace B1 := B1.step hb; have c0 := B1.c0; have c1 := B1.c1))
        go_ret2
        exact ⟨retB (by rw [HE.out.1]; unfold holdB; first | (simp; done) | (simp; rfl)) HE.out.2.symm, hB⟩
      · go_enter Tryz.func65, Tryz.ntmps65
        go_wp2_with (first
          | (go_at_call 84; refine (cond_valid _ _ _ _ _ _ xs _ h1).mono ?_; rintro e w1 ⟨rfl, hb⟩; rw [HV.out]; replace hB := below_step hB hb; replace h1 := h1.step hb; replace h2 := h2.step hb; replace B1 := B1.step hb; have c0 := B1.c0; have c1 := B1.c1; have c2 := B1.c2; have c3 := B1.c3)
          | (go_at_call 88; refine (lin_at _ _ _ _ xs _ _ _ ps _ h1 h2).mono ?_; rintro e w1 ⟨rfl, hb⟩; rw [HA.out, HX.out]; replace hB := below_step hB hb; replace B1 := B1.step hb; have c0 := B1.c0; have c1 := B1.c1))
        go_ret2
        exact ⟨retB (by rw [HE.out.1]; unfold holdB; first | (simp; done) | (simp; rfl)) HE.out.2.symm, hB⟩
      · go_enter Tryz.func65, Tryz.ntmps65
        go_wp2_with (first
          | (go_at_call 84; refine (cond_valid _ _ _ _ _ _ xs _ h1).mono ?_; rintro e w1 ⟨rfl, hb⟩; rw [HV.out]; replace hB := below_step hB hb; replace h1 := h1.step hb; replace h2 := h2.step hb; replace B1 := B1.step hb; have c0 := B1.c0; have c1 := B1.c1; have c2 := B1.c2; have c3 := B1.c3)
          | (go_at_call 88; refine (lin_at _ _ _ _ xs _ _ _ ps _ h1 h2).mono ?_; rintro e w1 ⟨rfl, hb⟩; rw [HA.out, HX.out]; replace hB := below_step hB hb; replace B1 := B1.step hb; have c0 := B1.c0; have c1 := B1.c1)
          | (go_at_call 89; refine (num_mod _ _ hrg.1 hrg.2 (by omega) hM _).mono ?_; rintro e w' ⟨rfl, rfl⟩))
        go_ret2
        exact ⟨retB (by rw [HE.out.1]; unfold holdB; first | (simp; done) | (simp; rfl)) HE.out.2.symm, hB⟩
    · have HE := Lib.hid (h_bad hv he)
      have HV := Lib.hid hv
      have q1 : (atErr xs K ps != 0) = true := by simpa using he
      have q2 : (atErr xs K ps == 0) = false := by simpa using he
      clear hv he
      go_enter Tryz.func65, Tryz.ntmps65
      go_wp2_with (first
        | (go_at_call 84; refine (cond_valid _ _ _ _ _ _ xs _ h1).mono ?_; rintro e w1 ⟨rfl, hb⟩; rw [HV.out]; replace hB := below_step hB hb; replace h1 := h1.step hb; replace h2 := h2.step hb; replace B1 := B1.step hb; have c0 := B1.c0; have c1 := B1.c1; have c2 := B1.c2; have c3 := B1.c3)
        | (go_at_call 88; refine (lin_at _ _ _ _ xs _ _ _ ps _ h1 h2).mono ?_; rintro e w1 ⟨rfl, hb⟩; replace hB := below_step hB hb))
      go_ret2
      exact ⟨retB HE.out.1.symm HE.out.2.symm, hB⟩
theorem ref_is (q M : Int) (A : Option Addr) (n c : Nat) (K : Int) (xs : List Int) (A' : Option Addr) (n' c' : Nat) (ps : List Int) (w : World) (hI : IntsAt w A n xs) (hI' : IntsAt w A' n' ps)
    (hk : fitsB K = true) (h12 : n ≤ 12) (hnn : n ≤ n') (hgood : ∀ j, j < n → goodAt xs ps j) (hq : (q = 0 ∧ M = 0) ∨ (q = 1 ∧ M = 0) ∨ (q = 2 ∧ 1 ≤ M ∧ M ≤ 512)) :
    Calls Tryz.prog 90 #[condV q M A n c K, .slice A' n' c'] w fun e w' => e = .returned (.bool (holdB q M (K + dotSum xs ps n))) ∧ Below w.heap.size w w' := by
  have hB := below_alloc w (.cells #[.int .i64 q, .int .i64 M, .slice A n c, .int .i64 K] 56)
  have h1 := hI.step hB
  have h2 := hI'.step hB
  have B1 := CBox.new w q M A n c K
  obtain ⟨v, hvv⟩ : ∃ v, K + dotSum xs ps n = v := ⟨_, rfl⟩
  have hrg := sum_bd hk h12 hgood
  rw [hvv] at hrg ⊢
  have HX := Lib.hid hvv
  clear hI hI' hvv
  rcases hq with ⟨rfl, rfl⟩ | ⟨rfl, rfl⟩ | ⟨rfl, hM, hM'⟩
  · go_enter Tryz.func90, Tryz.ntmps90
    go_wp2_with (go_at_call 110; refine (ref_value _ _ _ _ xs _ _ _ ps _ h1 h2 hk h12 hnn hgood).mono ?_; rintro e w1 ⟨rfl, hb⟩; rw [HX.out]; replace hB := below_step hB hb; replace B1 := B1.step hb; have c0 := B1.c0; have c1 := B1.c1)
    go_ret
    exact ⟨ret_bool (by unfold holdB; first | (simp; done) | (simp; rfl)), hB⟩
  · go_enter Tryz.func90, Tryz.ntmps90
    go_wp2_with (go_at_call 110; refine (ref_value _ _ _ _ xs _ _ _ ps _ h1 h2 hk h12 hnn hgood).mono ?_; rintro e w1 ⟨rfl, hb⟩; rw [HX.out]; replace hB := below_step hB hb; replace B1 := B1.step hb; have c0 := B1.c0; have c1 := B1.c1)
    go_ret
    exact ⟨ret_bool (by unfold holdB; first | (simp; done) | (simp; rfl)), hB⟩
  · have HM := Lib.hid (tmod_cases v M hM)
    have HN := Lib.hid (And.intro (Int.emod_nonneg v (show M ≠ 0 by omega)) (Int.emod_lt_of_pos v (show 0 < M by omega)))
    go_enter Tryz.func90, Tryz.ntmps90
    go_wp2_with (go_at_call 110; refine (ref_value _ _ _ _ xs _ _ _ ps _ h1 h2 hk h12 hnn hgood).mono ?_; rintro e w1 ⟨rfl, hb⟩; rw [HX.out]; replace hB := below_step hB hb; replace B1 := B1.step hb; have c0 := B1.c0; have c1 := B1.c1)
    go_ret
    exact ⟨ret_bool (show decide (v.tmod M = 0) = decide (v % M = 0) from decide_eq_decide.2 (by rw [← Int.dvd_iff_tmod_eq_zero, ← Int.dvd_iff_emod_eq_zero])), hB⟩
end Go.Proofs.YtkgnlloioaobiaaGreat
namespace Go.Proofs.YtkgnlloioaobiaaGreat
open Go.RowKit
theorem dot_mod {xs ys ps : List Int} {M : Int} : ∀ i, (∀ j, j < i → M ∣ xs[j]?.getD 0 - ys[j]?.getD 0) → M ∣ dotSum xs ps i - dotSum ys ps i
  | 0, _ => by simp [dotSum]
  | i + 1, h => by
    have h1 := dot_mod (ps := ps) i fun j hj => h j (by omega)
    have h2 := h i (by omega)
    simp only [dotSum]
    obtain ⟨a, ha⟩ := h1
    obtain ⟨b, hb⟩ := h2
    refine ⟨a + b * ps[i]?.getD 0, ?_⟩
    rw [Int.mul_add, ← Int.mul_assoc, ← ha, ← hb, Int.sub_mul]
    omega
theorem nf_holds {q M : Int} {n : Nat} {xs : List Int} {K : Int} (hl : xs.length = n) (hq : KindOk q M) (ps : List Int) :
    holdB q M (K + dotSum xs ps n) = if (nf q M n xs K).2.2.2.2 = 0 then holdB (nf q M n xs K).1 (nf q M n xs K).2.1 ((nf q M n xs K).2.2.2.1 + dotSum (nf q M n xs K).2.2.1 ps n) else decide ((nf q M n xs K).2.2.2.2 = 1) := by
  rcases nf_case (K := K) hl hq with ⟨s, hs, h, hh⟩ | ⟨g, rfl, hg, h, h1, hd⟩ | ⟨D, rfl, hD, h, h1, h2, hd, hK⟩ | ⟨h, rfl, h0, hM, hne, e, hd, hK, hg⟩
  · rw [h, hh ps, if_neg (by rcases hs with rfl | rfl <;> decide)]
  · rw [h, if_pos rfl, dot_quo hl hd]
    unfold holdB
    rw [if_pos rfl, if_pos rfl]
    apply decide_eq_decide.2
    have hgp : 0 < g := by omega
    rw [← Int.add_mul_ediv_left K _ (show g ≠ 0 by omega)]
    exact (Int.ediv_nonneg_iff_of_pos hgp).symm
  · rw [h, if_pos rfl, dot_quo hl hd]
    unfold holdB
    rw [if_neg (by decide), if_pos rfl, if_neg (show ¬ ((1, 0, quoL n xs D, K.tdiv D, 0) : Int × Int × List Int × Int × Int).1 = 0 from (by decide : ¬ (1 : Int) = 0)), if_pos (show ((1, 0, quoL n xs D, K.tdiv D, 0) : Int × Int × List Int × Int × Int).1 = 1 by rfl)]
    apply decide_eq_decide.2
    show K + D * dotSum (quoL n xs D) ps n = 0 ↔ K.tdiv D + dotSum (quoL n xs D) ps n = 0
    have hk : K = D * K.tdiv D := (Int.mul_tdiv_cancel' hK).symm
    generalize dotSum (quoL n xs D) ps n = y at *
    generalize K.tdiv D = k at *
    subst hk
    rw [← Int.mul_add]
    constructor
    · intro e
      rcases Int.mul_eq_zero.1 e with h | h
      · exact absurd h hD
      · exact h
    · intro e; rw [e, Int.mul_zero]
  · rw [e, if_pos rfl]
    unfold holdB
    rw [if_neg (by decide), if_neg (by decide), if_neg (show ¬ ((2, M / (h : Int), remL n xs M h, K % M / (h : Int), 0) : Int × Int × List Int × Int × Int).1 = 0 from (by decide : ¬ (2 : Int) = 0)), if_neg (show ¬ ((2, M / (h : Int), remL n xs M h, K % M / (h : Int), 0) : Int × Int × List Int × Int × Int).1 = 1 from (by decide : ¬ (2 : Int) = 1))]
    apply decide_eq_decide.2
    show (K + dotSum xs ps n) % M = 0 ↔ (K % M / (h : Int) + dotSum (remL n xs M h) ps n) % (M / (h : Int)) = 0
    have hh0 : (h : Int) ≠ 0 := by omega
    have hdr : dotSum ((List.range n).map fun j => (h : Int) * ((xs[j]?.getD 0 % M) / (h : Int))) ps n = h * dotSum (remL n xs M h) ps n := dot_scale n fun j hj => by rw [tab_get _ hj, rem_get hj]
    have hem : ∀ z : Int, (h : Int) ∣ z → (h : Int) * (z % M / (h : Int)) = z % M := fun z hz => Int.mul_ediv_cancel' (by
      have := Int.dvd_sub hz (Int.dvd_trans hM (Int.dvd_mul_right M (z / M)))
      have e2 := Int.mul_ediv_add_emod z M
      rwa [show z - M * (z / M) = z % M by omega] at this)
    have hdm := dot_mod (M := M) (xs := xs) (ys := (List.range n).map fun j => (h : Int) * ((xs[j]?.getD 0 % M) / (h : Int))) (ps := ps) n fun j hj => by
      rw [tab_get _ hj, hem _ (hd _ (getD_mem (by omega)))]
      have e2 := Int.mul_ediv_add_emod (xs[j]?.getD 0) M
      exact ⟨xs[j]?.getD 0 / M, by omega⟩
    rw [hdr] at hdm
    have hkm : M ∣ K - h * (K % M / (h : Int)) := by
      rw [hem K hK]
      have e2 := Int.mul_ediv_add_emod K M
      exact ⟨K / M, by omega⟩
    generalize dotSum (remL n xs M h) ps n = y at *
    generalize K % M / (h : Int) = k at *
    generalize dotSum xs ps n = d at *
    obtain ⟨m, rfl⟩ := hM
    rw [Int.mul_ediv_cancel_left _ hh0]
    have hsum := Int.dvd_add hkm hdm
    rw [show K - h * k + (d - h * y) = (K + d) - h * (k + y) by rw [Int.mul_add]; omega] at hsum
    constructor
    · intro e0
      have h5 := Int.dvd_sub (Int.dvd_of_emod_eq_zero e0) hsum
      rw [show K + d - (K + d - ↑h * (k + y)) = ↑h * (k + y) by omega] at h5
      exact Int.emod_eq_zero_of_dvd (Int.dvd_of_mul_dvd_mul_left hh0 h5)
    · intro e0
      have h5 := Int.dvd_add hsum (Int.mul_dvd_mul_left (h : Int) (Int.dvd_of_emod_eq_zero e0))
      rw [show K + d - ↑h * (k + y) + ↑h * (k + y) = K + d by omega] at h5
      exact Int.emod_eq_zero_of_dvd h5
end Go.Proofs.YtkgnlloioaobiaaGreat
namespace Go.Proofs.YtkgnlloioaobiaaGreat
open Go.RowKit
theorem ints_far {w : World} {A : Option Addr} {n : Nat} {xs : List Int} (h : IntsAt w A n xs) {b : Nat} (hf : n = 0 ∨ ∃ g, A = some ⟨g, 0, none⟩ ∧ b ≠ g) (u v : Value) : IntsAt ((w.setCell ⟨b, 0, none⟩ u).setCell ⟨b, 1, none⟩ v) A n xs := by
  rcases hf with rfl | ⟨g, rfl, hg⟩
  · exact ⟨h.len, h.small, h.wf, fun hn => absurd hn (by omega)⟩
  · exact ints_store2 h rfl hg u v
end Go.Proofs.YtkgnlloioaobiaaGreat
namespace Go.Proofs.YtkgnlloioaobiaaGreat
open Go.RowKit
section
variable {ops : Array Oper} {o : Oper} {a : Act} {w : World} {Q : Exit → Act → World → Prop}
theorem wpList_append_ints {rest : List Oper} (hgd : o.guard = none) (s x : Operand) (ho : o.op = .call { callee := .builtin .append, args := #[s, x], argTypes := #[38, 38] })
    (B : Nat) (v : Value) (n : Nat) (xs : List Value) (hs : a.eval s = v) (hown : w.ownsRow B 3 1 v n xs) (A : Option Addr) (m c : Nat) (ys : List Int) (hx : a.eval x = .slice A m c) (hI : IntsAt w A m ys) (hnm : n + m ≤ 17592186044416) (hB : B ≤ w.heap.size)
    (h : ∀ A' c' w', w'.ownsRow B 3 1 (.slice A' (n + m) c') (n + m) (xs ++ vals ys) → w.grownBy w' v.ownBlock → wpList Tryz.prog ops Q rest (a.put o.dst (.slice A' (n + m) c')) w') : wpList Tryz.prog ops Q (o :: rest) a w :=
  wpList_plain hgd fun _ hK => by
    obtain ⟨v', w', h1, h2, h3, _⟩ := append_ints w B o.type v n xs hown A m c ys hI hnm hB
    obtain ⟨A', c', rfl⟩ := own_slice h2
    unfold Oper.wp
    rw [exec_append ho hs hx h1, Oper.upon_value]
    exact hK _ _ (h A' c' w' h2 h3)
end
end Go.Proofs.YtkgnlloioaobiaaGreat
namespace Go.Proofs.YtkgnlloioaobiaaGreat
open Go.ChangeShapes Go.WideShapes Go.ChangeAt Go.RowKit Go.Joins
theorem ints_ofD {H : Type} {enc : TypeId × Value → H} {w : World} {r : Reach} {b0 : Nat} {v : Value} {d : DataW H} {p : List MemPlace}
    (hok : Value.okWide Tryz.prog w r b0 38 v) (hlt : ∀ x ∈ p, x.block < w.heap.size) (hsz : (d.weights Tryz.prog 38).all (· ≤ reachBytes) = true)
    (h : DataW.Trod enc Tryz.prog w 0 (fun _ => true) true 38 v d p) : ∃ A n c xs, v = .slice A n c ∧ IntsAt w A n xs ∧ CapAt w.heap.size A n c := by
  obtain ⟨a0, len0, cap0, rfl⟩ := okWide_slice Tryz.underlying38 hok
  obtain ⟨fuel, hf⟩ := h
  obtain ⟨A, n, c, xs, e0, hI, hC⟩ := ints_coreC (y := (d, p)) (v := .slice a0 len0 cap0) Tryz.underlying38 Tryz.underlying3 (by kernel_rfl) (by kernel_rfl) hlt hsz hf
  refine ⟨A, n, c, xs, e0, hI, hC, fun ad e => ?_⟩
  subst e
  rw [e0] at hok
  unfold Value.okWide at hok
  rw [Tryz.underlying38] at hok
  have hok : Cell.okWide Tryz.prog w r b0 38 (.slice (some ad) n c) := hok
  unfold Cell.okWide at hok
  rw [Tryz.underlying38] at hok
  have hok : Cell.ok Tryz.prog w r b0 38 (.slice (some ad) n c) := hok
  unfold Cell.ok at hok
  rw [Tryz.underlying38] at hok
  obtain ⟨_, _, _, hs, row, cells, hsh, _⟩ := hok
  refine ⟨hs, ?_⟩
  rcases Nat.lt_or_ge ad.block w.heap.size with hlt' | hge
  · exact hlt'
  · exfalso
    unfold World.shape? at hsh
    rw [Array.getElem?_eq_none hge] at hsh
    cases hsh
end Go.Proofs.YtkgnlloioaobiaaGreat
namespace Go.Proofs.YtkgnlloioaobiaaGreat
open Go.ChangeShapes Go.WideShapes Go.ChangeAt Go.RowKit
theorem grow_zero (w : World) : Calls Tryz.prog 87 #[.slice none 0 0, .int .i64 0] w fun e w' => e = .returned (.slice none 0 0) ∧ w = w' := by
  go_enter Tryz.func87, Tryz.ntmps87
  go_wp2
  go_ret
  exact ⟨rfl, rfl⟩
set_option maxHeartbeats 2000000 in
theorem grow_some (n : Nat) (h0 : 0 < n) (hn : n ≤ 1000) (w : World) : Calls Tryz.prog 87 #[.slice none 0 0, .int .i64 n] w fun e w' =>
    ∃ cap, e = .returned (.slice (some ⟨w.heap.size, 0, none⟩) 0 cap) ∧ w'.ownsRow w.heap.size 3 1 (.slice (some ⟨w.heap.size, 0, none⟩) 0 cap) 0 [] ∧ Below w.heap.size w w' := by
  obtain ⟨i0, hi, hz0, hz1, hz2⟩ := info_parts infoInt
  have hg := fun ty => Lib.run_append_grow_zeros (P := Tryz.prog) w 38 3 ty 3 i0 (.int .i64 0) .i64 .i64 Tryz.underlying38 Tryz.underlying3 hi hz0 none 0 0 [] (run_firstCells_none _ _ _ _ _) n h0 (by omega) (by omega) (by omega) (by rw [hz2]; omega) (growslice_fits (by omega) (by rw [hz2]; omega))
  have hge := grownCap_ge w (0 + n) 0 3
  have hle := grownCap_le_maxLen w (0 + n) 0 3 (by unfold maxLen; omega)
  simp only [Nat.zero_add] at hg hge hle
  obtain ⟨G, hG⟩ : ∃ G, G = grownCap w n 0 3 := ⟨_, rfl⟩
  rw [← hG] at hg hge hle
  clear hG
  obtain ⟨cs, hcs⟩ : ∃ cs, cs = (([] : List Value).toArray ++ Builtin.zeroCells (Value.int .i64 0).cells n ++ Builtin.zeroCells (Value.int .i64 0).cells (G - n)) := ⟨_, rfl⟩
  have hsz : cs.size = G := by
    rw [hcs]
    simp [Builtin.zeroCells, Value.cells]
    omega
  rw [← hcs] at hg
  clear hcs
  have hn0 : (0 : Int) < (n : Int) := by omega
  have hG1 : (n : Int) ≤ (G : Int) := by omega
  have hfin : (w.drew.alloc (.cells cs 3)).ownsRow w.heap.size 3 1 (.slice (some ⟨w.heap.size, 0, none⟩) 0 G) 0 [] :=
    ⟨rfl, .inr ⟨w.heap.size, G, cs, rfl, Nat.le_refl _, heap_alloc_new w.drew _, by omega, hle, by omega, by simp⟩⟩
  have hB : Below w.heap.size w (w.drew.alloc (.cells cs 3)) := ((Below.refl _ w).drew).alloc (Nat.le_refl _) _
  go_enter Tryz.func87, Tryz.ntmps87
  go_wp2_with (at_builtin; refine Lib.wpList_append_run _ rfl _ _ _ _ rfl _ _ rfl rfl _ _ (hg _) ?_)
  all_goals
    go_ret
    exact ⟨G, rfl, hfin, hB⟩
def cat (P : Nat → Part) : Nat → List Int
  | 0 => []
  | k + 1 => cat P k ++ (P k).xs
theorem tot_mono (P : Nat → Part) {i m : Nat} (h : i ≤ m) : tot P i ≤ tot P m := by
  induction h with
  | refl => exact Nat.le_refl _
  | step _ ih => exact Nat.le_trans ih (by simp [tot])
def PartsAt (w : World) (b off m : Nat) (P : Nat → Part) : Prop :=
  ∀ j, j < m → w.cell? ⟨b, off + j, none⟩ = some (.slice (P j).A (P j).n (P j).c) ∧ IntsAt w (P j).A (P j).n (P j).xs ∧ ((P j).A = none → (P j).n = 0 ∧ (P j).c = 0)
theorem own_base {w : World} {base : Nat} {e : TypeId} {size n k : Nat} {v : Value} {xs : List Value} (h : w.ownsRow base e size v n xs) (hk : v.ownBlock = some k) : base ≤ k := by
  obtain ⟨_, ⟨rfl, _⟩ | ⟨g, cap, cur, rfl, hb, _⟩⟩ := h
  · cases hk
  · cases hk; exact hb
theorem own_cap {w : World} {base : Nat} {e : TypeId} {size g n m cap : Nat} {xs : List Value} (h : w.ownsRow base e size (.slice (some ⟨g, 0, none⟩) m cap) n xs) : n ≤ cap ∧ cap ≤ 9223372036854775807 := by
  obtain ⟨_, ⟨h, _⟩ | ⟨g', cap', cur, h, _, _, h1, h2, _⟩⟩ := h
  · cases h
  · simp only [Value.slice.injEq] at h
    unfold maxLen at h2
    omega
set_option maxHeartbeats 4000000 in
theorem concat_in (b off m cm : Nat) (P : Nat → Part) (w : World) (hP : PartsAt w b off m P) (hb : b < w.heap.size) (hm : m ≤ 1000) (ht : tot P m ≤ 1000) :
    Calls Tryz.prog 62 #[.slice (some ⟨b, off, none⟩) m cm] w fun e w' =>
      ∃ v, e = .returned v ∧ ((v = .slice none 0 0 ∧ tot P m = 0) ∨ ∃ g cap, v = .slice (some ⟨g, 0, none⟩) (tot P m) cap ∧ w.heap.size ≤ g ∧ OwnRow w' g (tot P m) (cat P m) ∧ tot P m ≤ cap ∧ cap ≤ 9223372036854775807) ∧ Below w.heap.size w w' := by
  obtain ⟨i0, hi, hz0, hz1, hz2⟩ := info_parts infoInt
  go_enter Tryz.func62, Tryz.ntmps62
  go_wp2
  go_loop [3, 11] (fun u v => ∃ i : Nat, i ≤ m ∧ v = .int .i64 i ∧ u = .int .i64 (tot P i : Nat)) (fun _ v => m - (intOf v).toNat)
  case atStart => exact ⟨0, Nat.zero_le _, rfl, rfl⟩
  case round =>
    obtain ⟨i, hi', rfl, rfl⟩ := hrel
    by_cases hlt : i < m
    · obtain ⟨hcell, hI, hnil⟩ := hP i hlt
      have h1 := tot_mono P (show i + 1 ≤ m by omega)
      have HT := Lib.hid (show tot P (i + 1) = tot P i + (P i).n from rfl)
      have h2 : tot P i + (P i).n ≤ 1000 := by rw [← HT.out]; omega
      have hlt' : (i : Int) < m := by omega
      clear hI hnil h1
      go_wp2
      go_round
      case rel => exact ⟨i + 1, by omega, by go_num, by rw [HT.out]; go_num⟩
      case measure => simp [intOf]; omega
    · obtain rfl : i = m := by omega
      have hge : ¬ i < i := hlt
      by_cases h0 : tot P i = 0
      · have H0 := Lib.hid h0
        go_wp2_with (go_at_call 87; refine (grow_zero _).mono ?_; rintro e w' ⟨rfl, rfl⟩)
        go_loopw [6, 27] (fun u v wr => ∃ j : Nat, j ≤ i ∧ v = .int .i64 j ∧ wr.ownsRow w.heap.size 3 1 u (tot P j) ((cat P j).map (Value.int .i64)) ∧ Below w.heap.size w wr ∧ (tot P i = 0 → u = .slice none 0 0)) (fun _ v _ => i - (intOf v).toNat)
        case atStart => exact ⟨0, Nat.zero_le _, rfl, World.ownsRow_nil _ _ _ _, Below.refl _ _, fun _ => rfl⟩
        case round =>
          obtain ⟨j, hj, rfl, hown, hBr, hnilv⟩ := hrel
          have HNV := Lib.hid hnilv
          clear hnilv
          by_cases hlt : j < i
          · obtain ⟨hcell0, hI, hnil⟩ := hP j hlt
            have hcell := (hBr.cell (p := ⟨b, off + j, none⟩) hb).trans hcell0
            have h2 : tot P j + (P j).n ≤ 1000 := Nat.le_trans (tot_mono P (show j + 1 ≤ i by omega)) ht
            have hz : tot P i = 0 → (P j).n = 0 := fun h => by
              have h4 : tot P j + (P j).n ≤ tot P i := tot_mono P (show j + 1 ≤ i by omega)
              omega
            have HZ := Lib.hid hz
            have HS := Lib.hid (show tot P (j + 1) = tot P j + (P j).n ∧ cat P (j + 1) = cat P j ++ (P j).xs from ⟨rfl, rfl⟩)
            have hlt' : (j : Int) < i := by omega
            clear hcell0 hz
            generalize tot P j = tj at *
            generalize cat P j = cj at *
            generalize hpn : (P j).n = pn at *
            generalize (P j).c = pc at *
            generalize (P j).xs = px at *
            clear hpn
            have HI := Lib.hid hI
            cases hA : (P j).A with
            | none =>
              rw [hA] at hcell
              obtain ⟨rfl, rfl⟩ := hnil hA
              have HX := Lib.hid (show px = [] from List.eq_nil_of_length_eq_zero HI.out.len)
              clear hA hnil hI
              go_wp2_with (at_builtin; refine wpList_append_own_none rfl _ _ 38 rfl w.heap.size 3 i0 1 Tryz.underlying38 hi _ _ _ rfl hown rfl ?_)
              go_roundw
              case rel => exact ⟨j + 1, by omega, by go_num, (by rw [HS.out.1, HS.out.2, HX.out]; simpa using hown), hBr, HNV.out⟩
              case measure => simp [intOf]; omega
            | some ad =>
              rw [hA] at hcell
              have HC := Lib.hid (show ∀ q a, px[q]? = some a → wr.cell? (ad.add q) = some (.int .i64 a) from fun q a hq => by
                obtain ⟨hql, e⟩ := List.getElem?_eq_some_iff.1 hq
                have hpos : q < pn := by rw [← HI.out.len]; exact hql
                obtain ⟨b', off', e', hlt', hc'⟩ := HI.out.cells (by omega)
                rw [hA] at e'
                obtain rfl : ad = ⟨b', off', none⟩ := by simpa using e'
                rw [add_plain, (hBr.cell (p := ⟨b', off' + q, none⟩) hlt').trans (hc' q hpos)]
                simp [hq])
              clear hA hnil hI
              go_wp2_with (at_builtin; refine wpList_append_own _ rfl _ _ 38 rfl w.heap.size 3 i0 (.int .i64 0) 1 8 Tryz.underlying38 hi hz0 hz1 hz2 rfl (by decide) _ _ _ rfl hown ad pn pc (px.map (Value.int .i64)) rfl (by simpa using HI.out.len) (by intro q u hq; simp only [List.getElem?_map, Option.map_eq_some_iff] at hq; obtain ⟨a, ha, rfl⟩ := hq; exact HC.out q a ha) (by intro u hu; simp only [List.mem_map] at hu; obtain ⟨a, _, rfl⟩ := hu; rfl) (by unfold maxLen; omega) (by omega) hBr.size ?_; intro v' w2 hown' hgrow hv'; have hsz2 := hBr.size; have hB2 := hBr.grown hgrow hsz2 (fun k e => own_base hown e); have hnew := (show tot P i = 0 → v' = .slice none 0 0 from fun h => hv'.2 ⟨HNV.out h, HZ.out h⟩); have HN2 := Lib.hid hnew; clear hnew hv' hgrow)
              go_roundw
              case rel => exact ⟨j + 1, by omega, by go_num, (by rw [HS.out.1, HS.out.2, List.map_append]; exact hown'), hB2, HN2.out⟩
              case measure => simp [intOf]; omega
          · obtain rfl : j = i := by omega
            have hge : ¬ j < j := hlt
            go_wp2
            go_ret
            exact ⟨_, rfl, .inl ⟨HNV.out h0, h0⟩, hBr⟩
      · have h1 : 0 < tot P i := by omega
        go_wp2_with (go_at_call 87; refine (grow_some _ h1 ht _).mono ?_; rintro e w1 ⟨cap, rfl, hown, hB⟩)
        go_loopw [6, 27] (fun u v wr => ∃ j : Nat, j ≤ i ∧ v = .int .i64 j ∧ wr.ownsRow w.heap.size 3 1 u (tot P j) ((cat P j).map (Value.int .i64)) ∧ Below w.heap.size w wr ∧ (tot P i = 0 → u = .slice none 0 0)) (fun _ v _ => i - (intOf v).toNat)
        case atStart => exact ⟨0, Nat.zero_le _, rfl, hown, hB, fun h => absurd h (by omega)⟩
        case round =>
          obtain ⟨j, hj, rfl, hown, hBr, hnilv⟩ := hrel
          have HNV := Lib.hid hnilv
          clear hnilv
          by_cases hlt : j < i
          · obtain ⟨hcell0, hI, hnil⟩ := hP j hlt
            have hcell := (hBr.cell (p := ⟨b, off + j, none⟩) hb).trans hcell0
            have h2 : tot P j + (P j).n ≤ 1000 := Nat.le_trans (tot_mono P (show j + 1 ≤ i by omega)) ht
            have hz : tot P i = 0 → (P j).n = 0 := fun h => by
              have h4 : tot P j + (P j).n ≤ tot P i := tot_mono P (show j + 1 ≤ i by omega)
              omega
            have HZ := Lib.hid hz
            have HS := Lib.hid (show tot P (j + 1) = tot P j + (P j).n ∧ cat P (j + 1) = cat P j ++ (P j).xs from ⟨rfl, rfl⟩)
            have hlt' : (j : Int) < i := by omega
            clear hcell0 hz
            generalize tot P j = tj at *
            generalize cat P j = cj at *
            generalize hpn : (P j).n = pn at *
            generalize (P j).c = pc at *
            generalize (P j).xs = px at *
            clear hpn
            have HI := Lib.hid hI
            cases hA : (P j).A with
            | none =>
              rw [hA] at hcell
              obtain ⟨rfl, rfl⟩ := hnil hA
              have HX := Lib.hid (show px = [] from List.eq_nil_of_length_eq_zero HI.out.len)
              clear hA hnil hI
              go_wp2_with (at_builtin; refine wpList_append_own_none rfl _ _ 38 rfl w.heap.size 3 i0 1 Tryz.underlying38 hi _ _ _ rfl hown rfl ?_)
              go_roundw
              case rel => exact ⟨j + 1, by omega, by go_num, (by rw [HS.out.1, HS.out.2, HX.out]; simpa using hown), hBr, HNV.out⟩
              case measure => simp [intOf]; omega
            | some ad =>
              rw [hA] at hcell
              have HC := Lib.hid (show ∀ q a, px[q]? = some a → wr.cell? (ad.add q) = some (.int .i64 a) from fun q a hq => by
                obtain ⟨hql, e⟩ := List.getElem?_eq_some_iff.1 hq
                have hpos : q < pn := by rw [← HI.out.len]; exact hql
                obtain ⟨b', off', e', hlt', hc'⟩ := HI.out.cells (by omega)
                rw [hA] at e'
                obtain rfl : ad = ⟨b', off', none⟩ := by simpa using e'
                rw [add_plain, (hBr.cell (p := ⟨b', off' + q, none⟩) hlt').trans (hc' q hpos)]
                simp [hq])
              clear hA hnil hI
              go_wp2_with (at_builtin; refine wpList_append_own _ rfl _ _ 38 rfl w.heap.size 3 i0 (.int .i64 0) 1 8 Tryz.underlying38 hi hz0 hz1 hz2 rfl (by decide) _ _ _ rfl hown ad pn pc (px.map (Value.int .i64)) rfl (by simpa using HI.out.len) (by intro q u hq; simp only [List.getElem?_map, Option.map_eq_some_iff] at hq; obtain ⟨a, ha, rfl⟩ := hq; exact HC.out q a ha) (by intro u hu; simp only [List.mem_map] at hu; obtain ⟨a, _, rfl⟩ := hu; rfl) (by unfold maxLen; omega) (by omega) hBr.size ?_; intro v' w2 hown' hgrow hv'; have hsz2 := hBr.size; have hB2 := hBr.grown hgrow hsz2 (fun k e => own_base hown e); have hnew := (show tot P i = 0 → v' = .slice none 0 0 from fun h => hv'.2 ⟨HNV.out h, HZ.out h⟩); have HN2 := Lib.hid hnew; clear hnew hv' hgrow)
              go_roundw
              case rel => exact ⟨j + 1, by omega, by go_num, (by rw [HS.out.1, HS.out.2, List.map_append]; exact hown'), hB2, HN2.out⟩
              case measure => simp [intOf]; omega
          · obtain rfl : j = i := by omega
            have hge : ¬ j < j := hlt
            go_wp2
            go_ret
            obtain ⟨g, cap, rfl, hg, hr⟩ := ownRow_of_owns hown h1
            exact ⟨_, rfl, .inr ⟨g, cap, rfl, hg, hr, own_cap hown⟩, hBr⟩
end Go.Proofs.YtkgnlloioaobiaaGreat
namespace Go.Proofs.YtkgnlloioaobiaaGreat
open Go.RowKit
theorem below_step0 {w w' : World} {o : Obj} (h : Below w.heap.size (w.alloc o).drew w') : Below w.heap.size w w' := ((below_alloc w o).drew).trans h
theorem ints_sub {w : World} {b off n d k : Nat} {xs : List Int} (hl : xs.length = n) (hs : n ≤ 17592186044416) (hw : ∀ x ∈ xs, -9223372036854775808 ≤ x ∧ x ≤ 9223372036854775807) (hb : b < w.heap.size)
    (hc : ∀ j, j < n → w.cell? ⟨b, off + j, none⟩ = some (.int .i64 (xs[j]?.getD 0))) (hdk : d + k ≤ n) : IntsAt w (some ⟨b, off + d, none⟩) k ((xs.drop d).take k) := by
  refine ⟨by simp [hl]; omega, by omega, fun x hx => hw x (List.mem_of_mem_drop (List.mem_of_mem_take hx)), fun _ => ⟨b, off + d, rfl, hb, fun j hj => ?_⟩⟩
  rw [show off + d + j = off + (d + j) by omega, hc (d + j) (by omega)]
  simp [hj, List.getElem?_take]
def cutP (b off n c i : Nat) (xs : List Int) (j : Nat) : Part :=
  if j = 0 then ⟨some ⟨b, off, none⟩, i, c, xs.take i⟩ else ⟨(if c = i + 1 then some ⟨b, off, none⟩ else some ⟨b, off + (i + 1), none⟩), n - (i + 1), c - (i + 1), xs.drop (i + 1)⟩
theorem cut_parts {w : World} {b off n c i : Nat} {xs : List Int} (hl : xs.length = n) (hs : n ≤ 17592186044416) (hw : ∀ x ∈ xs, -9223372036854775808 ≤ x ∧ x ≤ 9223372036854775807) (hb : b < w.heap.size)
    (hc : ∀ j, j < n → w.cell? ⟨b, off + j, none⟩ = some (.int .i64 (xs[j]?.getD 0))) (hi : i < n) (hnc : n ≤ c) :
    PartsAt (w.alloc (.cells #[.slice (some ⟨b, off, none⟩) i c, .slice (if c = i + 1 then some ⟨b, off, none⟩ else some ⟨b, off + (i + 1), none⟩) (n - (i + 1)) (c - (i + 1))] 38)).drew w.heap.size 0 2 (cutP b off n c i xs) := by
  obtain ⟨o, ho⟩ : ∃ o, o = (Obj.cells #[.slice (some ⟨b, off, none⟩) i c, .slice (if c = i + 1 then some ⟨b, off, none⟩ else some ⟨b, off + (i + 1), none⟩) (n - (i + 1)) (c - (i + 1))] 38) := ⟨_, rfl⟩
  have hst : Below w.heap.size w (w.alloc o).drew := (below_alloc w o).drew
  intro j hj
  rcases (show j = 0 ∨ j = 1 by omega) with rfl | rfl
  · refine ⟨?_, ?_, fun h => by simp [cutP] at h⟩
    · rw [World.cell?_drew, World.cell?_alloc_at _ _ _ _ rfl]; rfl
    · rw [← ho]
      have h := ints_sub (d := 0) (k := i) hl hs hw hb hc (by omega)
      exact IntsAt.step (by simpa [cutP] using h) hst
  · refine ⟨?_, ?_, fun h => by
      have h' : (if c = i + 1 then some (⟨b, off, none⟩ : Addr) else some ⟨b, off + (i + 1), none⟩) = none := h
      split at h' <;> cases h'⟩
    · rw [World.cell?_drew, World.cell?_alloc_at _ _ _ _ rfl]; rfl
    · rw [← ho]
      refine IntsAt.step ?_ hst
      show IntsAt w (if c = i + 1 then some ⟨b, off, none⟩ else some ⟨b, off + (i + 1), none⟩) (n - (i + 1)) (xs.drop (i + 1))
      have h := ints_sub (d := i + 1) (k := n - (i + 1)) hl hs hw hb hc (by omega)
      have e : (xs.drop (i + 1)).take (n - (i + 1)) = xs.drop (i + 1) := List.take_of_length_le (by simp [hl])
      rw [e] at h
      by_cases h1 : c = i + 1
      · have h0 : n - (i + 1) = 0 := by omega
        rw [h0] at h ⊢
        exact ⟨h.len, h.small, h.wf, fun hn => absurd hn (by omega)⟩
      · rw [if_neg h1]; exact h
theorem cut_tot {b off n c i : Nat} {xs : List Int} (hi : i < n) : tot (cutP b off n c i xs) 2 = n - 1 := by simp [tot, cutP]; omega
theorem cut_cat {b off n c i : Nat} {xs : List Int} : cat (cutP b off n c i xs) 2 = xs.eraseIdx i := by simp [cat, cutP, List.eraseIdx_eq_take_drop_succ]
end Go.Proofs.YtkgnlloioaobiaaGreat
namespace Go.Proofs.YtkgnlloioaobiaaGreat
open Go.RowKit
def holdD (n : Nat) (ps : List Int) (d : CD) : Bool := holdB d.q d.M (d.K + dotSum d.xs ps n)
theorem zeros_get (n j : Nat) : (zeros n)[j]?.getD 0 = 0 := by simp [zeros, List.getElem?_replicate]; split <;> rfl
theorem one_count {n : Nat} {ps : List Int} {d : CD} (h : OppOk n d) : (negOne n d).countP (holdD n ps) = [d].countP (holdD n ps) := by
  have hh := nf_holds (K := d.K) h.2.2.2 h.1 ps
  have hst := nf_state (K := d.K) h.2.2.2 h.1
  have hd : holdD n ps d = holdB d.q d.M (d.K + dotSum d.xs ps n) := rfl
  unfold negOne
  show List.countP _ (if (nf d.q d.M n d.xs d.K).2.2.2.2 = 0 then _ else if (nf d.q d.M n d.xs d.K).2.2.2.2 = 1 then _ else _) = _
  rw [List.countP_singleton, hd, hh]
  rcases hst with ⟨hs, _, _⟩ | hs | hs
  · rw [if_pos hs, if_pos hs, List.countP_singleton]
    rfl
  · have z : ¬ (nf d.q d.M n d.xs d.K).2.2.2.2 = 0 := by rw [hs]; decide
    rw [if_neg z, if_pos hs, if_neg z, hs, List.countP_singleton]
    have : holdD n ps ⟨0, 0, zeros n, 0⟩ = true := by
      show holdB 0 0 (0 + dotSum (zeros n) ps n) = true
      rw [dot_zero n fun j _ => zeros_get n j]
      rfl
    rw [this]; rfl
  · have z : ¬ (nf d.q d.M n d.xs d.K).2.2.2.2 = 0 := by rw [hs]; decide
    have z1 : ¬ (nf d.q d.M n d.xs d.K).2.2.2.2 = 1 := by rw [hs]; decide
    rw [if_neg z, if_neg z1, if_neg z, hs]
    rfl
theorem out_count {n : Nat} {ps : List Int} : ∀ ds : List CD, (∀ d ∈ ds, OppOk n d) → (negOut n ds).countP (holdD n ps) = ds.countP (holdD n ps)
  | [], _ => rfl
  | d :: ds, h => by
    have ih := out_count (ps := ps) ds fun d' hd' => h d' (List.mem_cons_of_mem _ hd')
    unfold negOut at ih ⊢
    rw [List.flatMap_cons, List.countP_append, ih, one_count (h d List.mem_cons_self)]
    simp only [List.countP_cons, List.countP_nil]
    omega
theorem count_shift (t : Int) : ∀ N : Nat, (List.range N).countP (fun (r : Nat) => decide ((r : Int) + 1 = t)) = if 1 ≤ t ∧ t ≤ N then 1 else 0
  | 0 => by rw [if_neg (by omega)]; rfl
  | N + 1 => by
    rw [List.range_succ, List.countP_append, count_shift t N, List.countP_singleton]
    by_cases h : (N : Int) + 1 = t
    · rw [if_neg (by omega), if_pos (by simpa using h), if_pos (by omega)]
    · rw [if_neg (show ¬ (decide ((N : Int) + 1 = t) = true) by simpa using h)]
      by_cases h2 : 1 ≤ t ∧ t ≤ N
      · rw [if_pos h2, if_pos (by omega)]
      · rw [if_neg h2, if_neg (by omega)]
theorem mul_dot {n : Nat} {s : Int} {xs ps : List Int} : dotSum (mulL n s xs) ps n = s * dotSum xs ps n :=
  dot_scale n fun j hj => by unfold mulL; rw [tab_get _ hj]
theorem opp_count {q M : Int} {n : Nat} {xs : List Int} {K : Int} (hq : (q = 0 ∧ M = 0) ∨ (q = 1 ∧ M = 0) ∨ (q = 2 ∧ 1 ≤ M ∧ M ≤ 512)) (ps : List Int) :
    (oppL q M n xs K).countP (holdD n ps) + (if holdB q M (K + dotSum xs ps n) = true then 1 else 0) = 1 := by
  generalize hv : K + dotSum xs ps n = v
  have ev : ∀ k s : Int, s * K + k + dotSum (mulL n s xs) ps n = s * v + k := fun k s => by
    rw [mul_dot, ← hv, Int.mul_add]; omega
  unfold oppL
  rcases hq with ⟨rfl, rfl⟩ | ⟨rfl, rfl⟩ | ⟨rfl, hM⟩
  · rw [if_pos rfl, List.countP_singleton]
    have e : holdD n ps ⟨0, 0, mulL n (-1) xs, -1 * K + -1⟩ = decide (0 ≤ -1 * v + -1) := by
      show holdB 0 0 (-1 * K + -1 + dotSum (mulL n (-1) xs) ps n) = _
      rw [ev]; rfl
    have e2 : holdB 0 0 v = decide (0 ≤ v) := rfl
    rw [e, e2]
    by_cases h : 0 ≤ v
    · rw [if_neg (by simp; omega), if_pos (by simpa using h)]
    · rw [if_pos (by simp; omega), if_neg (by simpa using h)]
  · rw [if_neg (by decide), if_pos rfl, List.countP_cons, List.countP_singleton]
    have e : holdD n ps ⟨0, 0, mulL n (-1) xs, -1 * K + -1⟩ = decide (0 ≤ -1 * v + -1) := by
      show holdB 0 0 (-1 * K + -1 + dotSum (mulL n (-1) xs) ps n) = _
      rw [ev]; rfl
    have e' : holdD n ps ⟨0, 0, mulL n 1 xs, 1 * K + -1⟩ = decide (0 ≤ 1 * v + -1) := by
      show holdB 0 0 (1 * K + -1 + dotSum (mulL n 1 xs) ps n) = _
      rw [ev]; rfl
    have e2 : holdB 1 0 v = decide (v = 0) := rfl
    rw [e, e', e2]
    by_cases h0 : v = 0
    · rw [if_neg (by simp; omega), if_neg (by simp; omega), if_pos (by simpa using h0)]
    · by_cases h1 : 0 < v
      · rw [if_neg (by simp; omega), if_pos (by simp; omega), if_neg (by simpa using h0)]
      · rw [if_pos (by simp; omega), if_neg (by simp; omega), if_neg (by simpa using h0)]
  · rw [if_neg (by decide), if_neg (by decide), List.countP_map]
    have e2 : holdB 2 M v = decide (v % M = 0) := rfl
    have m0 := Int.emod_nonneg v (show M ≠ 0 by omega)
    have m1 := Int.emod_lt_of_pos v (show 0 < M by omega)
    have hcong : (List.range (M.toNat - 1)).countP (holdD n ps ∘ fun (r : Nat) => (⟨2, M, mulL n 1 xs, 1 * K + -((r : Int) + 1)⟩ : CD)) = (List.range (M.toNat - 1)).countP (fun (r : Nat) => decide ((r : Int) + 1 = v % M)) := by
      refine List.countP_congr fun r hr => ?_
      have hr := List.mem_range.1 hr
      show holdB 2 M (1 * K + -((r : Int) + 1) + dotSum (mulL n 1 xs) ps n) = true ↔ _
      rw [ev]
      show decide ((1 * v + -((r : Int) + 1)) % M = 0) = true ↔ decide ((r : Int) + 1 = v % M) = true
      rw [decide_eq_true_iff, decide_eq_true_iff]
      have e3 := Int.mul_ediv_add_emod v M
      constructor
      · intro h
        obtain ⟨y, hy⟩ := Int.dvd_of_emod_eq_zero h
        have h4 : M * (y - v / M) = v % M - ((r : Int) + 1) := by rw [Int.mul_sub]; omega
        rcases Int.lt_trichotomy (y - v / M) 0 with h5 | h5 | h5
        · have : M * (y - v / M) ≤ M * (-1) := Int.mul_le_mul_of_nonneg_left (by omega) (by omega)
          omega
        · rw [h5, Int.mul_zero] at h4; omega
        · have : M * 1 ≤ M * (y - v / M) := Int.mul_le_mul_of_nonneg_left (by omega) (by omega)
          omega
      · intro h
        rw [h, show 1 * v + -(v % M) = M * (v / M) by omega]
        exact Int.mul_emod_right _ _
    rw [hcong, count_shift, e2]
    by_cases h : v % M = 0
    · rw [if_neg (by omega), if_pos (by simpa using h)]
    · rw [if_pos (by omega), if_neg (by simpa using h)]
end Go.Proofs.YtkgnlloioaobiaaGreat
namespace Go.Proofs.YtkgnlloioaobiaaGreat
open Go.RowKit
def HoldsL (n : Nat) (x : List Int) (ds : List CD) : Prop := ∀ d ∈ ds, holdD n x d = true
theorem hold_ge {n : Nat} {x : List Int} {d : CD} (hq : d.q = 0) : holdD n x d = true ↔ 0 ≤ valD n x d := by
  unfold holdD holdB valD
  rw [if_pos hq]
  simp
theorem hold_eq {n : Nat} {x : List Int} {d : CD} (hq : d.q = 1) : holdD n x d = true ↔ valD n x d = 0 := by
  unfold holdD holdB valD
  rw [if_neg (by omega), if_pos hq]
  simp
theorem holds_app {n : Nat} {x : List Int} {l l' : List CD} : HoldsL n x (l ++ l') ↔ HoldsL n x l ∧ HoldsL n x l' := by
  unfold HoldsL
  constructor
  · exact fun h => ⟨fun d hd => h d (List.mem_append_left _ hd), fun d hd => h d (List.mem_append_right _ hd)⟩
  · rintro ⟨h, h'⟩ d hd
    rcases List.mem_append.1 hd with hd | hd
    · exact h d hd
    · exact h' d hd
theorem holds_mem {n : Nat} {x : List Int} {l l' : List CD} (h : ∀ d, d ∈ l ↔ d ∈ l') : HoldsL n x l ↔ HoldsL n x l' :=
  ⟨fun hl d hd => hl d ((h d).2 hd), fun hl d hd => hl d ((h d).1 hd)⟩
section
variable {α : Type} (R : α → α → Bool) (S : α → α → Prop)
end
theorem opp_val {n : Nat} {x : List Int} {d e : CD} (h : e.xs = sgnL (-1) d.xs) : valD n x d + valD n x e = d.K + e.K := by
  unfold valD
  rw [h, dot_sgn]
  omega
section
variable {n : Nat} {x : List Int} {p : List CD} (hs : Sorted p) (hn : ∀ d ∈ p, NormD n d)
include hs hn
theorem ges_hold (h : HoldsL n x p) : ∀ d ∈ gesD p, 0 ≤ valD n x d := fun d hd => by
  have hg := comp_mem hd
  exact (hold_ge (kind_ge_q d hg)).1 (h d ((kind_ge_sub p).subset hg))
theorem tight_hold (h : HoldsL n x p) : ∀ d ∈ tightD (gesD p), holdD n x d = true := fun d hd => by
  obtain ⟨hq, c, hc, hk, hx, hK⟩ := tight_elim hd
  obtain ⟨e, he, ht, h0⟩ := slack_elim hk
  have h1 := ges_hold hs hn h c hc
  have h2 := ges_hold hs hn h e he
  have h3 := opp_val (n := n) (x := x) ht
  rw [hold_eq hq]
  have : valD n x d = valD n x c := by unfold valD; rw [hx, hK]
  omega
theorem eqs_hold (h : HoldsL n x p) : ∀ d ∈ eqsD p, holdD n x d = true := fun d hd => by
  rcases (eqs_mem d).1 (comp_mem (l := eqsIn p) hd) with h1 | h1
  · exact h d ((kind_eq_sub p).subset h1)
  · exact tight_hold hs hn h d h1
theorem pair_void (h : pairVoid (gesD p) = true) : ¬ HoldsL n x p := fun hh => by
  unfold pairVoid at h
  obtain ⟨d, hd, h⟩ := List.any_eq_true.1 h
  cases hk : slackD (gesD p) d with
  | none => rw [hk] at h; cases h
  | some k =>
    rw [hk] at h
    have h0 : k < 0 := by simpa using h
    obtain ⟨e, he, ht, hke⟩ := slack_elim hk
    have h1 := ges_hold hs hn hh d hd
    have h2 := ges_hold hs hn hh e he
    have h3 := opp_val (n := n) (x := x) ht
    omega
theorem clash_void (h : clashD (eqsD p) = true) : ¬ HoldsL n x p := fun hh => by
  unfold clashD at h
  obtain ⟨i, hi, h⟩ := List.any_eq_true.1 h
  rw [List.mem_range] at hi
  have h1 : i < (eqsD p).length := by omega
  have h2 : i + 1 < (eqsD p).length := by omega
  rw [List.getElem?_eq_getElem h1, List.getElem?_eq_getElem h2] at h
  have hx : (eqsD p)[i].xs = (eqsD p)[i + 1].xs := by simpa [slopeD] using h
  have na := eqs_norm hn _ (comp_mem (l := eqsIn p) (List.getElem_mem h1))
  have nb := eqs_norm hn _ (comp_mem (l := eqsIn p) (List.getElem_mem h2))
  have va := (hold_eq na.2).1 (eqs_hold hs hn hh _ (List.getElem_mem h1))
  have vb := (hold_eq nb.2).1 (eqs_hold hs hn hh _ (List.getElem_mem h2))
  have hK : (eqsD p)[i].K = (eqsD p)[i + 1].K := by
    unfold valD at va vb
    rw [hx] at va
    omega
  have e := norm_nd na.1 nb.1 (by rw [na.2, nb.2]) (by rw [na.2]; decide) hx hK
  have := List.pairwise_iff_getElem.1 (eqs_strict hs hn) i (i + 1) h1 h2 (by omega)
  rw [e, (lex_zero _ _ rfl).2 rfl] at this
  omega
theorem imp_void (h : impVoid (eqsD p) (restD (gesD p)) = true) : ¬ HoldsL n x p := fun hh => by
  unfold impVoid at h
  obtain ⟨c, hc, h⟩ := List.any_eq_true.1 h
  cases hk : impD (eqsD p) c with
  | none => rw [hk] at h; cases h
  | some e =>
    rw [hk] at h
    have h0 : c.K - signI c.xs * e.K < 0 := by simpa using h
    have hmem : e ∈ eqsD p := by
      unfold impD at hk
      obtain ⟨_, j, hj⟩ := find_elim hk
      exact List.mem_of_getElem? hj
    have ne := eqs_norm hn e (comp_mem (l := eqsIn p) hmem)
    have ve := (hold_eq ne.2).1 (eqs_hold hs hn hh e hmem)
    have := (imp_val (n := n) (x := x) hk ve).2
    have h1 := ges_hold hs hn hh c (List.mem_filter.1 hc).1
    omega
theorem settle_void (h : settleD p = none) : ¬ HoldsL n x p := by
  unfold settleD at h
  split at h
  · rename_i h1; exact pair_void hs hn h1
  · split at h
    · rename_i h1; exact clash_void hs hn h1
    · split at h
      · rename_i h1; exact imp_void hs hn h1
      · cases h
theorem settle_points {r : List CD} (h : settleD p = some r) : HoldsL n x p ↔ HoldsL n x r := by
  have hsl := ges_slopes hs hn
  unfold settleD at h
  split at h
  · cases h
  · split at h
    · cases h
    · split at h
      · cases h
      · rename_i hpv hcl hiv
        have hr : r = eqsD p ++ impRest (eqsD p) (restD (gesD p)) ++ comp equalD (kindDv p) := by
          simpa using h.symm
        subst hr
        have hrest : ∀ d ∈ impRest (eqsD p) (restD (gesD p)), d ∈ restD (gesD p) := fun d hd => by
          unfold impRest at hd
          split at hd
          · exact hd
          · exact (List.mem_filter.1 hd).1
        rw [holds_app, holds_app]
        constructor
        · intro hh
          refine ⟨⟨eqs_hold hs hn hh, fun d hd => ?_⟩, fun d hd => ?_⟩
          · have h1 := comp_mem (List.mem_filter.1 (hrest d hd)).1
            exact hh d ((kind_ge_sub p).subset h1)
          · exact hh d (((List.dropWhile_sublist _).trans (List.dropWhile_sublist _)).subset (comp_mem hd))
        · rintro ⟨⟨he, hg⟩, hd⟩
          have heq : ∀ d ∈ eqsIn p, holdD n x d = true := fun d hd' => he d (equal_cover (eqs_sorted hs hn) (fun d hd => (eqs_norm hn d hd).1) d hd')
          have htight : ∀ c ∈ gesD p, slackD (gesD p) c = some 0 → valD n x c = 0 := fun c hc hk => by
            have h1 := heq _ ((eqs_mem _).2 (.inr (tight_intro hc hk)))
            exact (hold_eq (d := ⟨1, 0, c.xs, c.K⟩) rfl).1 h1
          have hges : ∀ d ∈ gesD p, 0 ≤ valD n x d := fun d hdm => by
            by_cases hgo : goneD (gesD p) d = true
            · obtain ⟨j, hj, hdj⟩ := List.getElem_of_mem hdm
              obtain ⟨i, _, c, e, hc, he', hk, hie⟩ := (gone_mark hsl (by rw [List.getElem?_eq_getElem hj, hdj])).1 hgo
              have hcm := List.mem_of_getElem? hc
              have v0 := htight c hcm hk
              rw [List.getElem?_eq_getElem hj, hdj] at he'
              cases he'
              rcases hie with rfl | hx
              · rw [List.getElem?_eq_getElem hj, hdj] at hc
                cases hc
                omega
              · obtain ⟨e2, he2, ht2, h02⟩ := slack_elim hk
                obtain ⟨j2, hj2, hdj2⟩ := List.getElem_of_mem he2
                have : j = j2 := slope_one hsl (by rw [List.getElem?_eq_getElem hj, hdj]) (by rw [List.getElem?_eq_getElem hj2, hdj2]) (by rw [hx, ht2])
                subst this
                rw [hdj] at hdj2
                subst hdj2
                have := opp_val (n := n) (x := x) ht2
                omega
            · have hr : d ∈ restD (gesD p) := List.mem_filter.2 ⟨hdm, by simpa using hgo⟩
              have hq := kind_ge_q d (comp_mem hdm)
              by_cases hem : (eqsD p).isEmpty = true
              · have : d ∈ impRest (eqsD p) (restD (gesD p)) := by
                  unfold impRest
                  rw [if_pos hem]
                  exact hr
                exact (hold_ge hq).1 (hg d this)
              · cases hk : impD (eqsD p) d with
                | none =>
                  have : d ∈ impRest (eqsD p) (restD (gesD p)) := by
                    unfold impRest
                    rw [if_neg hem]
                    exact List.mem_filter.2 ⟨hr, by rw [hk]; rfl⟩
                  exact (hold_ge hq).1 (hg d this)
                | some e =>
                  have hmem : e ∈ eqsD p := by
                    unfold impD at hk
                    obtain ⟨_, j, hj⟩ := find_elim hk
                    exact List.mem_of_getElem? hj
                  have ne := eqs_norm hn e (comp_mem (l := eqsIn p) hmem)
                  have ve := (hold_eq ne.2).1 (he e hmem)
                  have h1 := (imp_val (n := n) (x := x) hk ve).2
                  have h2 : ¬ d.K - signI d.xs * e.K < 0 := fun hlt => by
                    apply hiv
                    unfold impVoid
                    refine List.any_eq_true.2 ⟨d, hr, ?_⟩
                    rw [hk]
                    simpa using hlt
                  omega
          intro d hdp
          rw [← kinds_split p] at hdp
          rcases List.mem_append.1 hdp with h1 | h1
          · exact heq d ((eqs_mem d).2 (.inl h1))
          · rcases List.mem_append.1 h1 with h1 | h1
            · obtain ⟨e, hem, hx, hK⟩ := ges_cover hs hn d h1
              rw [hold_ge (kind_ge_q d h1)]
              have := hges e hem
              have : valD n x d = valD n x e + (d.K - e.K) := by unfold valD; rw [hx]; omega
              omega
            · exact hd d (equal_cover (dv_sorted hs hn) (dv_norm hs hn) d h1)
end
theorem norm_void {n : Nat} {x : List Int} {ds : List CD} (hk : ∀ d ∈ ds, KindOk d.q d.M ∧ d.xs.length = n) (h : normVoid n ds = true) : ¬ HoldsL n x ds := fun hh => by
  unfold normVoid at h
  obtain ⟨d, hd, h⟩ := List.any_eq_true.1 h
  have hnv : (nf d.q d.M n d.xs d.K).2.2.2.2 = -1 := of_decide_eq_true (show decide ((nfD n d).2.2.2.2 = -1) = true from h)
  have := nf_holds (K := d.K) (hk d hd).2 (hk d hd).1 x
  rw [hnv] at this
  have h1 := hh d hd
  unfold holdD at h1
  rw [this] at h1
  simp at h1
theorem norm_points {n : Nat} {x : List Int} {ds : List CD} (hk : ∀ d ∈ ds, KindOk d.q d.M ∧ d.xs.length = n) (h : normVoid n ds = false) : HoldsL n x ds ↔ HoldsL n x (normOut n ds) := by
  have key : ∀ d ∈ ds, (holdD n x d = true ↔ HoldsL n x (openD n d)) := fun d hd => by
    have hh := nf_holds (K := d.K) (hk d hd).2 (hk d hd).1 x
    have hst := nf_state (K := d.K) (hk d hd).2 (hk d hd).1
    have hnn : (nf d.q d.M n d.xs d.K).2.2.2.2 ≠ -1 := fun e => by
      unfold normVoid at h
      rw [List.any_eq_false] at h
      exact h d hd (show decide ((nfD n d).2.2.2.2 = -1) = true from decide_eq_true e)
    unfold holdD at ⊢
    rw [hh]
    unfold openD nfD HoldsL
    rcases hst with ⟨h0, _⟩ | h1 | h1
    · rw [if_pos h0, if_pos h0]
      simp [holdD]
    · rw [if_neg (by omega), if_neg (by omega), h1]
      simp
    · exact absurd h1 hnn
  unfold normOut
  constructor
  · intro hh e he
    obtain ⟨d, hd, he⟩ := List.mem_flatMap.1 he
    exact (key d hd).1 (hh d hd) e he
  · intro hh d hd
    exact (key d hd).2 fun e he => hh e (List.mem_flatMap.2 ⟨d, hd, he⟩)
theorem valid_norm {n : Nat} {ds : List CD} (h : ∀ d ∈ ds, ValidD n d) : ∀ z ∈ normOut n ds, NormD n z := fun z hz => by
  obtain ⟨d, hd, hz⟩ := List.mem_flatMap.1 hz
  have hv := (h d hd).1
  obtain ⟨_, hK, hx⟩ := validB_true.1 (validC_kind hv).1
  have hK := fitsB_true.1 hK
  exact norm_one (h d hd).2 (validC_ok hv) (by omega) (fun y hy => by have := fitsB_true.1 (hx y hy); omega) z hz
theorem valid_kind {n : Nat} {ds : List CD} (h : ∀ d ∈ ds, ValidD n d) : ∀ d ∈ ds, KindOk d.q d.M ∧ d.xs.length = n := fun d hd => ⟨validC_ok (h d hd).1, (h d hd).2⟩
theorem piece_void {n : Nat} {x : List Int} {ds : List CD} (h : ∀ d ∈ ds, ValidD n d) (hv : (pieceD n ds).2.1 = true) : ¬ HoldsL n x ds := by
  have hk := valid_kind h
  have hN := valid_norm h
  unfold pieceD at hv
  split at hv
  · rename_i h1; exact norm_void hk h1
  · rename_i h1
    have h1 : normVoid n ds = false := by simpa using h1
    rw [norm_points hk h1]
    split at hv
    · rename_i h2
      have hm := fun d => (sortL_perm leD (normOut n ds)).mem_iff (a := d)
      rw [← holds_mem (l := sortD (normOut n ds)) (fun d => hm d)]
      exact settle_void (sorted_sort fun d hd => (hN d hd).len) (fun d hd => hN d ((hm d).1 hd)) h2
    · split at hv <;> cases hv
theorem piece_points {n : Nat} {x : List Int} {ds : List CD} (h : ∀ d ∈ ds, ValidD n d) (he : (pieceD n ds).2.2 = 0) (hv : (pieceD n ds).2.1 = false) : HoldsL n x ds ↔ HoldsL n x (pieceD n ds).1 := by
  have hk := valid_kind h
  have hN := valid_norm h
  unfold pieceD at he hv ⊢
  split at hv
  · cases hv
  · rename_i h1
    rw [if_neg h1] at he ⊢
    have h1 : normVoid n ds = false := by simpa using h1
    rw [norm_points hk h1]
    have hm := fun d => (sortL_perm leD (normOut n ds)).mem_iff (a := d)
    cases hst : settleD (sortD (normOut n ds)) with
    | none => rw [hst] at hv; cases hv
    | some r =>
      rw [hst] at he
      simp only at he ⊢
      split at he
      · cases he
      · rename_i h3
        rw [if_neg h3, ← holds_mem (l := sortD (normOut n ds)) (fun d => hm d)]
        exact settle_points (sorted_sort fun d hd => (hN d hd).len) (fun d hd => hN d ((hm d).1 hd)) hst
end Go.Proofs.YtkgnlloioaobiaaGreat
namespace Go.Proofs.YtkgnlloioaobiaaGreat
open Go.RowKit
theorem byte_inj {a b : Int} (ha : 0 ≤ a ∧ a ≤ 255) (hb : 0 ≤ b ∧ b ≤ 255) (h : UInt8.ofNat a.toNat = UInt8.ofNat b.toNat) : a = b := by
  have := congrArg UInt8.toNat h
  simp only [UInt8.toNat_ofNat'] at this
  omega
theorem map_byte : ∀ l l' : List Int, (∀ x ∈ l, 0 ≤ x ∧ x ≤ 255) → (∀ x ∈ l', 0 ≤ x ∧ x ≤ 255) → l.map (fun x => UInt8.ofNat x.toNat) = l'.map (fun x => UInt8.ofNat x.toNat) → l = l'
  | [], [], _, _, _ => rfl
  | [], _ :: _, _, _, h => by simp at h
  | _ :: _, [], _, _, h => by simp at h
  | a :: l, b :: l', h1, h2, h => by
    simp only [List.map_cons, List.cons.injEq] at h
    rw [byte_inj (h1 a (List.mem_cons_self ..)) (h2 b (List.mem_cons_self ..)) h.1, map_byte l l' (fun x hx => h1 x (List.mem_cons_of_mem _ hx)) (fun x hx => h2 x (List.mem_cons_of_mem _ hx)) h.2]
theorem key_bytes {l : List CD} (hq : ∀ d ∈ l, d.q = 0 ∨ d.q = 1 ∨ d.q = 2) : ∀ x ∈ keyB l, 0 ≤ x ∧ x ≤ 255 := fun x hx => by
  unfold keyB at hx
  obtain ⟨d, hd, hx⟩ := List.mem_flatMap.1 hx
  unfold keyC at hx
  rcases List.mem_cons.1 hx with rfl | hx
  · rcases hq d hd with h | h | h <;> omega
  · rcases List.mem_append.1 hx with hx | hx
    · exact num_byte _ x hx
    · rcases List.mem_append.1 hx with hx | hx
      · unfold numsB at hx
        obtain ⟨y, _, hx⟩ := List.mem_flatMap.1 hx
        exact num_byte _ x hx
      · exact num_byte _ x hx
theorem valid_q {n : Nat} {d : CD} (h : ValidD n d) : d.q = 0 ∨ d.q = 1 ∨ d.q = 2 := by
  rcases (validC_kind h.1).2 with h | h | h
  · exact .inl h.1
  · exact .inr (.inl h.1)
  · exact .inr (.inr h.1)
theorem keyU_inj {n : Nat} {l l' : List CD} (h : ∀ d ∈ l, ValidD n d) (h' : ∀ d ∈ l', ValidD n d) (e : keyU l = keyU l') : l = l' :=
  key_inj2 l l' (fun d hd => (h d hd).2) (fun d hd => (h' d hd).2) (map_byte _ _ (key_bytes fun d hd => valid_q (h d hd)) (key_bytes fun d hd => valid_q (h' d hd)) e)
def SetH (n : Nat) (x : List Int) (us : List (List CD)) : Prop := ∃ u ∈ us, HoldsL n x u
theorem setH_app {n : Nat} {x : List Int} {us : List (List CD)} {d : List CD} : SetH n x (us ++ [d]) ↔ SetH n x us ∨ HoldsL n x d := by
  unfold SetH
  constructor
  · rintro ⟨u, hu, h⟩
    rcases List.mem_append.1 hu with hu | hu
    · exact .inl ⟨u, hu, h⟩
    · rw [List.mem_singleton.1 hu] at h; exact .inr h
  · rintro (⟨u, hu, h⟩ | h)
    · exact ⟨u, List.mem_append_left _ hu, h⟩
    · exact ⟨d, List.mem_append_right _ (List.mem_singleton_self _), h⟩
section
variable {n : Nat} {x : List Int}
theorem keep_points {us us' : List (List CD)} {d : List CD} (hu : GoodU n us) (hd : ∀ z ∈ d, ValidD n z) (h : keepD us d = (0, us')) : SetH n x us' ↔ SetH n x us ∨ HoldsL n x d := by
  unfold keepD at h
  split at h
  · rename_i hq
    obtain ⟨q, hq, e⟩ := hq
    cases h
    have := keyU_inj (hu.1 q hq).1 hd e
    subst this
    exact ⟨.inl, fun h => h.elim id fun h => ⟨q, hq, h⟩⟩
  · split at h
    · cases h
    · cases h
      exact setH_app
theorem add_points {us us' : List (List CD)} {ds : List CD} (hu : GoodU n us) (hd : ∀ z ∈ ds, ValidD n z) (h : addD n us ds = (0, us')) : SetH n x us' ↔ SetH n x us ∨ HoldsL n x ds := by
  unfold addD at h
  split at h
  · rename_i hb
    simp only [Prod.mk.injEq] at h
    obtain ⟨h0, rfl⟩ := h
    have hv : (pieceD n ds).2.1 = true := hb.resolve_left fun h => h h0
    exact ⟨.inl, fun h => h.elim id fun h => absurd h (piece_void hd hv)⟩
  · rename_i hb
    have h0 : (pieceD n ds).2.2 = 0 := by
      by_cases h9 : (pieceD n ds).2.2 = 0
      · exact h9
      · exact absurd (.inl h9) hb
    have hv : (pieceD n ds).2.1 = false := by
      cases h9 : (pieceD n ds).2.1
      · rfl
      · exact absurd (.inr h9) hb
    rw [keep_points hu (piece_valid (valid_kind hd)).1 h, ← piece_points hd h0 hv]
theorem stick_zero {α : Type} (f : List (List CD) → α → Int × List (List CD)) (us : List (List CD)) (a : α) : stick f (0, us) a = f us a := if_neg (show ¬ ((0 : Int) ≠ 0) by decide)
theorem fold_cons {α : Type} {f : List (List CD) → α → Int × List (List CD)} {a : α} {l : List α} {us us' : List (List CD)} (h : foldE f (a :: l) us = (0, us')) : ∃ u1, f us a = (0, u1) ∧ foldE f l u1 = (0, us') := by
  unfold foldE at h
  rw [List.foldl_cons, stick_zero] at h
  obtain ⟨g, hf⟩ : ∃ g, f us a = g := ⟨_, rfl⟩
  obtain ⟨e, u1⟩ := g
  rw [hf] at h
  by_cases h0 : e = 0
  · subst h0
    exact ⟨u1, hf, h⟩
  · rw [stick_stuck (f := f) (show ((e, u1) : Int × List (List CD)).1 ≠ 0 from h0)] at h
    simp only [Prod.mk.injEq] at h
    exact absurd h.1 h0
theorem fold_points {α : Type} {f : List (List CD) → α → Int × List (List CD)} {Q : α → Prop} : ∀ (l : List α), (∀ a ∈ l, ∀ us us', GoodU n us → f us a = (0, us') → GoodU n us' ∧ (SetH n x us' ↔ SetH n x us ∨ Q a)) → ∀ us us', GoodU n us → foldE f l us = (0, us') → GoodU n us' ∧ (SetH n x us' ↔ SetH n x us ∨ ∃ a ∈ l, Q a)
  | [], _, us, us', hu, h => by
    cases h
    exact ⟨hu, by simp⟩
  | a :: l, hf, us, us', hu, h => by
    obtain ⟨u1, h1, h2⟩ := fold_cons h
    obtain ⟨g1, p1⟩ := hf a (List.mem_cons_self ..) us u1 hu h1
    obtain ⟨g2, p2⟩ := fold_points l (fun b hb => hf b (List.mem_cons_of_mem _ hb)) u1 us' g1 h2
    refine ⟨g2, ?_⟩
    rw [p2, p1, or_assoc]
    simp
theorem neg_points {d : CD} (hv : ValidD n d) (h0 : negE d.q d.M n d.xs d.K = 0) : (∃ z ∈ negL d.q d.M n d.xs d.K, holdD n x z = true) ↔ ¬ holdD n x d = true := by
  unfold negE at h0
  rw [if_pos hv.1] at h0
  have hf : ¬ negFull n (oppL d.q d.M n d.xs d.K) = true := fun hf => by
    rw [if_pos hf] at h0
    cases h0
  unfold negL
  rw [if_pos hv.1, if_neg hf]
  have hok := (opp_ok (q := d.q) (M := d.M) (n := n) (xs := d.xs) (K := d.K) hv.1).1
  have h1 := out_count (ps := x) (oppL d.q d.M n d.xs d.K) hok
  have h2 := opp_count (n := n) (xs := d.xs) (K := d.K) (validC_kind hv.1).2 x
  rw [← List.countP_pos_iff, h1]
  show _ ↔ ¬ holdB d.q d.M (d.K + dotSum d.xs x n) = true
  by_cases hh : holdB d.q d.M (d.K + dotSum d.xs x n) = true
  · rw [if_pos hh] at h2
    exact ⟨fun h => by omega, fun h => absurd hh h⟩
  · rw [if_neg hh] at h2
    exact ⟨fun _ => hh, fun _ => by omega⟩
theorem valid_app {l l' : List CD} (h : ∀ d ∈ l, ValidD n d) (h' : ∀ d ∈ l', ValidD n d) : ∀ d ∈ l ++ l', ValidD n d := fun d hd => by
  rcases List.mem_append.1 hd with hd | hd
  · exact h d hd
  · exact h' d hd
theorem cut_points (hn : n ≤ 12) {p c : List CD} (hp : ∀ d ∈ p, ValidD n d) (hc : ∀ d ∈ c, ValidD n d) {i : Nat} {d : CD} (hi : c[i]? = some d) {us us' : List (List CD)} (hu : GoodU n us) (h : cutOne n p c us i = (0, us')) :
    GoodU n us' ∧ (SetH n x us' ↔ SetH n x us ∨ (HoldsL n x p ∧ HoldsL n x (c.take i) ∧ ¬ holdD n x d = true)) := by
  unfold cutOne at h
  rw [hi] at h
  simp only at h
  have hv := hc d (List.mem_of_getElem? hi)
  split at h
  · rename_i h0
    simp only [Prod.mk.injEq] at h
    exact absurd h.1 h0
  · rename_i h0
    have h0 : negE d.q d.M n d.xs d.K = 0 := by
      by_cases h9 : negE d.q d.M n d.xs d.K = 0
      · exact h9
      · exact absurd h9 h0
    have hz : ∀ z ∈ negL d.q d.M n d.xs d.K, ∀ y ∈ p ++ (c.take i ++ [z]), ValidD n y := fun z hz => valid_app hp (valid_app (fun y hy => hc y (List.mem_of_mem_take hy)) fun y hy => by
      rw [List.mem_singleton.1 hy]; exact neg_valid hn hv.1 hv.2 z hz)
    obtain ⟨g, e⟩ := fold_points (n := n) (x := x) (f := fun us z => addD n us (p ++ (c.take i ++ [z]))) (Q := fun z => HoldsL n x (p ++ (c.take i ++ [z]))) (negL d.q d.M n d.xs d.K) (fun z hzm us us' hu h => ⟨by
      have := add_good (ds := p ++ (c.take i ++ [z])) hu (valid_kind (hz z hzm))
      rw [show addD n us (p ++ (c.take i ++ [z])) = (0, us') from h] at this
      exact this, add_points hu (hz z hzm) h⟩) us us' hu h
    refine ⟨g, ?_⟩
    rw [e, ← neg_points (x := x) hv h0]
    refine or_congr_right ⟨?_, ?_⟩
    · rintro ⟨z, hzm, hh⟩
      rw [holds_app, holds_app] at hh
      exact ⟨hh.1, hh.2.1, z, hzm, hh.2.2 z (List.mem_singleton_self _)⟩
    · rintro ⟨h1, h2, z, hzm, hh⟩
      refine ⟨z, hzm, ?_⟩
      rw [holds_app, holds_app]
      exact ⟨h1, h2, fun y hy => by rw [List.mem_singleton.1 hy]; exact hh⟩
theorem first_fail : ∀ c : List CD, ¬ HoldsL n x c → ∃ (i : Nat) (d : CD), c[i]? = some d ∧ HoldsL n x (c.take i) ∧ ¬ holdD n x d = true
  | [], h => absurd (fun d hd => nomatch hd) h
  | a :: c, h => by
    by_cases ha : holdD n x a = true
    · obtain ⟨i, d, h1, h2, h3⟩ := first_fail c fun hc => h fun d hd => by
        rcases List.mem_cons.1 hd with rfl | hd
        · exact ha
        · exact hc d hd
      refine ⟨i + 1, d, by simpa using h1, ?_, h3⟩
      rw [List.take_succ_cons]
      intro d hd
      rcases List.mem_cons.1 hd with rfl | hd
      · exact ha
      · exact h2 d hd
    · exact ⟨0, a, rfl, (fun d hd => by simp at hd), ha⟩
theorem with_points (hn : n ≤ 12) {p c : List CD} (hp : (∀ d ∈ p, ValidD n d) ∧ p.length ≤ 96) (hc : ∀ d ∈ c, ValidD n d) {us us' : List (List CD)} (hu : GoodU n us) (h : withOne n c us p = (0, us')) :
    GoodU n us' ∧ (SetH n x us' ↔ SetH n x us ∨ (HoldsL n x p ∧ ¬ HoldsL n x c)) := by
  unfold withOne at h
  split at h
  · rename_i h0
    simp only [Prod.mk.injEq] at h
    exact absurd h.1 h0
  · split at h
    · rename_i hv
      have h1 := piece_void (x := x) (valid_app hp.1 hc) hv
      rw [holds_app] at h1
      refine ⟨by have := keep_good hu hp; rw [h] at this; exact this, ?_⟩
      rw [keep_points hu hp.1 h]
      exact or_congr_right ⟨fun a => ⟨a, fun b => h1 ⟨a, b⟩⟩, fun a => a.1⟩
    · obtain ⟨g, e⟩ := fold_points (n := n) (x := x) (f := cutOne n p c) (Q := fun i => ∃ d, c[i]? = some d ∧ HoldsL n x p ∧ HoldsL n x (c.take i) ∧ ¬ holdD n x d = true) (List.range c.length) (fun i hi us us' hu h => by
        obtain ⟨d, hd⟩ : ∃ d, c[i]? = some d := ⟨_, List.getElem?_eq_getElem (List.mem_range.1 hi)⟩
        obtain ⟨g, e⟩ := cut_points (x := x) hn hp.1 hc hd hu h
        refine ⟨g, e.trans (or_congr_right ⟨fun a => ⟨d, hd, a⟩, ?_⟩)⟩
        rintro ⟨d', hd', a⟩
        rw [hd] at hd'
        cases hd'
        exact a) us us' hu h
      refine ⟨g, e.trans (or_congr_right ⟨?_, ?_⟩)⟩
      · rintro ⟨i, _, d, hd, h1, _, h3⟩
        exact ⟨h1, fun hh => h3 (hh d (List.mem_of_getElem? hd))⟩
      · rintro ⟨h1, h2⟩
        obtain ⟨i, d, hd, h3, h4⟩ := first_fail c h2
        exact ⟨i, List.mem_range.2 (List.getElem?_eq_some_iff.1 hd).1, d, hd, h1, h3, h4⟩
theorem good_nil : GoodU n [] := ⟨(fun u h => nomatch h), by simp⟩
theorem without_points (hn : n ≤ 12) {ps : List (List CD)} {c : List CD} (hp : GoodU n ps) (hc : ∀ d ∈ c, ValidD n d) {us' : List (List CD)} (h : withoutD n ps c = (0, us')) : GoodU n us' ∧ (SetH n x us' ↔ SetH n x ps ∧ ¬ HoldsL n x c) := by
  obtain ⟨g, e⟩ := fold_points (n := n) (x := x) (f := withOne n c) (Q := fun p => HoldsL n x p ∧ ¬ HoldsL n x c) ps (fun p hpm us us' hu h => with_points hn (hp.1 p hpm) hc hu h) [] us' good_nil h
  refine ⟨g, e.trans ⟨?_, ?_⟩⟩
  · rintro (⟨u, hu, _⟩ | ⟨p, hpm, h1, h2⟩)
    · cases hu
    · exact ⟨⟨p, hpm, h1⟩, h2⟩
  · rintro ⟨⟨p, hpm, h1⟩, h2⟩
    exact .inr ⟨p, hpm, h1, h2⟩
theorem minus_fold (hn : n ≤ 12) : ∀ (qs : List (List CD)), (∀ q ∈ qs, ∀ d ∈ q, ValidD n d) → ∀ ps us', GoodU n ps → foldE (withoutD n) qs ps = (0, us') → GoodU n us' ∧ (SetH n x us' ↔ SetH n x ps ∧ ¬ SetH n x qs)
  | [], _, ps, us', hp, h => by
    cases h
    exact ⟨hp, by simp [SetH]⟩
  | q :: qs, hq, ps, us', hp, h => by
    obtain ⟨u1, h1, h2⟩ := fold_cons h
    obtain ⟨g1, e1⟩ := without_points (x := x) hn hp (hq q (List.mem_cons_self ..)) h1
    obtain ⟨g2, e2⟩ := minus_fold hn qs (fun q hqm => hq q (List.mem_cons_of_mem _ hqm)) u1 us' g1 h2
    refine ⟨g2, ?_⟩
    rw [e2, e1, and_assoc]
    refine and_congr_right fun _ => ⟨?_, ?_⟩
    · rintro ⟨a, b⟩ ⟨u, hu, hh⟩
      rcases List.mem_cons.1 hu with rfl | hu
      · exact a hh
      · exact b ⟨u, hu, hh⟩
    · intro a
      exact ⟨fun hh => a ⟨q, List.mem_cons_self .., hh⟩, fun ⟨u, hu, hh⟩ => a ⟨u, List.mem_cons_of_mem _ hu, hh⟩⟩
theorem gather_points {l us' : List (List CD)} (hl : ∀ ds ∈ l, ∀ d ∈ ds, ValidD n d) (h : gatherD n l = (0, us')) : GoodU n us' ∧ (SetH n x us' ↔ SetH n x l) := by
  rw [gather_fold] at h
  obtain ⟨g, e⟩ := fold_points (n := n) (x := x) (f := addD n) (Q := fun ds => HoldsL n x ds) l (fun ds hds us us' hu h => ⟨by
    have := add_good hu (valid_kind (hl ds hds))
    rw [h] at this
    exact this, add_points hu (hl ds hds) h⟩) [] us' good_nil h
  refine ⟨g, e.trans ⟨?_, fun h => .inr h⟩⟩
  rintro (⟨u, hu, _⟩ | h)
  · cases hu
  · exact h
theorem minus_points (hn : n ≤ 12) {ps qs r : List (List CD)} (hp : ∀ ds ∈ ps, ∀ d ∈ ds, ValidD n d) (hq : ∀ ds ∈ qs, ∀ d ∈ ds, ValidD n d) (h : minusD n ps qs = (0, r)) : GoodU n r ∧ (SetH n x r ↔ SetH n x ps ∧ ¬ SetH n x qs) := by
  obtain ⟨g1, h1⟩ : ∃ g, gatherD n ps = g := ⟨_, rfl⟩
  obtain ⟨g2, h2⟩ : ∃ g, gatherD n qs = g := ⟨_, rfl⟩
  obtain ⟨e1, l1⟩ := g1
  obtain ⟨e2, l2⟩ := g2
  unfold minusD at h
  rw [h1, h2] at h
  split at h
  · rename_i h0
    simp only [Prod.mk.injEq] at h
    exact absurd h.1 h0
  · rename_i h0
    split at h
    · rename_i h9
      simp only [Prod.mk.injEq] at h
      exact absurd h.1 h9
    · rename_i h9
      obtain rfl : e1 = 0 := by
        by_cases h8 : e1 = 0
        · exact h8
        · exact absurd h8 h0
      obtain rfl : e2 = 0 := by
        by_cases h8 : e2 = 0
        · exact h8
        · exact absurd h8 h9
      obtain ⟨ga, ea⟩ := gather_points (x := x) hp h1
      obtain ⟨gb, eb⟩ := gather_points (x := x) hq h2
      obtain ⟨g, e⟩ := minus_fold (x := x) hn l2 (fun q hqm => (gb.1 q hqm).1) l1 r ga h
      exact ⟨g, by rw [e, ea, eb]⟩
end
end Go.Proofs.YtkgnlloioaobiaaGreat
namespace Go.Proofs.YtkgnlloioaobiaaGreat
open Go.RowKit
noncomputable def hasP (xs : List Int) (els : List CEl) : Bool := els.all fun e => hVal e.q e.M e.xs e.K xs
noncomputable def hasS (xs : List Int) (ps : List PEl) : Bool := ps.any fun p => hasP xs p.els
noncomputable def sErr (D : Int) (ps : List PEl) (xs : List Int) : Int := if validS D ps = true then (if (xs.length : Int) = D then (if pointB xs = true then 0 else 6) else 2) else 1
noncomputable def sVal (D : Int) (ps : List PEl) (xs : List Int) : Bool := if sErr D ps xs = 0 then hasS xs ps else false
section
variable {D : Int} {ps : List PEl} {xs : List Int}
theorem sv_inv (h : validS D ps = false) : sVal D ps xs = false ∧ sErr D ps xs = 1 := by
  have e : sErr D ps xs = 1 := by unfold sErr; rw [h]; rfl
  exact ⟨by unfold sVal; rw [e]; rfl, e⟩
theorem sv_dim (h : validS D ps = true) (hl : (xs.length : Int) ≠ D) : sVal D ps xs = false ∧ sErr D ps xs = 2 := by
  have e : sErr D ps xs = 2 := by unfold sErr; rw [if_pos h, if_neg hl]
  exact ⟨by unfold sVal; rw [e]; rfl, e⟩
theorem sv_range (h : validS D ps = true) (hl : (xs.length : Int) = D) (hp : pointB xs = false) : sVal D ps xs = false ∧ sErr D ps xs = 6 := by
  have e : sErr D ps xs = 6 := by unfold sErr; rw [if_pos h, if_pos hl, hp]; rfl
  exact ⟨by unfold sVal; rw [e]; rfl, e⟩
theorem sv_ok (h : validS D ps = true) (hl : (xs.length : Int) = D) (hp : pointB xs = true) : sVal D ps xs = hasS xs ps ∧ sErr D ps xs = 0 := by
  have e : sErr D ps xs = 0 := by unfold sErr; rw [if_pos h, if_pos hl, if_pos hp]
  exact ⟨by unfold sVal; rw [e, if_pos rfl], e⟩
end
theorem any_yes {α : Type} {p : α → Bool} {l : List α} {i : Nat} {x : α} (h : l[i]? = some x) (hp : p x = true) : l.any p = true := by
  obtain ⟨hi, e⟩ := List.getElem?_eq_some_iff.1 h
  rw [List.any_eq_true]
  exact ⟨x, e ▸ List.getElem_mem hi, hp⟩
theorem any_not {α : Type} {p : α → Bool} {l : List α} (h : ∀ j x, j < l.length → l[j]? = some x → p x = false) : l.any p = false := by
  rw [Bool.eq_false_iff]
  intro ha
  rw [List.any_eq_true] at ha
  obtain ⟨x, hx, hp⟩ := ha
  obtain ⟨j, hj, rfl⟩ := List.getElem_of_mem hx
  rw [h j _ hj (List.getElem?_eq_getElem hj)] at hp
  cases hp
theorem conds_elim {D : Int} {els : List CEl} (h : condsE D els = 0) : ∀ e ∈ els, e.ok = true ∧ (e.n : Int) = D := by
  unfold condsE at h
  split at h
  · rename_i h1
    split at h
    · rename_i h2
      intro e he
      exact ⟨(List.all_eq_true.1 h1) e he, by simpa using (List.all_eq_true.1 h2) e he⟩
    · cases h
  · cases h
theorem valid_elim {D : Int} {ps : List PEl} (h : validS D ps = true) : (0 ≤ D ∧ D ≤ 12 ∧ ps.length ≤ 400) ∧ ∀ p ∈ ps, p.els.length ≤ 96 ∧ condsE D p.els = 0 := by
  unfold validS at h
  rw [Bool.and_eq_true] at h
  refine ⟨of_decide_eq_true h.1, fun p hp => ?_⟩
  have h2 := (List.all_eq_true.1 h.2) p hp
  unfold pieceOk at h2
  rw [Bool.and_eq_true] at h2
  exact ⟨of_decide_eq_true h2.1, of_decide_eq_true h2.2⟩
theorem has_cond {q M K : Int} {xs ps : List Int} (hv : validC q M xs K = true) (hl : xs.length = ps.length) (hp : pointB ps = true) :
    holdB q M (K + dotSum xs ps xs.length) = hVal q M xs K ps ∧ fitsB K = true ∧ xs.length ≤ 12 ∧ (∀ j, j < xs.length → goodAt xs ps j) ∧ ((q = 0 ∧ M = 0) ∨ (q = 1 ∧ M = 0) ∨ (q = 2 ∧ 1 ≤ M ∧ M ≤ 512)) := by
  obtain ⟨hvB, hk⟩ := validC_kind hv
  have hd : dotErr xs ps = 0 := by
    rcases dot_cases (ps := ps) hvB with ⟨h, _⟩ | ⟨_, h, _⟩ | ⟨_, _, h⟩
    · exact absurd hl h
    · rw [hp] at h; cases h
    · exact h
  have e0 : atErr xs K ps = 0 := by unfold atErr; rw [if_pos hvB, hd]
  have hz := dotErr_zero.1 hd
  refine ⟨?_, (validB_true.1 hvB).2.1, hz.2.1, hz.2.2, hk⟩
  rw [(h_ok hv e0).1]
  unfold atVal
  rw [if_pos e0]
set_option maxHeartbeats 4000000 in
theorem ref_in (A : Option Addr) (m c : Nat) (els : List CEl) (A' : Option Addr) (n c' : Nat) (xs : List Int) (w : World) (C0 : CondsAt w A m els) (I2 : IntsAt w A' n xs) (hp : pointB xs = true) (hc : condsE n els = 0) :
    Calls Tryz.prog 66 #[.slice A m c, .slice A' n c'] w fun e w' => e = .returned (.bool (hasP xs els)) ∧ Below w.heap.size w w' := by
  have hsm := C0.small
  have HL := Lib.hid C0.len
  have HL2 := Lib.hid I2.len
  have HP := Lib.hid hp
  have HC := Lib.hid hc
  obtain ⟨er, her⟩ : ∃ er, hasP xs els = er := ⟨_, rfl⟩
  rw [her]
  have HE := Lib.hid her
  clear her hp hc
  go_enter Tryz.func66, Tryz.ntmps66
  go_wp2
  go_loopw [9] (fun v wr => ∃ i : Nat, i ≤ m ∧ v = .int .i64 i ∧ (∀ j x, j < i → els[j]? = some x → hVal x.q x.M x.xs x.K xs = true) ∧ Below w.heap.size w wr) (fun v _ => m - (intOf v).toNat)
  case atStart => exact ⟨0, Nat.zero_le _, rfl, (fun j x h => absurd h (by omega)), Below.refl _ _⟩
  case round =>
    obtain ⟨i, hi, rfl, hgood, hbr⟩ := hrel
    have HG := Lib.hid hgood
    clear hgood
    by_cases hlt : i < m
    · obtain ⟨b, off, e, rfl, hblt, hej, hmem, hcs, hin⟩ := (C0.step hbr).at hlt; obtain ⟨x0, x1, x2, x3⟩ := hcs; have HEJ := Lib.hid hej; have hgd := conds_elim HC.out e hmem; obtain ⟨eq, eM, eA, en, ec, eK, exs⟩ := e; simp only at x0 x1 x2 x3 hin hgd; have hq1 : (i : Int) < m := (by omega); have b5 := below_alloc wr (.cells #[.int .i64 eq, .int .i64 eM, .slice eA en ec, .int .i64 eK] 56); have y1 := hin.step b5; have X1 := CBox.new wr eq eM eA en ec eK; have y2 := (I2.step hbr).step b5; have hbr1 := hbr.trans (b5.mono hbr.size)
      have hnn : en = n := by have := hgd.2; omega
      have hlx : exs.length = en := hin.len
      obtain ⟨hh, hk, h12, hgo, hkd⟩ := has_cond (show validC eq eM exs eK = true from hgd.1) (show exs.length = xs.length by have := HL2.out; omega) HP.out
      rw [hlx] at hh h12 hgo
      have HH := Lib.hid hh
      have HK := Lib.hid hk
      have H12 := Lib.hid h12
      have HGO := Lib.hid hgo
      have HKD := Lib.hid hkd
      have HNN := Lib.hid (Nat.le_of_eq hnn)
      clear hh hk h12 hgo hkd hgd hnn hlx b5 hmem hej hin
      cases hv : hVal eq eM exs eK xs
      · have HV := Lib.hid hv
        have HR := Lib.hid (show er = false by rw [← HE.out]; unfold hasP; rw [all_not HEJ.out hv])
        clear hv
        go_wp2_with (go_at_call 90; refine (ref_is _ _ _ _ _ _ exs _ _ _ xs _ y1 y2 HK.out H12.out HNN.out HGO.out HKD.out).mono ?_; rintro e w1 ⟨rfl, hb⟩; rw [HH.out, HV.out]; replace hbr1 := hbr1.trans (hb.mono hbr1.size))
        go_ret
        exact ⟨ret_bool HR.out.symm, hbr1⟩
      · have HV := Lib.hid hv
        clear hv
        go_wp2_with (go_at_call 90; refine (ref_is _ _ _ _ _ _ exs _ _ _ xs _ y1 y2 HK.out H12.out HNN.out HGO.out HKD.out).mono ?_; rintro e w1 ⟨rfl, hb⟩; rw [HH.out, HV.out]; replace hbr1 := hbr1.trans (hb.mono hbr1.size))
        go_roundw
        case rel => exact ⟨i + 1, by omega, by go_num, (fun j x hj hjx => by
          rcases Nat.lt_or_eq_of_le (Nat.le_of_lt_succ hj) with h | rfl
          · exact HG.out j x h hjx
          · rw [HEJ.out] at hjx; cases hjx; exact HV.out), hbr1⟩
        case measure => simp [intOf]; omega
    · have hge : ¬ ((i : Int) < m) := by omega
      have HR := Lib.hid (show er = true by rw [← HE.out]; unfold hasP; rw [all_yes fun j x hj => HG.out j x (by have := HL.out; omega)])
      go_wp2
      go_ret
      exact ⟨ret_bool HR.out.symm, hbr⟩
set_option maxHeartbeats 4000000 in
theorem ref_sis (D : Int) (A : Option Addr) (n c : Nat) (ps : List PEl) (A' : Option Addr) (k c' : Nat) (xs : List Int) (w : World) (h : PiecesAt w A n ps) (hI : IntsAt w A' k xs) (hp : pointB xs = true) (hc : ∀ p ∈ ps, condsE k p.els = 0) :
    Calls Tryz.prog 25 #[setV D A n c, .slice A' k c'] w fun e w' => e = .returned (.bool (hasS xs ps)) ∧ Below w.heap.size w w' := by
  have hB := below_alloc w (.cells #[.int .i64 D, .slice A n c] 24)
  have P0 := h.step hB
  have I2 := hI.step hB
  have B1 := SetBox.new w D A n c
  have c1 := B1.c1
  have hsm := h.small
  have HL := Lib.hid h.len
  have HP := Lib.hid hp
  have HC := Lib.hid hc
  obtain ⟨er, her⟩ : ∃ er, hasS xs ps = er := ⟨_, rfl⟩
  rw [her]
  have HE := Lib.hid her
  clear her hp hc h hI
  go_enter Tryz.func25, Tryz.ntmps25
  go_wp2
  generalize hw0 : w.alloc (.cells #[.int .i64 D, .slice A n c] 24) = w0 at *
  clear hw0 c1
  go_loopw [10] (fun u wr => ∃ i : Nat, i ≤ n ∧ u = .int .i64 i ∧ (∀ j x, j < i → ps[j]? = some x → hasP xs x.els = false) ∧ Below w0.heap.size w0 wr) (fun u _ => n - (intOf u).toNat)
  case atStart => exact ⟨0, Nat.zero_le _, rfl, (fun j x h => absurd h (by omega)), Below.refl _ _⟩
  case round =>
    obtain ⟨i, hi, rfl, hgood, hbr⟩ := hrel
    have HG := Lib.hid hgood
    clear hgood
    by_cases hlt : i < n
    · obtain ⟨b, off, p, rfl, hblt, hpj, hmem, hcell, hCp⟩ := (P0.step hbr).at hlt; have HPJ := Lib.hid hpj; have hcp := HC.out p hmem; obtain ⟨pA, pn, pc, pels⟩ := p; simp only at hcell hCp hcp; have HCP := Lib.hid hcp; have hq1 : (i : Int) < n := (by omega); have y2 := I2.step hbr; clear hmem hpj hcp
      have HHB := Lib.hid hbr
      cases hv : hasP xs pels
      · have HV := Lib.hid hv
        clear hv
        go_wp2_with (go_at_call 66; refine (ref_in _ _ _ pels _ _ _ xs _ hCp y2 HP.out HCP.out).mono ?_; rintro e w1 ⟨rfl, hb⟩; rw [HV.out]; replace hbr := hbr.trans (hb.mono hbr.size))
        go_roundw
        case rel => exact ⟨i + 1, by omega, by go_num, (fun j x hj hjx => by
          rcases Nat.lt_or_eq_of_le (Nat.le_of_lt_succ hj) with h | rfl
          · exact HG.out j x h hjx
          · rw [HPJ.out] at hjx; cases hjx; exact HV.out), hbr⟩
        case measure => simp [intOf]; omega
      · have HV := Lib.hid hv
        have HR := Lib.hid (show er = true by rw [← HE.out]; unfold hasS; rw [any_yes HPJ.out hv])
        clear hv
        go_wp2_with (go_at_call 66; refine (ref_in _ _ _ pels _ _ _ xs _ hCp y2 HP.out HCP.out).mono ?_; rintro e w1 ⟨rfl, hb⟩; rw [HV.out]; replace hbr := hbr.trans (hb.mono hbr.size))
        go_ret
        exact ⟨ret_bool HR.out.symm, below_step hB hbr⟩
    · have hge : ¬ ((i : Int) < n) := by omega
      have HR := Lib.hid (show er = false by rw [← HE.out]; unfold hasS; rw [any_not fun j x hj => HG.out j x (by have := HL.out; omega)])
      go_wp2
      go_ret
      exact ⟨ret_bool HR.out.symm, below_step hB hbr⟩
end Go.Proofs.YtkgnlloioaobiaaGreat
namespace Go.Proofs.YtkgnlloioaobiaaGreat
open Go.RowKit
theorem hasP_holds {nn : Nat} {xs : List Int} {els : List CEl} (hc : condsE nn els = 0) (hl : xs.length = nn) (hp : pointB xs = true) (hlen : ∀ e ∈ els, e.xs.length = e.n) : hasP xs els = true ↔ HoldsL nn xs (els.map CEl.d) := by
  unfold hasP HoldsL
  rw [List.all_eq_true]
  have key : ∀ e ∈ els, hVal e.q e.M e.xs e.K xs = holdD nn xs e.d := fun e he => by
    obtain ⟨h1, h2⟩ := conds_elim hc e he
    have hx : e.xs.length = nn := by have := hlen e he; omega
    obtain ⟨hh, _⟩ := has_cond (show validC e.q e.M e.xs e.K = true from h1) (show e.xs.length = xs.length by omega) hp
    rw [hx] at hh
    exact hh.symm
  constructor
  · intro h d hd
    obtain ⟨e, he, rfl⟩ := List.mem_map.1 hd
    rw [← key e he]
    exact h e he
  · intro h e he
    rw [key e he]
    exact h e.d (List.mem_map.2 ⟨e, he, rfl⟩)
theorem hasS_set {nn : Nat} {xs : List Int} {us : List PEl} (hc : ∀ p ∈ us, condsE nn p.els = 0) (hl : xs.length = nn) (hp : pointB xs = true) (hlen : ∀ p ∈ us, ∀ e ∈ p.els, e.xs.length = e.n) : hasS xs us = true ↔ SetH nn xs (us.map PEl.dat) := by
  unfold hasS SetH
  rw [List.any_eq_true]
  constructor
  · rintro ⟨p, hpm, h⟩
    exact ⟨p.dat, List.mem_map.2 ⟨p, hpm, rfl⟩, (hasP_holds (hc p hpm) hl hp (hlen p hpm)).1 h⟩
  · rintro ⟨u, hu, h⟩
    obtain ⟨p, hpm, rfl⟩ := List.mem_map.1 hu
    exact ⟨p, hpm, (hasP_holds (hc p hpm) hl hp (hlen p hpm)).2 h⟩
theorem pieces_lens {w : World} {A : Option Addr} {k : Nat} {us : List PEl} (P : PiecesAt w A k us) : ∀ p ∈ us, ∀ e ∈ p.els, e.xs.length = e.n := fun p hp e he => ((P.conds p hp).ints e he).len
theorem conds_good {nn : Nat} {us : List PEl} (hlen : ∀ p ∈ us, ∀ e ∈ p.els, e.xs.length = e.n) (hg : GoodU nn (us.map PEl.dat)) : ∀ p ∈ us, condsE nn p.els = 0 := fun p hp => by
  have h1 := (hg.1 p.dat (List.mem_map.2 ⟨p, hp, rfl⟩)).1
  have hv : ∀ e ∈ p.els, ValidD nn e.d := fun e he => h1 e.d (List.mem_map.2 ⟨e, he, rfl⟩)
  unfold condsE
  rw [if_pos (show p.els.all CEl.ok = true from List.all_eq_true.2 fun e he => (hv e he).1), if_pos (List.all_eq_true.2 fun e he => by
    have h2 : e.xs.length = nn := (hv e he).2
    have h3 := hlen p hp e he
    have : (e.n : Int) = nn := by omega
    simpa using this)]
theorem valid_data {nn : Nat} {ps : List PEl} (hlen : ∀ p ∈ ps, ∀ e ∈ p.els, e.xs.length = e.n) (hv : validS nn ps = true) : ∀ ds ∈ ps.map PEl.dat, ∀ d ∈ ds, ValidD nn d := fun ds hds d hd => by
  obtain ⟨p, hp, rfl⟩ := List.mem_map.1 hds
  obtain ⟨e, he, rfl⟩ := List.mem_map.1 hd
  obtain ⟨h1, h2⟩ := conds_elim ((valid_elim hv).2 p hp).2 e he
  exact ⟨h1, by have := hlen p hp e he; show e.xs.length = nn; omega⟩
theorem minus_has {nn : Nat} (hn : nn ≤ 12) {xs : List Int} (hl : xs.length = nn) (hp : pointB xs = true) {ps qs us : List PEl} (hlp : ∀ p ∈ ps, ∀ e ∈ p.els, e.xs.length = e.n) (hlq : ∀ p ∈ qs, ∀ e ∈ p.els, e.xs.length = e.n) (hlu : ∀ p ∈ us, ∀ e ∈ p.els, e.xs.length = e.n) (hvp : validS nn ps = true) (hvq : validS nn qs = true) (h : minusD nn (ps.map PEl.dat) (qs.map PEl.dat) = (0, us.map PEl.dat)) :
    GoodU nn (us.map PEl.dat) ∧ hasS xs us = (hasS xs ps && !hasS xs qs) := by
  obtain ⟨g, e⟩ := minus_points (x := xs) hn (valid_data hlp hvp) (valid_data hlq hvq) h
  refine ⟨g, ?_⟩
  have h1 := hasS_set (conds_good hlu g) hl hp hlu
  have h2 := hasS_set (fun p hp => ((valid_elim hvp).2 p hp).2) hl hp hlp
  have h3 := hasS_set (fun p hp => ((valid_elim hvq).2 p hp).2) hl hp hlq
  rw [Bool.eq_iff_iff, h1, e, ← h2, ← h3, Bool.and_eq_true, Bool.not_eq_true']
  simp
end Go.Proofs.YtkgnlloioaobiaaGreat
namespace Go.Proofs.YtkgnlloioaobiaaGreat
open Go.RowKit
theorem cl_empty (N0 : Nat) {N : Nat} {w : World} {g : Nat} (hN : N ≤ g) (hg : w.heap[g]? = some (.cells #[] 56 (0, 0))) : CL2 N0 N w (.slice (some ⟨g, 0, none⟩) 0 0) [] :=
  ⟨⟨rfl, .inr ⟨g, 0, #[], rfl, hN, hg, by simp, by decide, by simp, by simp [ccells]⟩⟩, by simp, (fun e h => nomatch h), (fun e h => nomatch h)⟩
end Go.Proofs.YtkgnlloioaobiaaGreat
namespace Go.Proofs.YtkgnlloioaobiaaGreat
open Go.RowKit
theorem run_eql_conds_nil (w : World) (A : Option Addr) (n c : Nat) :
    (binOp .eql 34 (.slice A n c) (.slice none 0 0)).run Tryz.prog w = .ok (.bool A.isNone) w := by
  have h : ∀ d : Nat, (Op.equalIn (d + 1) 34 (.slice A n c) (.slice none 0 0)).run Tryz.prog w = .ok A.isNone w := fun d => by
    cases A <;> simp [Op.equalIn, run_underlying Tryz.underlying34]
  simp only [binOp]
  simp [Op.equal, Op.maxDepth, h 9999]
end Go.Proofs.YtkgnlloioaobiaaGreat
namespace Go.Proofs.YtkgnlloioaobiaaGreat
open Go.ChangeShapes Go.WideShapes Go.ChangeAt Go.RowKit
def RowAny (N : Nat) (W : World) (A : Option Addr) (n : Nat) : Prop := (∃ b off, A = some ⟨b, off, none⟩ ∧ b < N) ∨ RowOk 0 W A n
section
variable {N : Nat} {W W' : World} {A : Option Addr} {n : Nat} {xs : List Int}
theorem RowAny.step (h : RowAny N W A n) (hb : Below W.heap.size W W') : RowAny N W' A n := h.imp id fun h => h.step hb
theorem RowAny.mono {N' : Nat} (h : RowAny N W A n) (hN : N ≤ N') : RowAny N' W A n := h.imp (fun ⟨b, off, hA, hb⟩ => ⟨b, off, hA, Nat.lt_of_lt_of_le hb hN⟩) id
theorem RowAny.of_ints (h : IntsAt W A n xs) (hN : W.heap.size ≤ N) : RowAny N W A n := by
  rcases Nat.eq_zero_or_pos n with h0 | h0
  · exact .inr (.inl h0)
  · obtain ⟨b, off, hA, hlt, _⟩ := h.cells h0
    exact .inl ⟨b, off, hA, Nat.lt_of_lt_of_le hlt hN⟩
theorem RowAny.grown {row : Option Nat} (h : RowAny N W A n) (hg : W.grownBy W' row) (hr : ∀ r, row = some r → N ≤ r ∧ ∃ cur fr, W.heap[r]? = some (.cells cur 56 fr)) : RowAny N W' A n :=
  h.imp id fun h => h.grown hg fun r e => (hr r e).2
theorem IntsAt.grown_any {row : Option Nat} (h : IntsAt W A n xs) (ho : RowAny N W A n) (hg : W.grownBy W' row) (hr : ∀ r, row = some r → N ≤ r ∧ ∃ cur fr, W.heap[r]? = some (.cells cur 56 fr)) : IntsAt W' A n xs := by
  rcases ho with ⟨b', off', hA', hb'⟩ | ho
  · refine ⟨h.len, h.small, h.wf, fun hn => ?_⟩
    obtain ⟨b, off, hA, hlt, hc⟩ := h.cells hn
    rw [hA'] at hA
    cases hA
    refine ⟨b', off', hA', Nat.lt_of_lt_of_le hlt hg.size, fun j hj => ?_⟩
    rw [← hc j hj]
    exact World.cell?_of_block (hg.block b' hlt fun e => by have := (hr b' e.symm).1; omega)
  · exact h.grown ho hg fun r e => (hr r e).2
end
structure CL3 (N : Nat) (W : World) (u : Value) (els : List CEl) : Prop where
  own : W.ownsRow N 56 4 u els.length (ccells els)
  few : els.length ≤ 100000
  ints : ∀ e ∈ els, IntsAt W e.A e.n e.xs
  rows : ∀ e ∈ els, RowAny N W e.A e.n
section
variable {N : Nat} {W W' : World} {u : Value} {els : List CEl}
theorem CL3.of_cl {N0 : Nat} (h : CL2 N0 N W u els) : CL3 N W u els := ⟨h.own, h.few, h.ints, fun e he => .inr ((h.rows e he).mono (Nat.zero_le _))⟩
theorem CL3.nil (N : Nat) (W : World) : CL3 N W (.slice none 0 0) [] := .of_cl (CL2.nil 0 N W)
theorem CL3.step (h : CL3 N W u els) (hb : Below W.heap.size W W') : CL3 N W' u els := by
  refine ⟨⟨h.own.1, ?_⟩, h.few, fun e he => (h.ints e he).step hb, fun e he => (h.rows e he).step hb⟩
  rcases h.own.2 with h0 | ⟨g, cap, cur, hv, hg, hc, rest⟩
  · exact .inl h0
  · exact .inr ⟨g, cap, cur, hv, hg, (hb.block g (Array.getElem?_eq_some_iff.1 hc).1).trans hc, rest⟩
theorem CL3.slice (h : CL3 N W u els) : ∃ A c, u = .slice A els.length c := by
  rcases h.own.2 with ⟨rfl, h0⟩ | ⟨g, cap, cur, rfl, _⟩
  · rw [h0]; exact ⟨none, 0, rfl⟩
  · exact ⟨_, _, rfl⟩
theorem CL3.typed (h : CL3 N W u els) : ∀ r, u.ownBlock = some r → N ≤ r ∧ ∃ cur fr, W.heap[r]? = some (.cells cur 56 fr) := fun r e => by
  rcases h.own.2 with ⟨hv, _⟩ | ⟨gl, cap', cur', hv, hgN, hgl, _⟩
  · rw [hv] at e; cases e
  · rw [hv] at e
    simp only [Value.ownBlock, Option.some.injEq] at e
    subst e
    exact ⟨hgN, cur', _, hgl⟩
theorem CL3.conds {A : Option Addr} {m c : Nat} (h : CL3 N W (.slice A m c) els) : m = els.length ∧ CondsAt W A els.length els := by
  have hm : m = els.length := by
    obtain ⟨A', c', e⟩ := h.slice
    cases e; rfl
  subst hm
  have hf := h.few
  refine ⟨rfl, rfl, by omega, ?_, h.ints⟩
  intro h0
  rcases h.own.2 with ⟨_, h1⟩ | ⟨g, cap, cur, hv, hb, hc, h1, h2, h3, h4⟩
  · omega
  · cases hv
    refine ⟨g, 0, rfl, (Array.getElem?_eq_some_iff.1 hc).1, fun j e he => ?_⟩
    obtain ⟨a0, a1, a2, a3⟩ := ccells_at els j e he
    have hj := (List.getElem?_eq_some_iff.1 he).1
    rw [Nat.zero_add]
    refine ⟨?_, ?_, ?_, ?_⟩
    · have := World.ownsRow.cellAt h.own (j * 4) (by omega); rw [this]; exact a0
    · have := World.ownsRow.cellAt h.own (j * 4 + 1) (by omega); rw [this]; exact a1
    · have := World.ownsRow.cellAt h.own (j * 4 + 2) (by omega); rw [this]; exact a2
    · have := World.ownsRow.cellAt h.own (j * 4 + 3) (by omega); rw [this]; exact a3
end
theorem cl3_empty {N : Nat} {w : World} {g : Nat} (hN : N ≤ g) (hg : w.heap[g]? = some (.cells #[] 56 (0, 0))) : CL3 N w (.slice (some ⟨g, 0, none⟩) 0 0) [] := .of_cl (cl_empty 0 hN hg)
section
variable {ops : Array Oper} {o : Oper} {a : Act} {w : World} {Q : Exit → Act → World → Prop}
theorem wpList_append_any {rest : List Oper} (hgd : o.guard = none) (s x : Operand) (t : TypeId) (ho : o.op = .call { callee := .builtin .append, args := #[s, x], argTypes := #[t, t] }) (ht : Tryz.prog.underlying t = some (.slice 56))
    {N : Nat} {u : Value} {els : List CEl} (hs : a.eval s = u) (hL : CL3 N w u els) {A : Option Addr} {n c : Nat} {new : List CEl} (hx : a.eval x = .slice A n c) (hC : CondsAt w A n new) (hnil : A = none → c = 0) (hro : ∀ e ∈ new, RowAny N w e.A e.n) (hm : els.length + n ≤ 100000) (hN : N ≤ w.heap.size)
    (h : ∀ u' w', CL3 N w' u' (els ++ new) → Below N w w' → wpList Tryz.prog ops Q rest (a.put o.dst u') w') : wpList Tryz.prog ops Q (o :: rest) a w := by
  obtain ⟨i0, hi0, hz, hz1, hz2⟩ := info_parts infoCond
  have hl := hC.len
  cases A with
  | none =>
    have hn : n = 0 := by
      rcases Nat.eq_zero_or_pos n with h0 | h0
      · exact h0
      · obtain ⟨b, off, hA, _⟩ := hC.cells h0
        cases hA
    subst hn
    obtain rfl := hnil rfl
    obtain rfl : new = [] := List.length_eq_zero_iff.1 hl
    exact wpList_append_own_none hgd s x t ho N 56 i0 4 ht hi0 u els.length (ccells els) hs hL.own hx (h u w (by rw [List.append_nil]; exact hL) (Below.refl _ _))
  | some ad =>
    have hat : ∀ (j : Nat) (v : Value), (ccells new)[j]? = some v → w.cell? (ad.add j) = some v := fun j v hv => by
      rcases Nat.eq_zero_or_pos n with h0 | h0
      · rw [List.length_eq_zero_iff.1 (hl.trans h0)] at hv
        simp [ccells] at hv
      · obtain ⟨b, off, hA, _⟩ := hC.cells h0
        cases hA
        rw [add_plain]
        exact conds_cell hC hv
    refine wpList_append_own _ hgd s x t ho N 56 i0 (.agg #[.int .i64 0, .int .i64 0, .slice none 0 0, .int .i64 0]) 4 48 ht hi0 hz hz1 hz2 rfl (by decide) u els.length (ccells els) hs hL.own ad n c (ccells new) hx (by rw [ccells_len, hl]) hat (ccells_one new) (by unfold maxLen; omega) (by omega) hN ?_
    intro v' w' hown hgr _
    refine h v' w' ⟨by rw [List.length_append, ccells_app, hl]; exact hown, by rw [List.length_append]; omega, fun e he => ?_, fun e he => ?_⟩ ((Below.refl N w).grown hgr hN fun k e => (hL.typed k e).1)
    · rcases List.mem_append.1 he with he | he
      · exact (hL.ints e he).grown_any (hL.rows e he) hgr hL.typed
      · exact (hC.ints e he).grown_any (hro e he) hgr hL.typed
    · rcases List.mem_append.1 he with he | he
      · exact (hL.rows e he).grown hgr hL.typed
      · exact (hro e he).grown hgr hL.typed
end
theorem any_clone (A : Option Addr) (m c : Nat) (els : List CEl) (w : World) (C0 : CondsAt w A m els) (hm : m ≤ 1000) :
    Calls Tryz.prog 86 #[.slice A m c] w fun e w' => ∃ A' c', e = .returned (.slice A' els.length c') ∧ CL3 w.heap.size w' (.slice A' els.length c') els ∧ Below w.heap.size w w' := by
  have heq := fun w => run_eql_conds_nil w A m c
  have hl := C0.len
  cases A with
  | none =>
    obtain rfl : m = 0 := by
      rcases Nat.eq_zero_or_pos m with h0 | h0
      · exact h0
      · obtain ⟨b, off, hA, _⟩ := C0.cells h0
        cases hA
    obtain rfl : els = [] := List.length_eq_zero_iff.1 hl
    go_enter Tryz.func86, Tryz.ntmps86
    go_wp2
    go_ret
    exact ⟨none, 0, rfl, CL3.nil _ _, Below.refl _ _⟩
  | some ad =>
    have hB0 := below_alloc w (.cells #[] 56)
    have HL0 := cl3_empty (N := w.heap.size) (w := w.alloc (.cells #[] 56)) (g := w.heap.size) (Nat.le_refl _) (heap_alloc_new w (.cells #[] 56))
    have C1 := C0.step hB0
    have R1 := fun e he => (RowAny.of_ints (C0.ints e he) (Nat.le_refl _)).step hB0
    have h1 : ([] : List CEl).length + m ≤ 100000 := by simp; omega
    have HN := Lib.hid hB0.size
    have HB := Lib.hid hB0
    clear C0 hB0 hl
    go_enter Tryz.func86, Tryz.ntmps86
    go_wp2_with (at_builtin; refine wpList_append_any rfl _ _ 34 rfl rfl rfl HL0 rfl C1 (fun h => nomatch h) R1 h1 HN.out ?_; intro u7 w7 L7 hb7; rw [List.nil_append] at L7; obtain ⟨A7, c7, hu7⟩ := L7.slice; subst hu7)
    go_ret
    exact ⟨A7, c7, rfl, L7, HB.out.trans hb7⟩
def CEl.withL (e : CEl) (A : Option Addr) (n c : Nat) (K : Int) (xs : List Int) : CEl := ⟨e.q, e.M, A, n, c, K, xs⟩
theorem ccells_setL : ∀ (l : List CEl) (j : Nat) (e : CEl) (A : Option Addr) (n c : Nat) (K : Int) (xs : List Int), l[j]? = some e → ccells (l.set j (e.withL A n c K xs)) = ((ccells l).set (j * 4 + 2) (.slice A n c)).set (j * 4 + 3) (.int .i64 K)
  | [], j, e, A, n, c, K, xs, h => by simp at h
  | x :: l, 0, e, A, n, c, K, xs, h => by simp at h; subst h; rfl
  | x :: l, j + 1, e, A, n, c, K, xs, h => by
    have ih := ccells_setL l j e A n c K xs (by simpa using h)
    rw [show (j + 1) * 4 + 3 = j * 4 + 3 + 1 + 1 + 1 + 1 by omega, show (j + 1) * 4 + 2 = j * 4 + 2 + 1 + 1 + 1 + 1 by omega]
    simp only [List.set_cons_succ, ccells, CEl.cells, List.cons_append, List.nil_append, ih]
theorem grown_set2 (W : World) (g i j : Nat) (u v : Value) : W.grownBy ((W.setCell ⟨g, i, none⟩ u).setCell ⟨g, j, none⟩ v) (some g) :=
  ⟨rfl, rfl, rfl, by simp [World.setCell], fun k _ hk => (Below.heap_setCell _ _ _ k (fun e => hk (by rw [e]))).trans (Below.heap_setCell _ _ _ k (fun e => hk (by rw [e])))⟩
theorem CL3.setL {N : Nat} {W : World} {g m c : Nat} {els : List CEl} (h : CL3 N W (.slice (some ⟨g, 0, none⟩) m c) els) {j : Nat} {e : CEl} (he : els[j]? = some e) (A' : Option Addr) (n' c' : Nat) (K' : Int) (xs' : List Int) (hi : IntsAt W A' n' xs') (hr : RowAny N W A' n') :
    CL3 N ((W.setCell ⟨g, j * 4 + 2, none⟩ (.slice A' n' c')).setCell ⟨g, j * 4 + 3, none⟩ (.int .i64 K')) (.slice (some ⟨g, 0, none⟩) m c) (els.set j (e.withL A' n' c' K' xs')) := by
  have hgr := grown_set2 W g (j * 4 + 2) (j * 4 + 3) (.slice A' n' c') (.int .i64 K')
  have hty : ∀ r, some g = some r → N ≤ r ∧ ∃ cur fr, W.heap[r]? = some (.cells cur 56 fr) := fun r e => h.typed r (by rw [← e]; rfl)
  have hj := (List.getElem?_eq_some_iff.1 he).1
  refine ⟨⟨by rw [ccells_len], ?_⟩, by rw [List.length_set]; exact h.few, fun x hx => ?_, fun x hx => ?_⟩
  · rcases h.own.2 with ⟨hv, h0⟩ | ⟨g', cap, cur, hv, hN, hc, h1, h2, h3, h4⟩
    · cases hv
    · simp only [Value.slice.injEq, Option.some.injEq, Addr.mk.injEq, and_true, true_and] at hv
      obtain ⟨rfl, rfl, rfl⟩ := hv
      refine .inr ⟨g, c, (cur.setIfInBounds (j * 4 + 2) (.slice A' n' c')).setIfInBounds (j * 4 + 3) (.int .i64 K'), by rw [List.length_set], hN, ?_, by rw [List.length_set]; exact h1, h2, by rw [Array.size_setIfInBounds, Array.size_setIfInBounds]; exact h3, ?_⟩
      · simp only [World.setCell]
        rw [Array.getElem?_modify, if_pos rfl, Array.getElem?_modify, if_pos rfl, hc]
        rfl
      · rw [ccells_setL els j e A' n' c' K' xs' he, ← h4, List.length_set, Array.toList_setIfInBounds, Array.toList_setIfInBounds, List.take_set, List.take_set]
  · rcases List.mem_or_eq_of_mem_set hx with hx | rfl
    · exact (h.ints x hx).grown_any (h.rows x hx) hgr hty
    · exact hi.grown_any hr hgr hty
  · rcases List.mem_or_eq_of_mem_set hx with hx | rfl
    · exact (h.rows x hx).grown hgr hty
    · exact hr.grown hgr hty
end Go.Proofs.YtkgnlloioaobiaaGreat
namespace Go.Proofs.YtkgnlloioaobiaaGreat
open Go.RowKit
structure PL (n N : Nat) (w : World) (u : Value) (ps : List PEl) : Prop where
  own : w.ownsRow N 34 1 u ps.length (ps.map PEl.v)
  few : ps.length ≤ 4000000000
  ok : ∀ p ∈ ps, PieceOk n w p
section
variable {n N : Nat} {w w' : World} {u : Value} {ps : List PEl}
theorem PL.nil (n N : Nat) (w : World) : PL n N w (.slice none 0 0) [] := ⟨World.ownsRow_nil _ _ _ _, by simp, (fun p h => nomatch h)⟩
theorem PL.step (h : PL n N w u ps) (hb : Below w.heap.size w w') : PL n N w' u ps := ⟨own_step h.own hb, h.few, fun p hp => (h.ok p hp).keep (.of_below hb)⟩
theorem PL.slice (h : PL n N w u ps) : ∃ A c, u = .slice A ps.length c := by
  rcases h.own.2 with ⟨rfl, h0⟩ | ⟨g, cap, cur, rfl, _⟩
  · rw [h0]; exact ⟨none, 0, rfl⟩
  · exact ⟨_, _, rfl⟩
theorem PL.pieces (h : PL n N w u ps) : ∃ A c, u = .slice A ps.length c ∧ PiecesAt w A ps.length ps ∧ (0 < ps.length → ∃ g o, A = some ⟨g, o, none⟩ ∧ N ≤ g) := by
  have hc : ∀ p ∈ ps, CondsAt w p.A p.n p.els := fun p hp => (h.ok p hp).1.conds
  have hf := h.few
  rcases h.own.2 with ⟨rfl, h0⟩ | ⟨g, cap, cur, rfl, hg, hcc, rest⟩
  · rw [h0]
    exact ⟨none, 0, rfl, ⟨by rw [h0], by omega, fun h' => absurd h' (by omega), hc⟩, fun h' => absurd h' (by omega)⟩
  · refine ⟨_, _, rfl, ⟨rfl, by omega, fun h' => ⟨g, 0, rfl, (Array.getElem?_eq_some_iff.1 hcc).1, fun j p hp => ?_⟩, hc⟩, fun _ => ⟨g, 0, rfl, hg⟩⟩
    have hj : j < ps.length := (List.getElem?_eq_some_iff.1 hp).1
    rw [Nat.zero_add, cell_of_row w g j _ _ (0, 0) hcc]
    have h5 := congrArg (·[j]?) rest.2.2.2
    simp only [List.getElem?_take, List.getElem?_map, hp, Option.map_some] at h5
    rw [if_pos (by omega)] at h5
    simpa [PEl.v] using h5
theorem PL.at (h : PL n N w u ps) {A : Option Addr} {m c : Nat} (hu : u = .slice A m c) : m = ps.length ∧ PiecesAt w A ps.length ps := by
  obtain ⟨A', c', e, hP, _⟩ := h.pieces
  rw [hu] at e
  cases e
  exact ⟨rfl, hP⟩
theorem PL.typed (h : PL n N w u ps) : ∀ r, u.ownBlock = some r → N ≤ r ∧ ∃ cur, w.heap[r]? = some (.cells cur 34 (0, 0)) := fun r e => by
  rcases h.own.2 with ⟨hv, _⟩ | ⟨g, cap, cur, hv, hgN, hc, _⟩
  · rw [hv] at e; cases e
  · rw [hv] at e; cases e; exact ⟨hgN, cur, hc⟩
end
section
variable {ops : Array Oper} {o : Oper} {a : Act} {w : World} {Q : Exit → Act → World → Prop}
end
end Go.Proofs.YtkgnlloioaobiaaGreat
namespace Go.Proofs.YtkgnlloioaobiaaGreat
open Go.ChangeShapes Go.WideShapes Go.ChangeAt Go.RowKit Go.Joins Go.Deep
def PieceC (p : PEl) : Prop := (p.A = none → p.c = 0) ∧ p.n ≤ p.c ∧ ∀ e ∈ p.els, CapOf e.A e.n e.c
section
variable {H : Type} {enc : TypeId × Value → H} {w : World}
theorem cond_coreC {fuel : Nat} {cs : List Value} {y : DataW H × List MemPlace} (hlt : ∀ x ∈ y.2, x.block < w.heap.size) (hsz : (y.1.weights Tryz.prog 56).all (· ≤ reachBytes) = true)
    (hf : DataW.trod enc Tryz.prog w 0 (fun _ => true) true fuel 56 cs = some y) : ∃ e : CEl, cs = e.cells ∧ IntsAt w e.A e.n e.xs ∧ CapOf e.A e.n e.c := by
  obtain ⟨y0, y1, y2, n, rfl, hlen, h0, h1, h2⟩ := trod_struct3 Tryz.underlying56 hf
  have k0 : Tryz.prog.cellsOf 56 = 4 := by kernel_rfl
  have k1 : Tryz.prog.cellsOf 3 = 1 := by kernel_rfl
  have k2 : Tryz.prog.cellsOf 54 = 2 := by kernel_rfl
  have k3 : Tryz.prog.cellsOf 38 = 1 := by kernel_rfl
  rw [k0] at hlen
  match cs, hlen with
  | [c0, c1, c2, c3], _ =>
    simp only [k1, k2, List.drop_zero, List.take_succ_cons, List.take_zero, List.drop_succ_cons] at h0 h1 h2
    simp only [DataW.weights, Tryz.underlying56, DataW.weightsEach, List.map_cons, List.all_append, Bool.and_eq_true] at hsz
    obtain ⟨q, hv0, hq⟩ := DataW.trod_int Tryz.underlying3 h0
    obtain ⟨M, hv1, hM⟩ := DataW.trod_int Tryz.underlying3 h1
    obtain ⟨z0, z1, m, hx2, _, g0, g1⟩ := trod_struct2 Tryz.underlying54 h2
    simp only [k1, k3, List.drop_zero, List.take_succ_cons, List.take_zero, List.drop_succ_cons] at g0 g1
    subst hx2
    have hsz2 := hsz.2.2.1
    simp only [DataW.weights, Tryz.underlying54, DataW.weightsEach, List.map_cons, List.all_append, Bool.and_eq_true] at hsz2
    obtain ⟨A, l, c, xs, rfl, hI, hC⟩ := ints_coreC Tryz.underlying38 Tryz.underlying3 (by kernel_rfl) (by kernel_rfl) (fun x hx => hlt x (List.mem_append_right _ (List.mem_append_right _ (List.mem_append_left _ hx)))) hsz2.1 g0
    obtain ⟨K, hv3, hK⟩ := DataW.trod_int Tryz.underlying3 g1
    simp only [List.cons.injEq, and_true] at hv0 hv1 hv3
    subst hv0 hv1 hv3
    exact ⟨⟨q, M, A, l, c, K, xs⟩, rfl, hI, hC⟩
theorem conds_coreC {fuel : Nat} {v : Value} {y : DataW H × List MemPlace} (hlt : ∀ x ∈ y.2, x.block < w.heap.size) (hsz : (y.1.weights Tryz.prog 34).all (· ≤ reachBytes) = true)
    (hf : DataW.trod enc Tryz.prog w 0 (fun _ => true) true fuel 34 [v] = some y) : ∃ A n c els, v = .slice A n c ∧ CondsAt w A n els ∧ (A = none → c = 0) ∧ n ≤ c ∧ ∀ e ∈ els, CapOf e.A e.n e.c := by
  have k0 : Tryz.prog.cellsOf 56 = 4 := by kernel_rfl
  have kb : Tryz.prog.bytesOf 56 = 48 := by kernel_rfl
  rcases DataW.trod_slice Tryz.underlying34 hf with ⟨hcs, hx⟩ | ⟨a, len, cap, elems, rest, n, _, hcs, hx, _, hl, hm, hel, hcells, _, _⟩
  · simp only [List.cons.injEq, and_true] at hcs
    exact ⟨none, 0, 0, [], hcs, conds_nil w none, (fun _ => rfl), Nat.le_refl _, (fun e h => nomatch h)⟩
  · simp only [List.cons.injEq, and_true] at hcs
    subst hx
    simp only [DataW.weights, Tryz.underlying34, List.all_cons, List.all_append, Bool.and_eq_true, decide_eq_true_eq, List.length_map, kb] at hsz
    obtain ⟨hreach, hwe, _⟩ := hsz
    have hn : len ≤ 17592186044416 := by unfold reachBytes at hreach; omega
    rw [k0] at hcells
    have hplain : 0 < len → a.spot = none := fun h0 => by
      have h := hcells 0 h0
      rw [List.getElem?_eq_getElem (by omega)] at h
      obtain ⟨cs, hc, _⟩ := Option.bind_eq_some_iff.1 h
      obtain ⟨_, hcl, hcc⟩ := World.cells?_some hc
      have h1 := hcc 0 (by omega)
      rw [List.getElem?_eq_getElem (by omega)] at h1
      simpa [Addr.add] using World.cell?_spot h1
    rcases Nat.eq_zero_or_pos len with h0 | h0
    · subst h0
      exact ⟨some a, 0, cap, [], hcs, conds_nil w _, (fun h => nomatch h), Nat.zero_le _, (fun e h => nomatch h)⟩
    · obtain ⟨b, off, spot⟩ := a
      have hs := hplain h0
      have hs : spot = none := hs
      subst hs
      have hblk : b < w.heap.size := by
        have h := hcells 0 h0
        rw [List.getElem?_eq_getElem (by omega)] at h
        obtain ⟨cs, hc, _⟩ := Option.bind_eq_some_iff.1 h
        exact World.cells?_block hc (by omega)
      obtain ⟨els, hle, hP⟩ := list_of (P := fun i (e : CEl) => CellsOf w b (off + i * 4) e ∧ IntsAt w e.A e.n e.xs ∧ CapOf e.A e.n e.c) len fun i hi => by
        have h := hcells i hi
        have hi' : i < elems.length := by omega
        rw [List.getElem?_eq_getElem hi'] at h
        obtain ⟨cs, hc, ht⟩ := Option.bind_eq_some_iff.1 h
        obtain ⟨_, hcl, hcc⟩ := World.cells?_some hc
        obtain ⟨e, rfl, hI, hCo⟩ := cond_coreC (fun x hx => hlt x (List.mem_append_right _ (List.mem_flatMap.2 ⟨elems[i], List.mem_append_left _ (List.getElem_mem hi'), hx⟩)))
          (weights_mem (List.mem_map.2 ⟨elems[i], List.getElem_mem hi', rfl⟩) hwe) ht
        have ha : ∀ k : Nat, ((⟨b, off, none⟩ : Addr).add (i * 4)).add k = ⟨b, off + i * 4 + k, none⟩ := fun k => by rw [add_plain, add_plain]
        refine ⟨e, ⟨?_, ?_, ?_, ?_⟩, hI, hCo⟩
        · have := hcc 0 (by omega); rw [ha] at this; exact this
        · have := hcc 1 (by omega); rw [ha] at this; exact this
        · have := hcc 2 (by omega); rw [ha] at this; exact this
        · have := hcc 3 (by omega); rw [ha] at this; exact this
      have hall : ∀ e ∈ els, IntsAt w e.A e.n e.xs ∧ CapOf e.A e.n e.c := fun e he => by
        obtain ⟨j, hj, rfl⟩ := List.getElem_of_mem he
        exact (hP j _ (List.getElem?_eq_getElem hj)).2
      exact ⟨some ⟨b, off, none⟩, len, cap, els, hcs, ⟨hle, hn, fun _ => ⟨b, off, rfl, hblk, fun j e he => (hP j e he).1⟩, fun e he => (hall e he).1⟩, (fun h => nomatch h), hl, fun e he => (hall e he).2⟩
theorem pieces_coreC {fuel : Nat} {v : Value} {y : DataW H × List MemPlace} (hlt : ∀ x ∈ y.2, x.block < w.heap.size) (hsz : (y.1.weights Tryz.prog 22).all (· ≤ reachBytes) = true)
    (hf : DataW.trod enc Tryz.prog w 0 (fun _ => true) true fuel 22 [v] = some y) : ∃ A n c ps, v = .slice A n c ∧ PiecesAt w A n ps ∧ (A = none → c = 0) ∧ ∀ p ∈ ps, PieceC p := by
  have k0 : Tryz.prog.cellsOf 34 = 1 := by kernel_rfl
  have kb : Tryz.prog.bytesOf 34 = 24 := by kernel_rfl
  rcases DataW.trod_slice Tryz.underlying22 hf with ⟨hcs, hx⟩ | ⟨a, len, cap, elems, rest, n, _, hcs, hx, _, hl, hm, hel, hcells, _, _⟩
  · simp only [List.cons.injEq, and_true] at hcs
    exact ⟨none, 0, 0, [], hcs, ⟨rfl, by omega, fun h => absurd h (by omega), (fun p h => nomatch h)⟩, (fun _ => rfl), (fun p h => nomatch h)⟩
  · simp only [List.cons.injEq, and_true] at hcs
    subst hx
    simp only [DataW.weights, Tryz.underlying22, List.all_cons, List.all_append, Bool.and_eq_true, decide_eq_true_eq, List.length_map, kb] at hsz
    obtain ⟨hreach, hwe, _⟩ := hsz
    have hn : len ≤ 17592186044416 := by unfold reachBytes at hreach; omega
    rw [k0] at hcells
    rcases Nat.eq_zero_or_pos len with h0 | h0
    · subst h0
      exact ⟨some a, 0, cap, [], hcs, ⟨rfl, by omega, fun h => absurd h (by omega), (fun p h => nomatch h)⟩, (fun h => nomatch h), (fun p h => nomatch h)⟩
    · obtain ⟨b, off, spot⟩ := a
      obtain ⟨hs, hblk⟩ : spot = none ∧ b < w.heap.size := by
        have h := hcells 0 h0
        rw [List.getElem?_eq_getElem (by omega)] at h
        obtain ⟨cs, hc, _⟩ := Option.bind_eq_some_iff.1 h
        obtain ⟨_, hcl, hcc⟩ := World.cells?_some hc
        have h1 := hcc 0 (by omega)
        rw [List.getElem?_eq_getElem (by omega)] at h1
        exact ⟨by simpa [Addr.add] using World.cell?_spot h1, World.cells?_block hc (by omega)⟩
      subst hs
      obtain ⟨ps, hle, hP⟩ := list_of (P := fun i (p : PEl) => w.cell? ⟨b, off + i, none⟩ = some (.slice p.A p.n p.c) ∧ CondsAt w p.A p.n p.els ∧ PieceC p) len fun i hi => by
        have h := hcells i hi
        have hi' : i < elems.length := by omega
        rw [List.getElem?_eq_getElem hi'] at h
        obtain ⟨cs, hc, ht⟩ := Option.bind_eq_some_iff.1 h
        obtain ⟨_, hcl, hcc⟩ := World.cells?_some hc
        match cs, hcl with
        | [v1], _ =>
          obtain ⟨A, m, c, els, rfl, hC, hCn, hCl, hCe⟩ := conds_coreC (fun x hx => hlt x (List.mem_append_right _ (List.mem_flatMap.2 ⟨elems[i], List.mem_append_left _ (List.getElem_mem hi'), hx⟩)))
            (weights_mem (List.mem_map.2 ⟨elems[i], List.getElem_mem hi', rfl⟩) hwe) ht
          refine ⟨⟨A, m, c, els⟩, ?_, hC, hCn, hCl, hCe⟩
          have := hcc 0 (by omega)
          rw [add_plain, add_plain, Nat.mul_one, Nat.add_zero] at this
          exact this
      have hall : ∀ p ∈ ps, CondsAt w p.A p.n p.els ∧ PieceC p := fun p hp => by
        obtain ⟨j, hj, rfl⟩ := List.getElem_of_mem hp
        exact (hP j _ (List.getElem?_eq_getElem hj)).2
      exact ⟨some ⟨b, off, none⟩, len, cap, ps, hcs, ⟨hle, hn, fun _ => ⟨b, off, rfl, hblk, fun j p hp => (hP j p hp).1⟩, fun p hp => (hall p hp).1⟩, (fun h => nomatch h), fun p hp => (hall p hp).2⟩
theorem set_ofC {r : Reach} {b0 : Nat} {v : Value} {d : DataW H} {p : List MemPlace}
    (hok : Value.okWide Tryz.prog w r b0 24 v) (hlt : ∀ x ∈ p, x.block < w.heap.size) (hsz : (d.weights Tryz.prog 24).all (· ≤ reachBytes) = true)
    (h : DataW.Trod enc Tryz.prog w 0 (fun _ => true) true 24 v d p) : ∃ D A n c ps, v = .agg #[.int .i64 D, .slice A n c] ∧ PiecesAt w A n ps ∧ ((A = none → c = 0) ∧ ∀ p ∈ ps, PieceC p) ∧ (-9223372036854775808 ≤ D ∧ D ≤ 9223372036854775807) := by
  obtain ⟨v0, v1, y0, y1, n, rfl, rfl, rfl, h0, h1⟩ := open_agg2 Tryz.underlying24 (by kernel_rfl) (by kernel_rfl) hok h
  simp only [DataW.weights, Tryz.underlying24, DataW.weightsEach, List.map_cons, List.all_append, Bool.and_eq_true] at hsz
  obtain ⟨D, hv, hD⟩ := DataW.trod_int Tryz.underlying3 h0
  obtain ⟨A, m, c, ps, rfl, hP, hN, hC⟩ := pieces_coreC (fun x hx => hlt x (List.mem_append_right _ hx)) (by simpa using hsz.2.1) h1
  simp only [List.cons.injEq, and_true] at hv
  subst hv
  exact ⟨D, A, m, c, ps, rfl, hP, ⟨hN, hC⟩, bounds_i64 hD.2⟩
end
end Go.Proofs.YtkgnlloioaobiaaGreat
namespace Go.Proofs.YtkgnlloioaobiaaGreat
open Go.ChangeShapes Go.WideShapes Go.ChangeAt Go.RowKit
section
variable {N : Nat} {W W' : World} {A : Option Addr} {n : Nat} {xs : List Int} {row : Option Nat} {p : PEl}
def PcRow (N : Nat) (W : World) (row : Option Nat) : Prop := ∀ r, row = some r → N ≤ r ∧ ∃ cur t fr, W.heap[r]? = some (.cells cur t fr) ∧ t ≠ 3 ∧ t ≠ 56
theorem PcRow.ne_int (h : PcRow N W row) {b : Nat} {cur : Array Value} {fz : Nat × Nat} (hc : W.heap[b]? = some (.cells cur 3 fz)) : some b ≠ row := fun e => by
  obtain ⟨_, cur', t, fr, hr, h1, _⟩ := h b e.symm
  rw [hc] at hr
  cases hr
  exact h1 rfl
theorem PcRow.ne_cond (h : PcRow N W row) {b : Nat} {cur : Array Value} {fz : Nat × Nat} (hc : W.heap[b]? = some (.cells cur 56 fz)) : some b ≠ row := fun e => by
  obtain ⟨_, cur', t, fr, hr, _, h1⟩ := h b e.symm
  rw [hc] at hr
  cases hr
  exact h1 rfl
theorem PcRow.ne_low (h : PcRow N W row) {b : Nat} (hb : b < N) : some b ≠ row := fun e => by
  have := (h b e.symm).1
  omega
theorem RowAny.grownP (h : RowAny N W A n) (hg : W.grownBy W' row) (hr : PcRow N W row) : RowAny N W' A n :=
  h.imp id fun h => h.imp id fun ⟨b, a, hb, cur, hc, hn⟩ => ⟨b, a, hb, cur, (hg.block b (Array.getElem?_eq_some_iff.1 hc).1 (hr.ne_int hc)).trans hc, hn⟩
theorem IntsAt.grownP (h : IntsAt W A n xs) (ho : RowAny N W A n) (hg : W.grownBy W' row) (hr : PcRow N W row) : IntsAt W' A n xs := by
  refine ⟨h.len, h.small, h.wf, fun hn => ?_⟩
  obtain ⟨b, off, hA, hlt, hc⟩ := h.cells hn
  have hne : some b ≠ row := by
    rcases ho with ⟨b', off', hA', hb'⟩ | h0 | ⟨b', hA', _, cur, h1, _⟩
    · rw [hA] at hA'; cases hA'; exact hr.ne_low hb'
    · omega
    · rw [hA] at hA'; cases hA'; exact hr.ne_int h1
  exact ⟨b, off, hA, Nat.lt_of_lt_of_le hlt hg.size, fun j hj => by rw [← hc j hj]; exact World.cell?_of_block (hg.block b hlt hne)⟩
structure PieceAny (N : Nat) (w : World) (p : PEl) : Prop where
  conds : CondsAt w p.A p.n p.els
  row : 0 < p.n → ∃ b off, p.A = some ⟨b, off, none⟩ ∧ (b < N ∨ ∃ cur fr, w.heap[b]? = some (.cells cur 56 fr))
  rows : ∀ e ∈ p.els, RowAny N w e.A e.n
theorem PieceAny.step (h : PieceAny N W p) (hb : Below W.heap.size W W') : PieceAny N W' p :=
  ⟨h.conds.step hb, fun h0 => let ⟨b, off, hA, hx⟩ := h.row h0; ⟨b, off, hA, hx.imp id fun ⟨cur, fr, hc⟩ => ⟨cur, fr, (hb.block b (Array.getElem?_eq_some_iff.1 hc).1).trans hc⟩⟩, fun e he => (h.rows e he).step hb⟩
theorem PieceAny.of_cl3 {N' k c : Nat} {els : List CEl} (h : CL3 N' W (.slice A k c) els) (hr : ∀ e ∈ els, RowAny N W e.A e.n) : PieceAny N W ⟨A, k, c, els⟩ := by
  have hc := h.conds
  refine ⟨by rw [← hc.1] at hc; exact hc.2, fun h0 => ?_, hr⟩
  rcases h.own.2 with ⟨hv, h1⟩ | ⟨g, cap, cur, hv, hg, hcc, _⟩
  · exact absurd h0 (by show ¬ 0 < k; rw [hc.1]; omega)
  · cases hv
    exact ⟨g, 0, rfl, .inr ⟨cur, _, hcc⟩⟩
theorem PieceAny.mono {N' : Nat} (h : PieceAny N W p) (hN : N ≤ N') : PieceAny N' W p :=
  ⟨h.conds, fun h0 => let ⟨b, off, hA, hx⟩ := h.row h0; ⟨b, off, hA, hx.imp (fun h => Nat.lt_of_lt_of_le h hN) id⟩, fun e he => (h.rows e he).mono hN⟩
theorem PieceAny.grown (h : PieceAny N W p) (hg : W.grownBy W' row) (hr : PcRow N W row) : PieceAny N W' p := by
  have hne : 0 < p.n → ∀ b off, p.A = some ⟨b, off, none⟩ → some b ≠ row := fun h0 b off hA => by
    obtain ⟨b', off', hA', hx⟩ := h.row h0
    rw [hA] at hA'
    cases hA'
    rcases hx with hx | ⟨cur, fr, hx⟩
    · exact hr.ne_low hx
    · exact hr.ne_cond hx
  refine ⟨⟨h.conds.len, h.conds.small, fun h0 => ?_, fun e he => (h.conds.ints e he).grownP (h.rows e he) hg hr⟩, fun h0 => ?_, fun e he => (h.rows e he).grownP hg hr⟩
  · obtain ⟨b, off, hA, hlt, hc⟩ := h.conds.cells h0
    have hbk := hg.block b hlt (hne h0 b off hA)
    refine ⟨b, off, hA, Nat.lt_of_lt_of_le hlt hg.size, fun j e he => ?_⟩
    obtain ⟨a0, a1, a2, a3⟩ := hc j e he
    exact ⟨(World.cell?_of_block hbk).trans a0, (World.cell?_of_block hbk).trans a1, (World.cell?_of_block hbk).trans a2, (World.cell?_of_block hbk).trans a3⟩
  · obtain ⟨b, off, hA, hx⟩ := h.row h0
    refine ⟨b, off, hA, hx.imp id fun ⟨cur, fr, hc⟩ => ⟨cur, fr, (hg.block b (Array.getElem?_eq_some_iff.1 hc).1 (hr.ne_cond hc)).trans hc⟩⟩
theorem PieceAny.put {b : Nat} {cs : Array Value} {fz : Nat × Nat} (h : PieceAny N W p) (hb : N ≤ b) (hc : W.heap[b]? = some (.cells cs 24 fz)) (x y : Value) : PieceAny N ((W.setCell ⟨b, 0, none⟩ x).setCell ⟨b, 1, none⟩ y) p := by
  have hg : W.grownBy ((W.setCell ⟨b, 0, none⟩ x).setCell ⟨b, 1, none⟩ y) (some b) :=
    ⟨rfl, rfl, rfl, by simp [World.setCell], fun k _ hk => (Below.heap_setCell _ _ _ k (fun e => hk (by rw [e]))).trans (Below.heap_setCell _ _ _ k (fun e => hk (by rw [e])))⟩
  exact h.grown hg fun r e => by cases e; exact ⟨hb, _, _, _, hc, by decide, by decide⟩
end
structure PL3 (N : Nat) (w : World) (u : Value) (ps : List PEl) : Prop where
  own : w.ownsRow N 34 1 u ps.length (ps.map PEl.v)
  few : ps.length ≤ 4000000000
  ok : ∀ p ∈ ps, PieceAny N w p
section
variable {N : Nat} {w w' : World} {u : Value} {ps : List PEl}
theorem PL3.nil (N : Nat) (w : World) : PL3 N w (.slice none 0 0) [] := ⟨World.ownsRow_nil _ _ _ _, by simp, (fun p h => nomatch h)⟩
theorem PL3.step (h : PL3 N w u ps) (hb : Below w.heap.size w w') : PL3 N w' u ps := ⟨own_step h.own hb, h.few, fun p hp => (h.ok p hp).step hb⟩
theorem PL3.slice (h : PL3 N w u ps) : ∃ A c, u = .slice A ps.length c := by
  rcases h.own.2 with ⟨rfl, h0⟩ | ⟨g, cap, cur, rfl, _⟩
  · rw [h0]; exact ⟨none, 0, rfl⟩
  · exact ⟨_, _, rfl⟩
theorem PL3.pieces (h : PL3 N w u ps) : ∃ A c, u = .slice A ps.length c ∧ PiecesAt w A ps.length ps ∧ (0 < ps.length → ∃ g o, A = some ⟨g, o, none⟩ ∧ N ≤ g) := by
  have hc : ∀ p ∈ ps, CondsAt w p.A p.n p.els := fun p hp => (h.ok p hp).conds
  have hf := h.few
  rcases h.own.2 with ⟨rfl, h0⟩ | ⟨g, cap, cur, rfl, hg, hcc, rest⟩
  · rw [h0]
    exact ⟨none, 0, rfl, ⟨by rw [h0], by omega, fun h' => absurd h' (by omega), hc⟩, fun h' => absurd h' (by omega)⟩
  · refine ⟨_, _, rfl, ⟨rfl, by omega, fun h' => ⟨g, 0, rfl, (Array.getElem?_eq_some_iff.1 hcc).1, fun j p hp => ?_⟩, hc⟩, fun _ => ⟨g, 0, rfl, hg⟩⟩
    have hj : j < ps.length := (List.getElem?_eq_some_iff.1 hp).1
    rw [Nat.zero_add, cell_of_row w g j _ _ (0, 0) hcc]
    have h5 := congrArg (·[j]?) rest.2.2.2
    simp only [List.getElem?_take, List.getElem?_map, hp, Option.map_some] at h5
    rw [if_pos (by omega)] at h5
    simpa [PEl.v] using h5
theorem PL3.typed (h : PL3 N w u ps) : PcRow N w u.ownBlock := fun r e => by
  rcases h.own.2 with ⟨hv, _⟩ | ⟨g, cap, cur, hv, hgN, hc, _⟩
  · rw [hv] at e; cases e
  · rw [hv] at e; cases e; exact ⟨hgN, cur, _, _, hc, by decide, by decide⟩
end
theorem pieces_again {W W' : World} {A : Option Addr} {k : Nat} {ps : List PEl} (h : PiecesAt W A k ps) (hc : ∀ p ∈ ps, CondsAt W' p.A p.n p.els) (hs : W.heap.size ≤ W'.heap.size) (hr : 0 < k → ∀ g o, A = some ⟨g, o, none⟩ → W'.heap[g]? = W.heap[g]?) : PiecesAt W' A k ps :=
  ⟨h.len, h.small, fun h0 => let ⟨b, off, hA, hlt, hx⟩ := h.cells h0; ⟨b, off, hA, Nat.lt_of_lt_of_le hlt hs, fun j p hp => (World.cell?_of_block (hr h0 b off hA)).trans (hx j p hp)⟩, hc⟩
section
variable {ops : Array Oper} {o : Oper} {a : Act} {w : World} {Q : Exit → Act → World → Prop}
end
section
variable {ops : Array Oper} {o : Oper} {a : Act} {w : World} {Q : Exit → Act → World → Prop}
end
structure PM (N g m : Nat) (w : World) (qs : List PEl) : Prop where
  row : w.heap[g]? = some (.cells (qs.map PEl.v ++ List.replicate (m - qs.length) (Value.slice none 0 0)).toArray 34 (0, 0))
  le : qs.length ≤ m
  far : N ≤ g
  ok : ∀ p ∈ qs, PieceAny N w p
section
variable {N g m : Nat} {w w' : World} {qs : List PEl}
theorem PM.lt (h : PM N g m w qs) : g < w.heap.size := (Array.getElem?_eq_some_iff.1 h.row).1
theorem PM.step (h : PM N g m w qs) (hb : Below w.heap.size w w') : PM N g m w' qs := ⟨(hb.block g h.lt).trans h.row, h.le, h.far, fun p hp => (h.ok p hp).step hb⟩
theorem PM.f (h : PM N g m w qs) (j : Nat) : w.frozen? ⟨g, j, none⟩ = false := by simp [World.frozen?, h.row]
theorem PM.has (h : PM N g m w qs) {j : Nat} (hj : j < m) : ∃ v, w.cell? ⟨g, j, none⟩ = some v := by
  rw [cell_of_row w g j _ _ (0, 0) h.row]
  have hle := h.le
  rw [List.getElem?_toArray, List.getElem?_eq_getElem (by simp; omega)]
  exact ⟨_, rfl⟩
theorem PM.put (h : PM N g m w qs) (hl : qs.length < m) {p : PEl} (hp : PieceAny N w p) : PM N g m (w.setCell ⟨g, qs.length, none⟩ p.v) (qs ++ [p]) := by
  have hgr : w.grownBy (w.setCell ⟨g, qs.length, none⟩ p.v) (some g) := ⟨rfl, rfl, rfl, by simp [World.setCell], fun k _ hk => Below.heap_setCell _ _ _ k (fun e => hk (by rw [e]))⟩
  have hty : PcRow N w (some g) := fun r e => by cases e; exact ⟨h.far, _, _, _, h.row, by decide, by decide⟩
  refine ⟨?_, by rw [List.length_append, List.length_singleton]; omega, h.far, fun q hq => ?_⟩
  · simp only [World.setCell]
    rw [Array.getElem?_modify, if_pos rfl, h.row]
    simp only [Option.map_some, Obj.cells.injEq, Option.some.injEq, and_true]
    rw [List.map_append, List.length_append, List.length_singleton, List.map_singleton]
    obtain ⟨k, hk⟩ : ∃ k, m - qs.length = k + 1 := ⟨m - qs.length - 1, by omega⟩
    rw [hk, show m - (qs.length + 1) = k by omega, List.replicate_succ]
    simp [List.set_append_right]
  · rcases List.mem_append.1 hq with hq | hq
    · exact (h.ok q hq).grown hgr hty
    · rw [List.mem_singleton.1 hq]; exact hp.grown hgr hty
theorem PM.pieces (h : PM N g m w qs) (hm : qs.length = m) (hs : m ≤ 17592186044416) : PiecesAt w (some ⟨g, 0, none⟩) m qs := by
  refine ⟨hm, hs, fun _ => ⟨g, 0, rfl, h.lt, fun j p hp => ?_⟩, fun p hp => (h.ok p hp).conds⟩
  have hj := (List.getElem?_eq_some_iff.1 hp).1
  rw [Nat.zero_add, cell_of_row w g j _ _ (0, 0) h.row, List.getElem?_toArray, List.getElem?_append_left (by simpa using hj), List.getElem?_map, hp]
  rfl
end
end Go.Proofs.YtkgnlloioaobiaaGreat
namespace Go.Proofs.YtkgnlloioaobiaaGreat
open Go.RowKit
def chgD (g : List Int → Int → List Int × Int) (d : CD) : CD := ⟨d.q, d.M, (g d.xs d.K).1, (g d.xs d.K).2⟩
structure Chgd (g : List Int → Int → List Int × Int) (els us : List CEl) (j : Nat) : Prop where
  len : us.length = els.length
  done : ∀ t e, t < j → els[t]? = some e → ∃ u, us[t]? = some u ∧ u.d = chgD g e.d
  left : ∀ t, j ≤ t → us[t]? = els[t]?
theorem Chgd.zero (g : List Int → Int → List Int × Int) (els : List CEl) : Chgd g els els 0 := ⟨rfl, fun t e h => absurd h (Nat.not_lt_zero _), fun _ _ => rfl⟩
theorem Chgd.at {g : List Int → Int → List Int × Int} {els us : List CEl} {j : Nat} (h : Chgd g els us j) {e : CEl} (he : els[j]? = some e) : us[j]? = some e := (h.left j (Nat.le_refl _)).trans he
theorem Chgd.step {g : List Int → Int → List Int × Int} {els us : List CEl} {j : Nat} (h : Chgd g els us j) {e : CEl} (he : els[j]? = some e) (A : Option Addr) (n c : Nat) :
    Chgd g els (us.set j (e.withL A n c (g e.xs e.K).2 (g e.xs e.K).1)) (j + 1) := by
  have hj := (List.getElem?_eq_some_iff.1 (h.at he)).1
  refine ⟨by rw [List.length_set]; exact h.len, fun t e' ht he' => ?_, fun t ht => ?_⟩
  · rcases Nat.lt_or_ge t j with hlt | hge
    · obtain ⟨u, hu, hd⟩ := h.done t e' hlt he'
      exact ⟨u, by rw [List.getElem?_set_ne (by omega)]; exact hu, hd⟩
    · obtain rfl : t = j := by omega
      rw [he] at he'
      cases he'
      exact ⟨_, List.getElem?_set_self hj, rfl⟩
  · rw [List.getElem?_set_ne (by omega)]
    exact h.left t (by omega)
theorem Chgd.all {g : List Int → Int → List Int × Int} {els us : List CEl} {m : Nat} (h : Chgd g els us m) (hm : m = els.length) : us.map CEl.d = els.map fun e => chgD g e.d := by
  apply List.ext_getElem?
  intro t
  rcases Nat.lt_or_ge t els.length with ht | ht
  · obtain ⟨u, hu, hd⟩ := h.done t els[t] (by omega) (List.getElem?_eq_getElem ht)
    rw [List.getElem?_map, hu, List.getElem?_map, List.getElem?_eq_getElem ht]
    simp [hd]
  · rw [List.getElem?_eq_none (by simp [h.len]; omega), List.getElem?_eq_none (by simp; omega)]
end Go.Proofs.YtkgnlloioaobiaaGreat
namespace Go.Proofs.YtkgnlloioaobiaaGreat
open Go.RowKit
def LinOwn (w : World) (e : Ending) (w' : World) (ys : List Int) (K : Int) : Prop :=
  ∃ A n c, e = .returned (.agg #[.slice A n c, .int .i64 K]) ∧ IntsAt w' A n ys ∧ Below w.heap.size w w' ∧ (n = 0 ∨ ∃ g, A = some ⟨g, 0, none⟩ ∧ w.heap.size ≤ g ∧ OwnRow w' g n ys)
end Go.Proofs.YtkgnlloioaobiaaGreat
namespace Go.Proofs.YtkgnlloioaobiaaGreat
open Go.RowKit
theorem make_pcs (n : Nat) (hn : n ≤ 1000) (w : World) :
    (Instr.makeSlice 22 (.int .i64 (n : Int)) (.int .i64 (n : Int))).run Tryz.prog w = .ok (.slice (some ⟨w.heap.size, 0, none⟩) n n) (w.alloc (.cells (List.replicate n (Value.slice none 0 0)).toArray 34)) := by
  obtain ⟨i0, hi, hz0, hz1, hz2⟩ := info_parts infoPc
  have h := run_make (P := Tryz.prog) w 22 34 i0 _ Tryz.underlying22 hi hz0 .i64 .i64 (n : Int) (n : Int) (by omega) (by omega) (by rw [hz2]; omega) (by omega)
  rw [h, hz1]
  have e : madeCells (Value.slice none 0 0).cells (n * 1) = (List.replicate n (Value.slice none 0 0)).toArray := by
    apply Array.ext'
    simp [madeCells, Value.cells, Nat.mod_one, List.eq_replicate_iff]
  simp only [Int.toNat_natCast]
  rw [e]
theorem CL3.own_at {N : Nat} {W : World} {A : Option Addr} {m c : Nat} {els : List CEl} (h : CL3 N W (.slice A m c) els) {j : Nat} {e : CEl} (he : els[j]? = some e) :
    ∃ g, A = some ⟨g, 0, none⟩ ∧ N ≤ g ∧ g < W.heap.size ∧ W.cell? ⟨g, j * 4 + 2, none⟩ = some (.slice e.A e.n e.c) ∧ W.cell? ⟨g, j * 4 + 3, none⟩ = some (.int .i64 e.K) ∧ ∀ k, W.frozen? ⟨g, k, none⟩ = false := by
  have hj := (List.getElem?_eq_some_iff.1 he).1
  have hm := h.conds.1
  subst hm
  rcases h.own.2 with ⟨hv, h0⟩ | ⟨g, cap, cur, hv, hN, hc, _⟩
  · omega
  · cases hv
    obtain ⟨a0, a1, a2, a3⟩ := ccells_at els j e he
    refine ⟨g, rfl, hN, (Array.getElem?_eq_some_iff.1 hc).1, ?_, ?_, fun k => by simp [World.frozen?, hc]⟩
    · have := World.ownsRow.cellAt h.own (j * 4 + 2) (by omega); rw [this]; exact a2
    · have := World.ownsRow.cellAt h.own (j * 4 + 3) (by omega); rw [this]; exact a3
structure ChSt (h : Nat) (D dim : Int) (A : Option Addr) (n c : Nat) (qs : List PEl) (W : World) : Prop where
  s : SetBox W h D A n c
  z : SetBox W (h + 1) 0 none 0 0
  t : SetBox W (h + 1 + 1 + 1) dim (some ⟨h + 1 + 1, 0, none⟩) n n
  q : PM 0 (h + 1 + 1) n W qs
section
variable {h : Nat} {D dim : Int} {A : Option Addr} {n c : Nat} {qs : List PEl} {W W' : World}
theorem ChSt.step (H : ChSt h D dim A n c qs W) (hb : Below W.heap.size W W') : ChSt h D dim A n c qs W' := ⟨H.s.step hb, H.z.step hb, H.t.step hb, H.q.step hb⟩
theorem set_keep {b k : Nat} {D : Int} {A : Option Addr} {n c j : Nat} (h : SetBox W k D A n c) (hk : k ≠ b) (v : Value) : SetBox (W.setCell ⟨b, j, none⟩ v) k D A n c := by
  unfold SetBox at h ⊢
  rw [← h]
  exact Below.heap_setCell _ _ _ k hk
theorem ChSt.put (H : ChSt h D dim A n c qs W) (hl : qs.length < n) {p : PEl} (hp : PieceAny 0 W p) : ChSt h D dim A n c (qs ++ [p]) (W.setCell ⟨h + 1 + 1, qs.length, none⟩ p.v) :=
  ⟨set_keep H.s (by omega) _, set_keep H.z (by omega) _, set_keep H.t (by omega) _, H.q.put hl hp⟩
end
def Typed (us : List CEl) (j : Nat) (W : World) : Prop := ∀ t e, t < j → us[t]? = some e → RowAny 0 W e.A e.n
theorem Typed.step {us : List CEl} {j : Nat} {W W' : World} (h : Typed us j W) (hb : Below W.heap.size W W') : Typed us j W' := fun t e ht he => (h t e ht he).step hb
theorem Typed.put {us : List CEl} {j N g m c : Nat} {W W' : World} (h : Typed us j W) (hL : CL3 N W (.slice (some ⟨g, 0, none⟩) m c) us) (hg : W.grownBy W' (some g)) {u : CEl} (hr : RowAny 0 W u.A u.n) : Typed (us.set j u) (j + 1) W' := by
  have hty : ∀ r, some g = some r → 0 ≤ r ∧ ∃ cur fr, W.heap[r]? = some (.cells cur 56 fr) := fun r e => ⟨Nat.zero_le _, (hL.typed r (by rw [← e]; rfl)).2⟩
  intro t e ht he
  rcases Nat.lt_or_ge t j with hlt | hge
  · rw [List.getElem?_set_ne (by omega)] at he
    exact (h t e hlt he).grown hg hty
  · obtain rfl : t = j := by omega
    have hl : t < us.length := by
      have := (List.getElem?_eq_some_iff.1 he).1
      rwa [List.length_set] at this
    rw [List.getElem?_set_self hl] at he
    cases he
    exact hr.grown hg hty
def ChangedRet (w : World) (e : Ending) (w' : World) (D : Int) (n : Nat) (L : List (List CD)) : Prop :=
  ∃ g qs, e = .returned (setV D (some ⟨g, 0, none⟩) n n) ∧ PiecesAt w' (some ⟨g, 0, none⟩) n qs ∧ (∀ p ∈ qs, PieceAny 0 w' p) ∧ qs.map PEl.dat = L ∧ w.heap.size ≤ g ∧ Below w.heap.size w w'
set_option maxHeartbeats 8000000 in
theorem set_changed (D : Int) (A : Option Addr) (n c : Nat) (ps : List PEl) (dim : Int) (gf : FuncId) (lb : Array Value) (g : List Int → Int → List Int × Int) (hent : Enters Tryz.prog gf) (w : World) (P : PiecesAt w A n ps) (hn : n ≤ 1000) (hm : ∀ p ∈ ps, p.n ≤ 1000)
    (hf : ∀ W, Below w.heap.size w W → ∀ p ∈ ps, ∀ e ∈ p.els, Calls Tryz.prog gf (#[.agg #[.slice e.A e.n e.c, .int .i64 e.K]] ++ lb) W fun x W' => LinOwn W x W' (g e.xs e.K).1 (g e.xs e.K).2) :
    Calls Tryz.prog 60 #[setV D A n c, .int .i64 dim, .func (.func gf) #[] lb] w fun e w' => ChangedRet w e w' dim n (ps.map fun p => p.dat.map (chgD g)) := by
  have hmk := make_pcs n hn
  have hgo : ∀ (args : Array Value) (w : World), (callFunc gf args).run Tryz.prog w = .ok (.enter gf args) w := hent
  clear hent
  have HF := Lib.hid hf
  have HM := Lib.hid hm
  have HL := Lib.hid P.len
  have hB := below_step (below_step (below_step (below_alloc w (.cells #[.int .i64 D, .slice A n c] 24)) (below_alloc _ (.cells #[.int .i64 0, .slice none 0 0] 24))) (below_alloc _ (.cells (Array.replicate n (Value.slice none 0 0)) 34))) (below_alloc _ (.cells #[.int .i64 dim, .slice (some ⟨w.heap.size + 1 + 1, 0, none⟩) n n] 24))
  have S0 : ChSt w.heap.size D dim A n c [] ((((w.alloc (.cells #[.int .i64 D, .slice A n c] 24)).alloc (.cells #[.int .i64 0, .slice none 0 0] 24)).alloc (.cells (Array.replicate n (Value.slice none 0 0)) 34)).alloc (.cells #[.int .i64 dim, .slice (some ⟨w.heap.size + 1 + 1, 0, none⟩) n n] 24)) := by
    have X1 := (((SetBox.new w D A n c).alloc (.cells #[.int .i64 0, .slice none 0 0] 24)).alloc (.cells (Array.replicate n (Value.slice none 0 0)) 34)).alloc (.cells #[.int .i64 dim, .slice (some ⟨w.heap.size + 1 + 1, 0, none⟩) n n] 24)
    have X2 := ((SetBox.new (w.alloc (.cells #[.int .i64 D, .slice A n c] 24)) 0 none 0 0).alloc (.cells (Array.replicate n (Value.slice none 0 0)) 34)).alloc (.cells #[.int .i64 dim, .slice (some ⟨w.heap.size + 1 + 1, 0, none⟩) n n] 24)
    have X4 := SetBox.new (((w.alloc (.cells #[.int .i64 D, .slice A n c] 24)).alloc (.cells #[.int .i64 0, .slice none 0 0] 24)).alloc (.cells (Array.replicate n (Value.slice none 0 0)) 34)) dim (some ⟨w.heap.size + 1 + 1, 0, none⟩) n n
    have X3 := heap_alloc_new ((w.alloc (.cells #[.int .i64 D, .slice A n c] 24)).alloc (.cells #[.int .i64 0, .slice none 0 0] 24)) (.cells (Array.replicate n (Value.slice none 0 0)) 34)
    simp only [World.size_alloc] at X2 X3 X4
    exact ⟨X1, X2, X4, ⟨(Below.heap_alloc _ _ _ (by simp)).trans (by simpa using X3), Nat.zero_le _, Nat.zero_le _, (fun p h => nomatch h)⟩⟩
  have x0 := S0.s.c0
  have x1 := S0.s.c1
  clear hf hm
  go_enter Tryz.func60, Tryz.ntmps60
  go_wp2
  generalize hw0 : (((w.alloc (.cells #[.int .i64 D, .slice A n c] 24)).alloc (.cells #[.int .i64 0, .slice none 0 0] 24)).alloc (.cells (Array.replicate n (Value.slice none 0 0)) 34)).alloc (.cells #[.int .i64 dim, .slice (some ⟨w.heap.size + 1 + 1, 0, none⟩) n n] 24) = w0 at *
  clear hw0 x0 x1
  go_loopw [22] (fun v wr => ∃ (i : Nat) (qs : List PEl), i ≤ n ∧ v = .int .i64 i ∧ Hid (qs.length = i) ∧ ChSt w.heap.size D dim A n c qs wr ∧ Hid (qs.map PEl.dat = (ps.take i).map fun p => p.dat.map (chgD g)) ∧ Below w.heap.size w wr) (fun v _ => n - (intOf v).toNat)
  case atStart => exact ⟨0, [], Nat.zero_le _, rfl, Lib.hid rfl, S0, Lib.hid (by simp), hB⟩
  case round =>
    clear S0 hB
    obtain ⟨i, qs, hi, rfl, HQ, S1, HD, hbr⟩ := hrel
    by_cases hlt : i < n
    · obtain ⟨b, off, p, rfl, hblt, hpj, hmem, hcell, hCp⟩ := (P.step hbr).at hlt
      have HPJ := Lib.hid hpj
      have HPM := Lib.hid hmem
      have hpm := HM.out p hmem
      obtain ⟨pA, pn, pc, pels⟩ := p
      simp only at hcell hCp hpm
      have hq1 : (i : Int) < n := by omega
      have HW := Lib.hid hbr.size
      clear hpj hmem
      go_wp2_with (go_at_call 86; refine (any_clone pA pn pc pels _ hCp hpm).mono ?_; rintro e w1 ⟨qA, qc, rfl, L1, hb1⟩)
      have HS1 := Lib.hid (fun W (hb : Below wr.heap.size w1 W) => S1.step (hb1.trans hb))
      have hb1' := hbr.trans (hb1.mono HW.out)
      have HPL := Lib.hid hCp.len
      have HS0 := Lib.hid hb1.size
      obtain ⟨N, hN⟩ : ∃ N, wr.heap.size = N := ⟨_, rfl⟩
      rw [hN] at L1 HW HS0 HS1
      clear hN
      generalize hw1 : w1 = w1' at *
      clear hw1 hb1 hcell hCp hblt S1
      go_loopw [31] (fun v wt => ∃ (j : Nat) (us : List CEl), j ≤ pn ∧ v = .int .i64 j ∧ CL3 N wt (.slice qA pels.length qc) us ∧ Hid (Chgd g pels us j) ∧ Typed us j wt ∧ Below N w1' wt) (fun v _ => pn - (intOf v).toNat)
      case atStart => exact ⟨0, pels, Nat.zero_le _, rfl, L1, Lib.hid (Chgd.zero g pels), (fun t e h => absurd h (Nat.not_lt_zero _)), Below.refl _ _⟩
      case round =>
        obtain ⟨j, us, hj, rfl, L2, HC, HT, hbt⟩ := hrel
        clear L1
        by_cases hlt2 : j < pn
        · have hbw := hb1'.trans (hbt.mono HW.out)
          obtain ⟨b2, off2, e, hpA, hb2lt, hej, hem, hcs, hin⟩ := ((P.conds _ HPM.out).step hbw).at hlt2
          have hpA : pA = some ⟨b2, off2, none⟩ := hpA
          subst hpA
          obtain ⟨x0, x1, x2, x3⟩ := hcs
          have HEJ := Lib.hid (show pels[j]? = some e from hej)
          have HUE := Lib.hid (HC.out.at HEJ.out)
          have HCN := Lib.hid (fun A n c => HC.out.step HEJ.out A n c)
          obtain ⟨g2, hqA, hgN, hglt, k2, k3, hfz⟩ := L2.own_at HUE.out
          subst hqA
          have b5 := below_alloc wr (.cells #[.int .i64 e.q, .int .i64 e.M, .slice e.A e.n e.c, .int .i64 e.K] 56)
          have X1 := CBox.new wr e.q e.M e.A e.n e.c e.K
          have HFN := Lib.hid (HF.out _ (hbw.trans (b5.mono hbw.size)) _ HPM.out e hem)
          have L3 := L2.step b5
          have T3 := HT.step b5
          have hbt2 := hbt.trans (b5.mono (by have := hbt.size; have := HS0.out; omega))
          obtain ⟨eq, eM, eA, en, ec, eK, exs⟩ := e
          simp only at x0 x1 x2 x3 k2 k3 X1 b5 HFN HCN L3 T3 hbt2
          have hq2 : (j : Int) < pn := by omega
          have hq3 : (j : Int) < (pels.length : Nat) := by rw [HPL.out]; exact hq2
          have c2 := X1.c2
          have c3 := X1.c3
          clear hej hem hin L2 HT k2 k3 hfz hlt2 b5
          go_wp2_with (go_at_fn gf; refine HFN.out.mono ?_; rintro e w3 ⟨A3, n3, c3', rfl, I3, hb3, hf3⟩; have L4 := L3.step hb3; have T4 := T3.step hb3; obtain ⟨g4, hg4, hgN4, hglt4, k2, k3, hfz⟩ := L4.own_at HUE.out; cases hg4; have f2 := hfz (j * 4 + 2); have f3 := hfz (j * 4 + 3); clear x0 x1 x2 x3 c2 c3)
          have hrn : RowAny 0 w3 A3 n3 := .inr (hf3.imp id fun ⟨g', hA, hg, O⟩ => ⟨g', hA, Nat.zero_le _, let ⟨_, cur, hc, hn, _⟩ := O; ⟨cur, hc, hn⟩⟩)
          have L5 := L4.setL HUE.out A3 n3 c3' (g exs eK).2 (g exs eK).1 I3 (hrn.mono (Nat.zero_le _))
          have T5 := T4.put (u := (⟨eq, eM, eA, en, ec, eK, exs⟩ : CEl).withL A3 n3 c3' (g exs eK).2 (g exs eK).1) L4 (grown_set2 w3 g2 (j * 4 + 2) (j * 4 + 3) (.slice A3 n3 c3') (.int .i64 (g exs eK).2)) hrn
          have hb6 := ((hbt2.trans (hb3.mono (by have := hbt2.size; have := HS0.out; omega))).setCell (p := ⟨g2, j * 4 + 2, none⟩) (by show N ≤ g2; omega) (.slice A3 n3 c3')).setCell (p := ⟨g2, j * 4 + 3, none⟩) (by show N ≤ g2; omega) (.int .i64 (g exs eK).2)
          go_roundw
          case rel => exact ⟨j + 1, _, by omega, by go_num, L5, Lib.hid (HCN.out _ _ _), T5, hb6⟩
          case measure => simp [intOf]; omega
        · obtain rfl : j = pn := by omega
          have S3 := HS1.out _ hbt
          have HCA := Lib.hid (HC.out.all HPL.out.symm)
          have HLU := Lib.hid HC.out.len
          have hrow : ∀ e ∈ us, RowAny 0 wr e.A e.n := fun e he => by
            obtain ⟨t, ht, rfl⟩ := List.getElem_of_mem he
            exact (HT t _ (by have := HLU.out; have := HPL.out; omega) (List.getElem?_eq_getElem ht))
          have hpc := PieceAny.of_cl3 L2 hrow
          have hlq : qs.length < n := by have := HQ.out; omega
          have S4 := S3.put hlq hpc
          have k0 := S3.t.c1
          obtain ⟨v0, k1⟩ := S3.q.has hlt
          have f1 := S3.q.f i
          have hbw := (hb1'.trans (hbt.mono HW.out)).setCell (p := ⟨w.heap.size + 1 + 1, i, none⟩) (by show w.heap.size ≤ w.heap.size + 1 + 1; omega) (.slice qA pels.length qc)
          have HDN := Lib.hid (show (qs ++ [(⟨qA, pels.length, qc, us⟩ : PEl)]).map PEl.dat = (ps.take (i + 1)).map fun p => p.dat.map (chgD g) by
            rw [List.map_append, HD.out, List.take_succ_eq_append_getElem (by have := HL.out; omega), List.map_append]
            have h9 := (List.getElem?_eq_some_iff.1 HPJ.out).2
            rw [List.map_singleton, List.map_singleton, h9]
            show _ ++ [us.map CEl.d] = _ ++ [(pels.map CEl.d).map (chgD g)]
            rw [HCA.out, List.map_map]
            rfl)
          have HQN := Lib.hid (show (qs ++ [(⟨qA, pels.length, qc, us⟩ : PEl)]).length = i + 1 by rw [List.length_append, HQ.out]; rfl)
          rw [HQ.out] at S4
          clear S3 hrow hpc hlq
          go_wp2
          go_roundw
          case rel => exact ⟨i + 1, _, by omega, by go_num, HQN, S4, HDN, hbw⟩
          case measure => simp [intOf]; omega
    · obtain rfl : i = n := by omega
      have z0 := S1.z.c0
      have z1 := S1.z.c1
      have f0 := S1.z.f 0
      have f1 := S1.z.f 1
      have t0 := S1.t.c0
      have t1 := S1.t.c1
      have HP := Lib.hid (S1.q.pieces HQ.out (by omega))
      have HOK := Lib.hid S1.q.ok
      have HTK := Lib.hid (show ps.take i = ps from List.take_of_length_le (by rw [HL.out]; exact Nat.le_refl _))
      have h9 := S1.z
      have h8 : ∀ p ∈ qs, PieceAny 0 ((wr.setCell ⟨w.heap.size + 1, 0, none⟩ (.int .i64 dim)).setCell ⟨w.heap.size + 1, 1, none⟩ (.slice (some ⟨w.heap.size + 1 + 1, 0, none⟩) i i)) p := fun p hp => (HOK.out p hp).put (by omega) h9 _ _
      have h7 := pieces_again HP.out (fun p hp => (h8 p hp).conds) (by simp [World.setCell]) (fun _ g' o hA => by cases hA; exact put_other (by omega) _ _)
      have h6 := h9.put dim (some ⟨w.heap.size + 1 + 1, 0, none⟩) i i
      have h5 := hbr.trans (below_put (w := wr) (N := w.heap.size) (b := w.heap.size + 1) (by omega) (.int .i64 dim) (.slice (some ⟨w.heap.size + 1 + 1, 0, none⟩) i i))
      have HX := Lib.hid (And.intro h8 (And.intro h7 h5))
      have v0 := h6.c0
      have v1 := h6.c1
      clear h9 h8 h7 h6 h5
      go_wp2
      refine bodyPost_ret (v := setV dim (some ⟨w.heap.size + 1 + 1, 0, none⟩) i i) (by simp [results, Tryz.results60, go_sem, v0, v1]) rfl ?_
      exact ⟨_, qs, rfl, HX.out.2.1, HX.out.1, by rw [HD.out, HTK.out], by omega, HX.out.2.2⟩
end Go.Proofs.YtkgnlloioaobiaaGreat
namespace Go.Proofs.YtkgnlloioaobiaaGreat
open Go.RowKit
def OBox (w : World) (b : Nat) (O : Option Addr) (n c : Nat) : Prop := w.heap[b]? = some (.cells #[.slice O n c] 38 (0, 0))
theorem OBox.lt {w : World} {b : Nat} {O : Option Addr} {n c : Nat} (h : OBox w b O n c) : b < w.heap.size := (Array.getElem?_eq_some_iff.1 h).1
theorem OBox.step {w w' : World} {b : Nat} {O : Option Addr} {n c : Nat} (h : OBox w b O n c) (hb : Below w.heap.size w w') : OBox w' b O n c := (hb.block b h.lt).trans h
theorem OBox.c {w : World} {b : Nat} {O : Option Addr} {n c : Nat} (h : OBox w b O n c) : w.cell? ⟨b, 0, none⟩ = some (.slice O n c) := by rw [cell_of_row w b 0 _ _ (0, 0) h]; rfl
end Go.Proofs.YtkgnlloioaobiaaGreat
namespace Go.Proofs.YtkgnlloioaobiaaGreat
open Go.RowKit Go.Shelf
theorem valid_els {D : Int} {ps : List PEl} (h : validS D ps = true) : (0 ≤ D ∧ D ≤ 12 ∧ ps.length ≤ 400) ∧ ∀ p ∈ ps, p.els.length ≤ 96 ∧ ∀ e ∈ p.els, validC e.q e.M e.xs e.K = true ∧ (e.n : Int) = D := by
  refine ⟨(valid_parts h).1, fun p hp => ⟨((valid_parts h).2 p hp).2, fun e he => ?_⟩⟩
  unfold validS at h
  rw [Bool.and_eq_true] at h
  have h2 := List.all_eq_true.1 h.2 p hp
  unfold pieceOk at h2
  rw [Bool.and_eq_true] at h2
  have h3 := of_decide_eq_true h2.2
  unfold condsE at h3
  split at h3
  · rename_i hok
    split at h3
    · rename_i hdim
      exact ⟨List.all_eq_true.1 hok e he, by simpa using List.all_eq_true.1 hdim e he⟩
    · omega
  · omega
theorem valid_lin {q M K : Int} {xs : List Int} (h : validC q M xs K = true) : validB xs K = true := (validC_kind h).1
end Go.Proofs.YtkgnlloioaobiaaGreat
namespace Go.Proofs.YtkgnlloioaobiaaGreat
open Go.RowKit
set_option maxHeartbeats 2000000 in
theorem fix_fn (b off n c : Nat) (K : Int) (xs : List Int) (i bi bv : Nat) (v : Int) (w : World) (hI : IntsAt w (some ⟨b, off, none⟩) n xs) (hbl : b < w.heap.size) (hcs : ∀ j, j < n → w.cell? ⟨b, off + j, none⟩ = some (.int .i64 (xs[j]?.getD 0))) (hnc : n ≤ c) (hc63 : c ≤ 9223372036854775807)
    (hle12 : n ≤ 12) (hi : i < n) (Bi : IBox w bi i) (Bv : IBox w bv v) (hw1 : IntKind.i64.wrap (xs[i]?.getD 0 * v) = xs[i]?.getD 0 * v) (hw2 : IntKind.i64.wrap (K + xs[i]?.getD 0 * v) = K + xs[i]?.getD 0 * v) :
    Calls Tryz.prog 61 #[.agg #[.slice (some ⟨b, off, none⟩) n c, .int .i64 K], .pointer (some ⟨bi, 0, none⟩), .pointer (some ⟨bv, 0, none⟩)] w fun e w' => LinOwn w e w' (xs.eraseIdx i) (K + xs[i]?.getD 0 * v) := by
  have hsm := hI.small
  have B1 := (LBox.new w (some ⟨b, off, none⟩) n c K).alloc (.cells #[.slice none 0 0, .int .i64 0] 54)
  have B2 := LBox.new (w.alloc (.cells #[.slice (some ⟨b, off, none⟩) n c, .int .i64 K] 54)) none 0 0 0
  have hB := below_step (below_alloc w (.cells #[.slice (some ⟨b, off, none⟩) n c, .int .i64 K] 54)) (below_alloc _ (.cells #[.slice none 0 0, .int .i64 0] 54))
  have h1 := hI.step hB
  have gi := Bi.lt
  have gv := Bv.lt
  replace Bi := Bi.step hB
  replace Bv := Bv.step hB
  have ci := Bi.c
  have cv := Bv.c
  rw [World.size_alloc] at B2
  have hx := (hB.cell (p := ⟨b, off + i, none⟩) hbl).trans (hcs i hi)
  have HC := Lib.hid hcs
  have hi1 : (i : Int) < n := by omega
  have hi2 : (i : Int) ≤ c := by omega
  have s1 : IntKind.i64.wrap ((i : Int) + 1) = (i : Int) + 1 := IntWalk.i64_in _ (by omega)
  have s2 : (0 : Int) ≤ (i : Int) + 1 := by omega
  have s3 : ((i : Int) + 1).toNat = i + 1 := by omega
  have s4 : (i : Int) + 1 ≤ n := by omega
  have s5 : (i : Int) + 1 ≤ c := by omega
  have s6 : (n : Int) ≤ c := by omega
  clear hcs hI
  have c10 := B1.c0
  have c11 := B1.c1
  go_enter Tryz.func61, Tryz.ntmps61
  go_wp2
  generalize hw0 : (w.alloc (.cells #[.slice (some ⟨b, off, none⟩) n c, .int .i64 K] 54)).alloc (.cells #[.slice none 0 0, .int .i64 0] 54) = w1 at *
  clear hw0
  have l2 := B2.lt
  have HA := Lib.hid (fun j (hj : j < n) => (hB.cell (p := ⟨b, off + j, none⟩) hbl).trans (HC.out j hj))
  have l0 : w.heap.size < w1.heap.size := by omega
  have li := Bi.lt
  have lv := Bv.lt
  have n0 : w.heap.size + 1 ≠ w.heap.size := by omega
  have n1 : w.heap.size + 1 ≠ bi := by omega
  have n2 : w.heap.size + 1 ≠ bv := by omega
  have n3 : w.heap.size + 1 ≠ b := by omega
  have hbl1 : b < w1.heap.size := by omega
  obtain ⟨Q, hQ⟩ : ∃ Q, (if c = i + 1 then some (⟨b, off, none⟩ : Addr) else some ⟨b, off + (i + 1), none⟩) = Q := ⟨_, rfl⟩
  have ct := ((concat_in w1.heap.size 0 2 2 (cutP b off n c i xs) _ (cut_parts h1.len hsm h1.wf hbl1 HA.out hi hnc) (by simp) (by omega) (by rw [cut_tot hi]; have := h1.len; omega)).mono
    (R' := fun e w2 => ∃ A5 c5, e = .returned (.slice A5 (n - 1) c5) ∧ IntsAt w2 A5 (n - 1) (xs.eraseIdx i) ∧ Below w1.heap.size (w1.alloc (.cells #[.slice (some ⟨b, off, none⟩) i c, .slice (if c = i + 1 then some ⟨b, off, none⟩ else some ⟨b, off + (i + 1), none⟩) (n - (i + 1)) (c - (i + 1))] 38)).drew w2 ∧ (n - 1 = 0 ∨ ∃ g, A5 = some ⟨g, 0, none⟩ ∧ w1.heap.size ≤ g ∧ OwnRow w2 g (n - 1) (xs.eraseIdx i))) (by
      rintro e w2 ⟨v, rfl, hv2, hb2⟩
      rw [cut_tot hi, cut_cat] at hv2
      have hb3 := hb2.mono (show w1.heap.size ≤ (w1.alloc _).heap.size by simp)
      rcases hv2 with ⟨rfl, h0⟩ | ⟨g, cap, rfl, hg, hr, hcap⟩
      · refine ⟨none, 0, by rw [h0], ?_, hb3, .inl h0⟩
        have h9 : (xs.eraseIdx i).length = n - 1 := by rw [List.length_eraseIdx, if_pos (by rw [h1.len]; exact hi), h1.len]
        rw [h0] at h9 ⊢
        rw [List.eq_nil_of_length_eq_zero h9]
        exact ints_nil _ _
      · refine ⟨some ⟨g, 0, none⟩, cap, rfl, hr.ints (by omega) (fun x hx => h1.wf x (List.mem_of_mem_eraseIdx hx)), hb3, .inr ⟨g, rfl, ?_, hr⟩⟩
        have : (w1.alloc _).heap.size ≤ g := hg
        simp at this
        omega))
  rw [hQ] at ct
  have CT := Lib.hid ct
  clear ct
  go_region_held3 (fun W => W.cell? ⟨w.heap.size, 0, none⟩ = some (.slice (some ⟨b, off, none⟩) n c) ∧ W.cell? ⟨w.heap.size, 1, none⟩ = some (.int .i64 K) ∧ W.cell? ⟨bi, 0, none⟩ = some (.int .i64 i) ∧ W.cell? ⟨bv, 0, none⟩ = some (.int .i64 v) ∧ W.cell? ⟨b, off + i, none⟩ = some (.int .i64 (xs[i]?.getD 0))) (go_keep)
    (first | (go_at_call 62; refine CT.out.mono ?_; rintro e w2 ⟨A5, c5, rfl, I5, hb2, hf5⟩; have hb2' := (below_step0 hb2 : Below w1.heap.size w1 w2); have k0 := (hb2'.cell (p := ⟨w.heap.size, 0, none⟩) l0).trans c10; have k1 := (hb2'.cell (p := ⟨w.heap.size, 1, none⟩) l0).trans c11; have k2 := (hb2'.cell (p := ⟨bi, 0, none⟩) li).trans ci; have k3 := (hb2'.cell (p := ⟨bv, 0, none⟩) lv).trans cv; have k4 := (hb2'.cell (p := ⟨b, off + i, none⟩) hbl1).trans hx; have B4 := B2.step hb2'; have c40 := B4.c0; have c41 := B4.c1; have f40 := B4.f 0; have f41 := B4.f 1))
  have c50 := B4.s0 (.slice A5 (n - 1) c5)
  have c51 := (B4.store A5 (n - 1) c5 (K + xs[i]?.getD 0 * v)).c1
  have hf6 : n - 1 = 0 ∨ ∃ g, A5 = some ⟨g, 0, none⟩ ∧ w.heap.size + 1 < g ∧ OwnRow w2 g (n - 1) (xs.eraseIdx i) := hf5.imp id (fun ⟨g, h, h', ho⟩ => ⟨g, h, by omega, ho⟩)
  have hEnd := below_step hB hb2'
  clear k0 k1 k2 k3 k4 c10 c11 hx n0 n1 n2 n3 s1 s2 s3 s4 s5 s6 hQ
  go_wp2
  refine bodyPost_ret (v := .agg #[.slice A5 (n - 1) c5, .int .i64 (K + xs[i]?.getD 0 * v)]) (by simp [results, Tryz.results61, go_sem, c50, c51]) rfl ?_
  exact ⟨A5, n - 1, c5, rfl, ints_far I5 (hf6.imp id (fun ⟨g, h, h', _⟩ => ⟨g, h, by omega⟩)) _ _, below_store2 hEnd (by omega) _ _, hf6.imp id (fun ⟨g, h, h', ho⟩ => ⟨g, h, by omega, ho.store2 (by omega) _ _⟩)⟩
theorem fix_fn_c (A : Option Addr) (n c : Nat) (K : Int) (xs : List Int) (i bi bv : Nat) (v : Int) (w : World) (hC : CapOf A n c) (hI : IntsAt w A n xs)
    (hle12 : n ≤ 12) (hi : i < n) (Bi : IBox w bi i) (Bv : IBox w bv v) (hw1 : IntKind.i64.wrap (xs[i]?.getD 0 * v) = xs[i]?.getD 0 * v) (hw2 : IntKind.i64.wrap (K + xs[i]?.getD 0 * v) = K + xs[i]?.getD 0 * v) :
    Calls Tryz.prog 61 #[.agg #[.slice A n c, .int .i64 K], .pointer (some ⟨bi, 0, none⟩), .pointer (some ⟨bv, 0, none⟩)] w fun e w' => LinOwn w e w' (xs.eraseIdx i) (K + xs[i]?.getD 0 * v) := by
  obtain ⟨b, off, rfl, hlt, hc⟩ := hI.cells (by omega)
  exact fix_fn b off n c K xs i bi bv v w hI hlt hc hC.2.1 (by have := hC.2.2; omega) hle12 hi Bi Bv hw1 hw2
end Go.Proofs.YtkgnlloioaobiaaGreat
namespace Go.Proofs.YtkgnlloioaobiaaGreat
open Go.RowKit
theorem set_coord (x : Int) (w : World) : Calls Tryz.prog 59 #[.int .i64 x] w fun e w' => e = .returned (.bool (coordB x)) ∧ w = w' := by
  have HB : coordB x = true ↔ _ := coordB_true
  rcases (show x < -4294967296 ∨ 4294967296 < x ∨ (-4294967296 ≤ x ∧ x ≤ 4294967296) by omega) with h | h | ⟨h, h'⟩
  · have HE := Lib.hid (show coordB x = false by rw [Bool.eq_false_iff]; intro hc; have := HB.1 hc; omega)
    have h1 : ¬ (-4294967296 ≤ x) := by omega
    clear HB
    go_enter Tryz.func59, Tryz.ntmps59
    go_wp2
    go_ret
    exact ⟨ret_bool HE.out.symm, rfl⟩
  · have HE := Lib.hid (show coordB x = false by rw [Bool.eq_false_iff]; intro hc; have := HB.1 hc; omega)
    have h1 : (-4294967296 ≤ x) := by omega
    have h2 : ¬ (x ≤ 4294967296) := by omega
    clear HB
    go_enter Tryz.func59, Tryz.ntmps59
    go_wp2
    go_ret
    exact ⟨ret_bool HE.out.symm, rfl⟩
  · have HE := Lib.hid (show coordB x = true from HB.2 ⟨h, h'⟩)
    clear HB
    go_enter Tryz.func59, Tryz.ntmps59
    go_wp2
    go_ret
    exact ⟨ret_bool HE.out.symm, rfl⟩
set_option maxHeartbeats 4000000 in
theorem set_has (D : Int) (A : Option Addr) (n c : Nat) (ps : List PEl) (A' : Option Addr) (k c' : Nat) (xs : List Int) (w : World) (h : PiecesAt w A n ps) (hI : IntsAt w A' k xs) :
    Calls Tryz.prog 24 #[setV D A n c, .slice A' k c'] w fun e w' => e = .returned (.tuple #[.bool (sVal D ps xs), .int .i64 (sErr D ps xs)]) ∧ Below w.heap.size w w' := by
  have hB := below_alloc w (.cells #[.int .i64 D, .slice A n c] 24)
  have P0 := h.step hB
  have I2 := hI.step hB
  have B1 := SetBox.new w D A n c
  have c0 := B1.c0
  have c1 := B1.c1
  have hl := hI.len
  have hsm := hI.small
  have hsm2 := h.small
  have HLn := Lib.hid h.len
  clear h hI
  cases hv : validS D ps
  · have HE := Lib.hid (sv_inv (xs := xs) hv)
    have HV := Lib.hid hv
    clear hv hl
    go_enter Tryz.func24, Tryz.ntmps24
    go_wp2
    go_step3
    go_wp2_with (go_at_call 43; refine (set_valid _ _ _ _ ps _ P0).mono ?_; rintro e w1 ⟨rfl, hb⟩; rw [HV.out]; replace hB := below_step hB hb)
    try rw [Exit.noGoto_ret]
    go_ret2
    exact ⟨retB HE.out.1.symm HE.out.2.symm, hB⟩
  · have HV := Lib.hid hv
    by_cases hd : (k : Int) = D
    · have hd2 : (xs.length : Int) = D := by omega
      have HS6 := Lib.hid (fun h : pointB xs = false => sv_range hv hd2 h)
      have HS0 := Lib.hid (fun h : pointB xs = true => sv_ok hv hd2 h)
      have HL := Lib.hid hl
      subst hd
      clear hv hl hd2
      go_enter Tryz.func24, Tryz.ntmps24
      go_wp2
      go_step3
      go_wp2_with (go_at_call 43; refine (set_valid _ _ _ _ ps _ P0).mono ?_; rintro e w1 ⟨rfl, hb⟩; rw [HV.out]; replace hB := below_step hB hb; replace P0 := P0.step hb; replace I2 := I2.step hb; replace B1 := B1.step hb; have c0 := B1.c0; have c1 := B1.c1)
      go_loop [24] (fun v => ∃ i : Nat, i ≤ k ∧ v = .int .i64 i ∧ ∀ j, j < i → coordB (xs[j]?.getD 0) = true) (fun v => k - (intOf v).toNat)
      case atStart => exact ⟨0, Nat.zero_le _, rfl, fun j hj => absurd hj (by omega)⟩
      case round =>
        obtain ⟨i, hi, rfl, hg⟩ := hrel
        have HG := Lib.hid hg
        clear hg
        by_cases hlt : i < k
        · have hmem := I2.mem hlt
          obtain ⟨b, off, rfl, hbl, hc⟩ := I2.cells (by omega)
          have hcell := hc i hlt
          clear hc
          cases hx : coordB (xs[i]?.getD 0)
          · have HE := Lib.hid (HS6.out (by
              rw [Bool.eq_false_iff]; intro h'; have := List.all_eq_true.1 h' _ hmem; rw [hx] at this; cases this))
            have HX := Lib.hid hx
            clear hmem hx
            go_wp2_with (go_at_call 59; refine (set_coord _ _).mono ?_; rintro e w' ⟨rfl, rfl⟩; rw [HX.out])
            try rw [Exit.noGoto_ret]
            go_ret2
            exact ⟨retB HE.out.1.symm HE.out.2.symm, hB⟩
          · have HX := Lib.hid hx
            clear hmem hx
            go_wp2_with (go_at_call 59; refine (set_coord _ _).mono ?_; rintro e w' ⟨rfl, rfl⟩; rw [HX.out])
            go_round
            case rel => exact ⟨i + 1, by omega, by go_num, fun j hj => by
              rcases Nat.lt_or_eq_of_le (Nat.le_of_lt_succ hj) with h1 | h1
              · exact HG.out j h1
              · exact h1 ▸ HX.out⟩
            case measure => simp [intOf]; omega
        · obtain rfl : i = k := by omega
          have hp : pointB xs = true := List.all_eq_true.2 ((all_getD (p := fun x => coordB x = true)).2 fun j hj => HG.out j (by have := HL.out; omega))
          have HE := Lib.hid (HS0.out hp)
          obtain ⟨hs, hhs⟩ : ∃ hs, hasS xs ps = hs := ⟨_, rfl⟩
          rw [hhs] at HE
          have HH := Lib.hid hhs
          clear hhs hp HS0 HS6 HG
          go_wp2
          go_step3
          go_wp2
          go_loopg [35] n (fun g s wx => ∃ i : Nat, i + g = n ∧ s = .int .i64 i ∧ (∀ j x, j < i → ps[j]? = some x → hasP xs x.els = false) ∧ Below w1.heap.size w1 wx)
          case atStart => exact ⟨0, by omega, rfl, (fun j x h => absurd h (by omega)), Below.refl _ _⟩
          case round =>
            obtain ⟨i, hig, rfl, hgood, hbr⟩ := hrel
            have HG := Lib.hid hgood
            clear hgood
            cases gk with
            | zero =>
              have hge : ¬ ((i : Int) < n) := by omega
              have HR := Lib.hid (show hs = false by rw [← HH.out]; unfold hasS; rw [any_not fun j x hj => HG.out j x (by have := HLn.out; omega)])
              go_wp2
              try rw [Exit.noGoto_ret]
              go_ret2
              exact ⟨retB (HR.out.symm.trans HE.out.1.symm) HE.out.2.symm, hB.trans (hbr.mono hB.size)⟩
            | succ g =>
              have hlt : i < n := by omega
              obtain ⟨b, off, p, rfl, hblt, hpj, hmem, hcell, hCp⟩ := (P0.step hbr).at hlt; have HPJ := Lib.hid hpj; obtain ⟨pA, pn, pc, pels⟩ := p; simp only at hcell hCp; have hq1 : (i : Int) < n := (by omega); have HPL := Lib.hid hCp.len; have hps := hCp.small; clear hmem hpj
              have C1 := hCp
              have I3 := I2.step hbr
              go_wp2
              clear hcell hblt
              generalize hw2 : wr = w2 at *
              clear hw2
              go_loopg [41] pn (fun g2 s wx => ∃ j : Nat, j + g2 = pn ∧ s = .int .i64 j ∧ (∀ k x, k < j → pels[k]? = some x → hVal x.q x.M x.xs x.K xs = true) ∧ Below w2.heap.size w2 wx)
              case atStart => exact ⟨0, by omega, rfl, (fun j x h => absurd h (by omega)), Below.refl _ _⟩
              case round =>
                obtain ⟨j, hjg, rfl, hgood2, hbs⟩ := hrel
                have HG2 := Lib.hid hgood2
                clear hgood2
                cases gk with
                | zero =>
                  have hge : ¬ ((j : Int) < pn) := by omega
                  have HR := Lib.hid (show hs = true by rw [← HH.out]; unfold hasS; rw [any_yes HPJ.out (all_yes fun k x hk hkx => HG2.out k x (by have hk : k < pels.length := hk; have := HPL.out; omega) hkx)])
                  go_wp2
                  try rw [Exit.noGoto_ret]
                  go_ret2
                  exact ⟨retB (HR.out.symm.trans HE.out.1.symm) HE.out.2.symm, hB.trans ((hbr.trans (hbs.mono hbr.size)).mono hB.size)⟩
                | succ g2 =>
                  have hlt2 : j < pn := by omega
                  obtain ⟨b2, off2, e, rfl, hblt2, hej, hmem, hcs, hin⟩ := (C1.step hbs).at hlt2; obtain ⟨x0, x1, x2, x3⟩ := hcs; have HEJ := Lib.hid hej; obtain ⟨eq, eM, eA, en, ec, eK, exs⟩ := e; simp only at x0 x1 x2 x3 hin; have hq2 : (j : Int) < pn := (by omega); have b5 := below_alloc wr (.cells #[.int .i64 eq, .int .i64 eM, .slice eA en ec, .int .i64 eK] 56); have y1 := hin.step b5; have X1 := CBox.new wr eq eM eA en ec eK; have y2 := (I3.step hbs).step b5; have hbr1 := hbs.trans (b5.mono hbs.size); clear b5 hmem hej hin hbs
                  cases hv : hVal eq eM exs eK xs
                  · have HV2 := Lib.hid hv
                    have HN := Lib.hid (show hasP xs pels = false from all_not HEJ.out hv)
                    clear hv
                    go_wp2_with (go_at_call 65; refine (cond_holds _ _ _ _ _ _ exs _ _ _ xs _ y1 y2).mono ?_; rintro e w3 ⟨rfl, hb⟩; rw [HV2.out]; replace hbr1 := hbr1.trans (hb.mono hbr1.size))
                    go_roundg g
                    case measure => omega
                    case rel => exact ⟨i + 1, by omega, by go_num, (fun k x hk hkx => by
                      rcases Nat.lt_or_eq_of_le (Nat.le_of_lt_succ hk) with h | rfl
                      · exact HG.out k x h hkx
                      · rw [HPJ.out] at hkx; cases hkx; exact HN.out), hbr.trans (hbr1.mono hbr.size)⟩
                  · have HV2 := Lib.hid hv
                    clear hv
                    go_wp2_with (go_at_call 65; refine (cond_holds _ _ _ _ _ _ exs _ _ _ xs _ y1 y2).mono ?_; rintro e w3 ⟨rfl, hb⟩; rw [HV2.out]; replace hbr1 := hbr1.trans (hb.mono hbr1.size))
                    go_roundg g2
                    case measure => omega
                    case rel => exact ⟨j + 1, by omega, by go_num, (fun k x hk hkx => by
                      rcases Nat.lt_or_eq_of_le (Nat.le_of_lt_succ hk) with h | rfl
                      · exact HG2.out k x h hkx
                      · rw [HEJ.out] at hkx; cases hkx; exact HV2.out), hbr1⟩
    · have hd2 : ¬ (xs.length : Int) = D := by omega
      have HE := Lib.hid (sv_dim hv hd2)
      have q1 : ((k : Int) != D) = true := by simpa using hd
      have q2 : ((k : Int) == D) = false := by simpa using hd
      clear hv hl hd hd2
      go_enter Tryz.func24, Tryz.ntmps24
      go_wp2
      go_step3
      go_wp2_with (go_at_call 43; refine (set_valid _ _ _ _ ps _ P0).mono ?_; rintro e w1 ⟨rfl, hb⟩; rw [HV.out]; replace hB := below_step hB hb; replace B1 := B1.step hb; have c0 := B1.c0; have c1 := B1.c1)
      try rw [Exit.noGoto_ret]
      go_ret2
      exact ⟨retB HE.out.1.symm HE.out.2.symm, hB⟩
end Go.Proofs.YtkgnlloioaobiaaGreat
namespace Go.Proofs.YtkgnlloioaobiaaGreat
open Go.RowKit
theorem gather_none {n : Nat} {w w' : World} {e : Ending} {D er : Int} (h0 : er ≠ 0) (h : e = .returned (.tuple #[setV 0 none 0 0, .int .i64 er]) ∧ Below w.heap.size w w') : GatherRet n w e w' D (er, []) :=
  ⟨none, 0, 0, [], by rw [if_pos (show ((er, ([] : List (List CD))).1 ≠ 0) from h0)]; exact h.1, ⟨rfl, by omega, fun h => absurd h (by omega), (fun p h => nomatch h)⟩, (fun p h => nomatch h), by rw [if_pos (show ((er, ([] : List (List CD))).1 ≠ 0) from h0)]; rfl, fun h => absurd h (by omega), h.2⟩
end Go.Proofs.YtkgnlloioaobiaaGreat
namespace Go.Proofs.YtkgnlloioaobiaaGreat
open Go.RowKit Go.Shelf
def fixL (i : Nat) (v : Int) (xs : List Int) (K : Int) : List Int × Int := (xs.eraseIdx i, K + xs[i]?.getD 0 * v)
def fixE (D : Int) (ps : List PEl) (i v : Int) : Int × List (List CD) :=
  if validS D ps = false then (1, []) else if i < 0 ∨ D ≤ i ∨ coordB v = false then (6, []) else gatherD (D - 1).toNat ((ps.map PEl.dat).map fun d => d.map (chgD (fixL i.toNat v)))
theorem fix_small {xs : List Int} {K v : Int} {i : Nat} (hv : validB xs K = true) (hc : coordB v = true) :
    (-4503599627370496 ≤ xs[i]?.getD 0 * v ∧ xs[i]?.getD 0 * v ≤ 4503599627370496) ∧ (-1048576 ≤ K ∧ K ≤ 1048576) := by
  obtain ⟨_, hK, hx⟩ := validB_true.1 hv
  have hK := fitsB_true.1 hK
  have hv := coordB_true.1 hc
  refine ⟨?_, hK⟩
  have hxi : -1048576 ≤ xs[i]?.getD 0 ∧ xs[i]?.getD 0 ≤ 1048576 := by
    rcases Nat.lt_or_ge i xs.length with h | h
    · exact fitsB_true.1 (hx _ (getD_mem h))
    · rw [List.getElem?_eq_none h]; simp
  generalize xs[i]?.getD 0 = x at hxi ⊢
  have h1 : x.natAbs ≤ 1048576 := by omega
  have h2 : v.natAbs ≤ 4294967296 := by omega
  have h3 : (x * v).natAbs ≤ 1048576 * 4294967296 := by rw [Int.natAbs_mul]; exact Nat.mul_le_mul h1 h2
  omega
theorem fix_pre {D : Int} {ps qs : List PEl} {i : Nat} {v : Int} {w0 w' : World} (hP : ∀ p ∈ ps, CondsAt w0 p.A p.n p.els) (hv : validS D ps = true) (hc : coordB v = true) (hi : (i : Int) < D) (hq : ∀ q ∈ qs, CondsAt w' q.A q.n q.els) (hd : qs.map PEl.dat = ps.map fun p => p.dat.map (chgD (fixL i v))) : ∀ q ∈ qs, (∀ e ∈ q.els, PreB (D - 1).toNat e) ∧ q.n ≤ 1000 := by
  obtain ⟨hD, hE⟩ := valid_els hv
  intro q hqm
  have hmem : q.dat ∈ ps.map fun p => p.dat.map (chgD (fixL i v)) := by rw [← hd]; exact List.mem_map.2 ⟨q, hqm, rfl⟩
  obtain ⟨p, hp, hpd⟩ := List.mem_map.1 hmem
  have hlen : q.els.length = p.els.length := by
    have := congrArg List.length hpd
    simpa [PEl.dat] using this.symm
  have hql := (hq q hqm).len
  refine ⟨fun e he => ?_, by have := (hE p hp).1; omega⟩
  have hed : e.d ∈ q.dat := List.mem_map.2 ⟨e, he, rfl⟩
  rw [← hpd] at hed
  obtain ⟨d, hdm, hde⟩ := List.mem_map.1 hed
  obtain ⟨e0, he0, rfl⟩ := List.mem_map.1 hdm
  obtain ⟨hvc, hn⟩ := (hE p hp).2 e0 he0
  obtain ⟨hl12, hK, hx⟩ := validB_true.1 (valid_lin hvc)
  obtain ⟨s1, s2⟩ := fix_small (i := i) (valid_lin hvc) hc
  have k1 : e.q = e0.q := congrArg CD.q hde.symm
  have k2 : e.M = e0.M := congrArg CD.M hde.symm
  have k3 : e.xs = e0.xs.eraseIdx i := congrArg CD.xs hde.symm
  have k4 : e.K = e0.K + e0.xs[i]?.getD 0 * v := congrArg CD.K hde.symm
  have hel := ((hq q hqm).ints e he).len
  refine ⟨?_, by rw [k1, k2]; exact validC_ok hvc, by rw [k4]; omega, fun x hxm => ?_⟩
  · rw [k3] at hel
    have hl0 : (e0.xs.length : Int) = D := by
      rw [((hP p hp).ints e0 he0).len]
      exact hn
    rw [List.length_eraseIdx, if_pos (by omega)] at hel
    omega
  · rw [k3] at hxm
    have := fitsB_true.1 (hx x (List.mem_of_mem_eraseIdx hxm))
    omega
set_option maxHeartbeats 8000000 in
theorem set_fix (D : Int) (A : Option Addr) (n c : Nat) (ps : List PEl) (i v : Int) (w : World) (h : PiecesAt w A n ps) (hC : ∀ p ∈ ps, PieceC p) :
    Calls Tryz.prog 22 #[setV D A n c, .int .i64 i, .int .i64 v] w fun e w' => GatherRet (D - 1).toNat w e w' (D - 1) (fixE D ps i v) := by
  have hB := below_step (below_step (below_step (below_alloc w (.cells #[.int .i64 D, .slice A n c] 24)) (below_alloc _ (.cells #[.int .i64 i] 3))) (below_alloc _ (.cells #[.int .i64 v] 3))) (below_alloc _ (.cells #[.int .i64 0, .slice none 0 0] 24))
  have X1 := (((SetBox.new w D A n c).alloc (.cells #[.int .i64 i] 3)).alloc (.cells #[.int .i64 v] 3)).alloc (.cells #[.int .i64 0, .slice none 0 0] 24)
  have X2 := ((IBox.new (w.alloc (.cells #[.int .i64 D, .slice A n c] 24)) i).alloc (.cells #[.int .i64 v] 3)).alloc (.cells #[.int .i64 0, .slice none 0 0] 24)
  have X3 := (IBox.new ((w.alloc (.cells #[.int .i64 D, .slice A n c] 24)).alloc (.cells #[.int .i64 i] 3)) v).alloc (.cells #[.int .i64 0, .slice none 0 0] 24)
  have X4 := SetBox.new (((w.alloc (.cells #[.int .i64 D, .slice A n c] 24)).alloc (.cells #[.int .i64 i] 3)).alloc (.cells #[.int .i64 v] 3)) 0 none 0 0
  simp only [World.size_alloc] at X2 X3 X4
  have P1 := h.step hB
  have x0 := X1.c0
  have x1 := X1.c1
  have x2 := X2.c
  have x3 := X3.c
  have HCC := Lib.hid hC
  clear h hC
  cases hv : validS D ps
  · have HV := Lib.hid hv
    have HR := Lib.hid (show fixE D ps i v = (1, []) by unfold fixE; rw [if_pos hv])
    rw [HR.out]
    clear hv
    go_enter Tryz.func22, Tryz.ntmps22
    go_wp2_with (first | (go_at_call 43; refine (set_valid D A n c ps _ P1).mono ?_; rintro e w1 ⟨rfl, hb1⟩; rw [HV.out]; replace hB := below_step hB hb1; have P2 := P1.step hb1; have Y1 := X1.step hb1; have Y2 := X2.step hb1; have Y3 := X3.step hb1; have Y4 := X4.step hb1; clear x0 x1 x2 x3; have c0 := Y1.c0; have c1 := Y1.c1; have ci := Y2.c; have ck := Y3.c; have z0 := Y4.c0; have z1 := Y4.c1; have f0 := Y4.f 0; have f1 := Y4.f 1))
    have X5 := Y4.put 0 none 0 0; have hb8 := below_put (w := w1) (N := w.heap.size) (b := w.heap.size + 1 + 1 + 1) (by omega) (.int .i64 0) (.slice none 0 0); generalize (w1.setCell ⟨w.heap.size + 1 + 1 + 1, 0, none⟩ (.int .i64 0)).setCell ⟨w.heap.size + 1 + 1 + 1, 1, none⟩ (.slice none 0 0) = w5 at *; have y0 := X5.c0; have y1 := X5.c1; try rw [Exit.noGoto_ret]
    refine bodyPost_ret (v := .tuple #[setV 0 none 0 0, .int .i64 1]) (by simp [results, Tryz.results22, go_sem, y0, y1]) rfl ?_
    exact gather_none (by decide) ⟨rfl, hB.trans hb8⟩
  · have HV := Lib.hid hv
    have hE := valid_els hv
    obtain ⟨hD0, hD1, hL⟩ := hE.1
    have HE := Lib.hid hE.2
    have HL := Lib.hid hL
    obtain ⟨cb, hcb⟩ : ∃ cb, coordB v = cb := ⟨_, rfl⟩
    have HCO := Lib.hid hcb
    by_cases hr : i < 0 ∨ D ≤ i ∨ cb = false
    · have HR := Lib.hid (show fixE D ps i v = (6, []) by unfold fixE; rw [if_neg (by rw [hv]; simp), hcb, if_pos hr])
      rw [HR.out]
      clear hv hE hL hcb
      go_enter Tryz.func22, Tryz.ntmps22
      by_cases hi : i < 0
      · clear hr
        go_wp2_with (first | (go_at_call 43; refine (set_valid D A n c ps _ P1).mono ?_; rintro e w1 ⟨rfl, hb1⟩; rw [HV.out]; replace hB := below_step hB hb1; have P2 := P1.step hb1; have Y1 := X1.step hb1; have Y2 := X2.step hb1; have Y3 := X3.step hb1; have Y4 := X4.step hb1; clear x0 x1 x2 x3; have c0 := Y1.c0; have c1 := Y1.c1; have ci := Y2.c; have ck := Y3.c; have z0 := Y4.c0; have z1 := Y4.c1; have f0 := Y4.f 0; have f1 := Y4.f 1) | (go_at_call 59; refine (set_coord v _).mono ?_; rintro e w2 ⟨rfl, rfl⟩; rw [HCO.out]))
        have X5 := Y4.put 0 none 0 0; have hb8 := below_put (w := w1) (N := w.heap.size) (b := w.heap.size + 1 + 1 + 1) (by omega) (.int .i64 0) (.slice none 0 0); generalize (w1.setCell ⟨w.heap.size + 1 + 1 + 1, 0, none⟩ (.int .i64 0)).setCell ⟨w.heap.size + 1 + 1 + 1, 1, none⟩ (.slice none 0 0) = w5 at *; have y0 := X5.c0; have y1 := X5.c1; try rw [Exit.noGoto_ret]
        (refine bodyPost_ret (v := .tuple #[setV 0 none 0 0, .int .i64 6]) (by simp [results, Tryz.results22, go_sem, y0, y1]) rfl ?_; exact gather_none (by decide) ⟨rfl, hB.trans hb8⟩)
      · by_cases hi2 : D ≤ i
        · clear hr
          go_wp2_with (first | (go_at_call 43; refine (set_valid D A n c ps _ P1).mono ?_; rintro e w1 ⟨rfl, hb1⟩; rw [HV.out]; replace hB := below_step hB hb1; have P2 := P1.step hb1; have Y1 := X1.step hb1; have Y2 := X2.step hb1; have Y3 := X3.step hb1; have Y4 := X4.step hb1; clear x0 x1 x2 x3; have c0 := Y1.c0; have c1 := Y1.c1; have ci := Y2.c; have ck := Y3.c; have z0 := Y4.c0; have z1 := Y4.c1; have f0 := Y4.f 0; have f1 := Y4.f 1) | (go_at_call 59; refine (set_coord v _).mono ?_; rintro e w2 ⟨rfl, rfl⟩; rw [HCO.out]))
          have X5 := Y4.put 0 none 0 0; have hb8 := below_put (w := w1) (N := w.heap.size) (b := w.heap.size + 1 + 1 + 1) (by omega) (.int .i64 0) (.slice none 0 0); generalize (w1.setCell ⟨w.heap.size + 1 + 1 + 1, 0, none⟩ (.int .i64 0)).setCell ⟨w.heap.size + 1 + 1 + 1, 1, none⟩ (.slice none 0 0) = w5 at *; have y0 := X5.c0; have y1 := X5.c1; try rw [Exit.noGoto_ret]
          (refine bodyPost_ret (v := .tuple #[setV 0 none 0 0, .int .i64 6]) (by simp [results, Tryz.results22, go_sem, y0, y1]) rfl ?_; exact gather_none (by decide) ⟨rfl, hB.trans hb8⟩)
        · obtain rfl : cb = false := by simpa [hi, hi2] using hr
          clear hr
          go_wp2_with (first | (go_at_call 43; refine (set_valid D A n c ps _ P1).mono ?_; rintro e w1 ⟨rfl, hb1⟩; rw [HV.out]; replace hB := below_step hB hb1; have P2 := P1.step hb1; have Y1 := X1.step hb1; have Y2 := X2.step hb1; have Y3 := X3.step hb1; have Y4 := X4.step hb1; clear x0 x1 x2 x3; have c0 := Y1.c0; have c1 := Y1.c1; have ci := Y2.c; have ck := Y3.c; have z0 := Y4.c0; have z1 := Y4.c1; have f0 := Y4.f 0; have f1 := Y4.f 1) | (go_at_call 59; refine (set_coord v _).mono ?_; rintro e w2 ⟨rfl, rfl⟩; rw [HCO.out]))
          have X5 := Y4.put 0 none 0 0; have hb8 := below_put (w := w1) (N := w.heap.size) (b := w.heap.size + 1 + 1 + 1) (by omega) (.int .i64 0) (.slice none 0 0); generalize (w1.setCell ⟨w.heap.size + 1 + 1 + 1, 0, none⟩ (.int .i64 0)).setCell ⟨w.heap.size + 1 + 1 + 1, 1, none⟩ (.slice none 0 0) = w5 at *; have y0 := X5.c0; have y1 := X5.c1; try rw [Exit.noGoto_ret]
          (refine bodyPost_ret (v := .tuple #[setV 0 none 0 0, .int .i64 6]) (by simp [results, Tryz.results22, go_sem, y0, y1]) rfl ?_; exact gather_none (by decide) ⟨rfl, hB.trans hb8⟩)
    · have hi0 : ¬ i < 0 := by omega
      have hi1 : ¬ D ≤ i := by omega
      obtain rfl : cb = true := by cases cb; exact absurd (.inr (.inr rfl)) hr; rfl
      have HR := Lib.hid (show fixE D ps i v = gatherD (D - 1).toNat ((ps.map PEl.dat).map fun d => d.map (chgD (fixL i.toNat v))) by unfold fixE; rw [if_neg (by rw [hv]; simp), hcb, if_neg hr])
      rw [HR.out]
      have s2 : IntKind.i64.wrap (D - 1) = D - 1 := IntWalk.i64_in _ (by omega)
      obtain ⟨i', rfl⟩ : ∃ m : Nat, i = m := ⟨i.toNat, by omega⟩
      have HN := Lib.hid (show n ≤ 1000 by have := P1.len; omega)
      have HM := Lib.hid (fun p (hp : p ∈ ps) => (show p.n ≤ 1000 by have := (HE.out p hp).1; have := (P1.conds p hp).len; omega))
      have HF := Lib.hid (fun (w1 : World) (P2 : PiecesAt w1 A n ps) (Y2 : IBox w1 (w.heap.size + 1) (i' : Int)) (Y3 : IBox w1 (w.heap.size + 1 + 1) v) (W : World) (hb : Below w1.heap.size w1 W) (p : PEl) (hp : p ∈ ps) (e : CEl) (he : e ∈ p.els) =>
        (show Calls Tryz.prog 61 (#[.agg #[.slice e.A e.n e.c, .int .i64 e.K]] ++ #[.pointer (some ⟨w.heap.size + 1, 0, none⟩), .pointer (some ⟨w.heap.size + 1 + 1, 0, none⟩)]) W fun x W' => LinOwn W x W' (fixL i' v e.xs e.K).1 (fixL i' v e.xs e.K).2 from
          have hx := (HE.out p hp).2 e he
          have hs := fix_small (i := i') (valid_lin hx.1) HCO.out
          fix_fn_c e.A e.n e.c e.K e.xs i' _ _ v W ((HCC.out p hp).2.2 e he) (((P2.conds p hp).ints e he).step hb) (by have := hx.2; omega) (by have := hx.2; omega) (Y2.step hb) (Y3.step hb) (IntWalk.i64_in _ (by omega)) (IntWalk.i64_in _ (by omega))))
      have HPRE := Lib.hid (fun (w1 w3 : World) (P2 : PiecesAt w1 A n ps) (qs : List PEl) (hq : ∀ q ∈ qs, CondsAt w3 q.A q.n q.els) (hd : qs.map PEl.dat = ps.map fun p => p.dat.map (chgD (fixL i' v))) => fix_pre P2.conds HV.out HCO.out (by omega) hq hd)
      have HMM := Lib.hid (show ((ps.map PEl.dat).map fun d => d.map (chgD (fixL i' v))) = ps.map fun p => p.dat.map (chgD (fixL i' v)) by rw [List.map_map]; rfl)
      rw [show ((i' : Int)).toNat = i' from Int.toNat_natCast i', HMM.out]
      have HDN := Lib.hid (show (D - 1).toNat ≤ 100 by omega)
      obtain ⟨dn, hdn⟩ : ∃ dn, (D - 1).toNat = dn := ⟨_, rfl⟩
      rw [hdn] at HPRE HDN ⊢
      obtain ⟨L, hLL⟩ : ∃ L, (ps.map fun p => p.dat.map (chgD (fixL i' v))) = L := ⟨_, rfl⟩
      rw [hLL] at HPRE ⊢
      have HLL := Lib.hid hLL
      obtain ⟨gd, hgd⟩ : ∃ gd, gatherD dn L = gd := ⟨_, rfl⟩
      have HGD := Lib.hid hgd
      rw [hgd]
      obtain ⟨D', hD'⟩ : ∃ D', (if gd.1 ≠ 0 then (0 : Int) else D - 1) = D' := ⟨_, rfl⟩
      have HDD := Lib.hid hD'
      clear hgd hD' hLL hdn
      clear hv hE hL hr hcb
      go_enter Tryz.func22, Tryz.ntmps22
      go_wp2_with (first
        | (go_at_call 43; refine (set_valid D A n c ps _ P1).mono ?_; rintro e w1 ⟨rfl, hb1⟩; rw [HV.out]; replace hB := below_step hB hb1; have P2 := P1.step hb1; have Y1 := X1.step hb1; have Y2 := X2.step hb1; have Y3 := X3.step hb1; have Y4 := X4.step hb1; clear x0 x1 x2 x3; have c0 := Y1.c0; have c1 := Y1.c1; have ci := Y2.c; have ck := Y3.c; have z0 := Y4.c0; have z1 := Y4.c1; have f0 := Y4.f 0; have f1 := Y4.f 1)
        | (go_at_call 59; refine (set_coord v _).mono ?_; rintro e w2 ⟨rfl, rfl⟩; rw [HCO.out])
        | (go_at_call 60; refine (set_changed D A n c ps (D - 1) _ _ (fixL i' v) (enters_of Tryz.func61 (by kernel_rfl) rfl) w1 P2 HN.out HM.out (HF.out w1 P2 Y2 Y3)).mono ?_; rintro e w3 ⟨g, qs, rfl, hP3, hok3, hd3, hg3, hb3⟩; rw [HLL.out] at hd3; have HPR3 := Lib.hid (HPRE.out w1 w3 P2 qs hP3.conds hd3); have HD3 := Lib.hid hd3; have Z4 := Y4.step hb3; have B3 := below_step hB hb3; have b4 := below_alloc w3 (.cells #[.int .i64 (D - 1), .slice (some ⟨g, 0, none⟩) n n] 24); have T8 := SetBox.new w3 (D - 1) (some ⟨g, 0, none⟩) n n; clear hok3 hd3 hg3 hb3 c0 c1 ci ck z0 z1 f0 f1))
      have P4 := hP3.step b4
      have Z5 := Z4.step b4
      have B4 := below_step B3 b4
      have HQ4 := Lib.hid (fun p hp => HPR3.out p hp)
      generalize w3.alloc (.cells #[.int .i64 (D - 1), .slice (some ⟨g, 0, none⟩) n n] 24) = w4 at *
      have x0 := T8.c0
      have x1 := T8.c1
      replace B4 := B4.drew
      replace Z5 := Z5.step (Below.refl _ w4).drew
      replace T8 := T8.step (Below.refl _ w4).drew
      replace P4 := P4.step (Below.refl _ w4).drew
      have hz4 := Z4.lt
      generalize hb8 : w3.heap.size = b8 at *
      have hne : b8 ≠ w.heap.size + 1 + 1 + 1 := by omega
      have hne' : w.heap.size + 1 + 1 + 1 ≠ b8 := by omega
      have HNE := Lib.hid hne
      go_region_held3 (fun W => W.cell? ⟨b8, 0, none⟩ = some (.int .i64 (D - 1)) ∧ W.cell? ⟨b8, 1, none⟩ = some (.slice (some ⟨g, 0, none⟩) n n)) (first | with_reducible exact ⟨x0, x1⟩ | with_reducible exact ⟨y0, y1⟩ | with_reducible exact ⟨z0, z1⟩ | with_reducible exact ⟨q0, q1⟩ | go_keep)
        (first
          | (go_at_call 45; refine (values_at (some ⟨g, 0, none⟩) n n _).mono ?_; rintro e w5 ⟨Bs, rfl, hBl, hBc, hb5⟩; have hB5 := below_step B4 hb5; have T5 := T8.step hb5; have Z6 := Z5.step hb5; have Q5 := P4.step hb5; have y0 := T5.c0; have y1 := T5.c1)
          | (go_at_call 44; refine (set_gathered HDN.out (D - 1) (some ⟨g, 0, none⟩) n n qs _ Bs hBc hBl Q5 HQ4.out).mono ?_; rw [HD3.out, HGD.out]; rintro e w6 ⟨A6, k6, c6, us, rfl, hP6, hok6, hd6, hA6, hb6⟩; rw [HDD.out]; have HB6 := Lib.hid (And.intro hP6 (And.intro hok6 (And.intro hd6 (And.intro hA6 (below_step hB5 hb6))))); have T6 := T5.step hb6; have Z7 := Z6.step hb6; have z0 := T6.c0; have z1 := T6.c1; have d0 := Z7.c0; have d1 := Z7.c1; have e0 := Z7.f 0; have e1 := Z7.f 1; have T7 := put_far T6 HNE.out (.int .i64 D') (.slice A6 k6 c6); have q0 := T7.c0; have q1 := T7.c1; clear hP6 hok6 hd6 hA6 hb6))
      obtain ⟨hP6, hok6, hd6, hA6, hb6⟩ := HB6.out
      have hs5 := hB5.size
      have hl5 := T5.lt
      have hz5 := Z6.lt
      have X8 := Z7.put D' A6 k6 c6
      have hku := Z7.keepU (.int .i64 D') (.slice A6 k6 c6)
      have hok8 := fun p hp => (hok6 p hp).keep hku
      have hP8 := pieces_move hP6 hok8 hku.size (fun h0 g' o hA => by
        obtain ⟨g2, o', h1, h2⟩ := hA6 h0
        rw [hA] at h1
        cases h1
        exact put_other (by omega) _ _)
      have hb9 := hb6.trans (below_put (w := w6) (N := w.heap.size) (b := w.heap.size + 1 + 1 + 1) (by omega) (.int .i64 D') (.slice A6 k6 c6))
      rename_i hHeld
      clear hHeld hb6 hku
      generalize (w6.setCell ⟨w.heap.size + 1 + 1 + 1, 0, none⟩ (.int .i64 D')).setCell ⟨w.heap.size + 1 + 1 + 1, 1, none⟩ (.slice A6 k6 c6) = w8 at *
      have v0 := X8.c0
      have v1 := X8.c1
      go_wp2
      refine bodyPost_ret (v := .tuple #[setV D' A6 k6 c6, .int .i64 gd.1]) (by simp [results, Tryz.results22, go_sem, v0, v1]) rfl ?_
      refine ⟨A6, k6, c6, us, by rw [HDD.out], hP8, hok8, hd6, (fun h => let ⟨g', o, h1, h2⟩ := hA6 h; ⟨g', o, h1, by omega⟩), hb9⟩
end Go.Proofs.YtkgnlloioaobiaaGreat
namespace Go.Proofs.YtkgnlloioaobiaaGreat
open Go.RowKit
def SeqFresh {α : Type} (F : Fence) (n : Nat) (P : Program) (gf : Nat) (lb : Array Value) (encs : α → Array Value) (R : α → World → Prop) (Kp : World → World → Prop) (S Sp : List α → Prop) (N : Nat) (w : World) : Prop :=
  ∀ (l : Nat) (J Jx : List α → World → Prop) (W : World), Below w.heap.size w W → AbidesFrom W.heap.size J → AbidesFrom W.heap.size Jx →
    (∀ done x V, J done V → R x V → done.length < N → YieldAt F (n - 1) P l (encs x) V fun e V' =>
      (e = .returned (.bool true) ∧ J (done ++ [x]) V' ∧ Kp V V') ∨ (e = .returned (.bool false) ∧ Jx (done ++ [x]) V')) →
    J [] W → CallsIn F n P gf (#[.func (.yield l) #[] #[]] ++ lb) W fun e V => (∃ v, e = .returned v) ∧ ((∃ ys, S ys ∧ J ys V) ∨ (∃ done, Sp done ∧ Jx done V))
section
variable {F : Fence} {n : Nat} {P : Program} {α : Type}
theorem round_ends {B l : Nat} {V W : World} {busy : Loop} (hl : B ≤ l) (hV : V.heap[l]? = some (.loop busy)) (hd : V.heap[B]? = some (.deferred (some []))) (hne : B ≠ l) (hst : busy.state = .busy) (hk : KeepsFrom B V W) (jump : Option Code) :
    ∃ r, r = (if jump.isNone then { busy with state := .ready, pending := jump } else { busy with state := .done, pending := jump } : Loop) ∧ (Instr.endRound l jump).run P W = .ok (.bool jump.isNone) (W.putObj l (.loop r)) ∧ W.heap[l]? = some (.loop busy) ∧ (W.putObj l (.loop r)).heap[l]? = some (.loop r) ∧ (W.putObj l (.loop r)).heap[B]? = some (.deferred (some [])) := by
  have h1 := hk.same l _ hl hV rfl
  refine ⟨_, rfl, ?_, h1, World.putObj_heap_same (Array.getElem?_eq_some_iff.1 h1).1, (World.putObj_heap_other hne).trans (hk.same B _ (Nat.le_refl _) hd rfl)⟩
  have := run_endRound (P := P) jump h1
  cases jump <;> exact this
theorem range_fresh {g : Operand} {ps : Array Tmp} {assign body : Code} {Q : Exit → Act → World → Prop} {a : Act} {w : World}
    (hro : F.round = none) (h1 : 1 ≤ n) {gf : Nat} {lb : Array Value} (hg : a.eval g = .func (.func gf) #[] lb) (hFg : F.fn gf) (eg : ∀ args w, (callFunc gf args).run P w = .ok (.enter gf args) w)
    {encs : α → Array Value} {R : α → World → Prop} {Kp : World → World → Prop} {S Sp : List α → Prop} {N : Nat} {w0 : World} (hseq : SeqFresh F (n - 1) P gf lb encs R Kp S Sp N w0)
    (hR : ∀ x (W : World) (l : Nat) (o o' : Obj), R x W → W.heap[l]? = some o → o.isCells = false → R x (W.putObj l o'))
    (hKt : ∀ {A B C : World}, Kp A B → Kp B C → Kp A C) (hKb : ∀ (W : World) (l : Nat) (o o' : Obj), w.heap.size ≤ l → W.heap[l]? = some o → o.isCells = false → o.isWalk = false → Kp W (W.putObj l o')) (hb0 : Below w0.heap.size w0 w) (hps : ∀ x, (encs x).size = ps.size)
    (I : List α → World → Prop) (Ix : Code → List α → World → Prop) (hI : OwnFrom w.heap.size I) (hIx : ∀ c, OwnFrom w.heap.size (Ix c)) (h0 : I [] w) (a₁ : α → Act)
    (hassign : ∀ (l : Nat) (x : α) (W : World) (K : Act → World → Prop), K (a₁ x) W →
      assign.wpIn (F.inRound l) (n - 1 - 1) P (Exit.then K (fun _ _ _ => False)) { tmps := (ps.zip (encs x)).foldl (fun t (p, v) => t.setIfInBounds p v) a.tmps, defers := [] } W)
    (hbody : ∀ (l : Nat) (done : List α) (x : α) (W : World), I done W → R x W → done.length < N → body.wpIn (F.inRound l) (n - 1 - 1) P (ownPostG w.heap.size Kp I Ix (done ++ [x]) W) (a₁ x) W)
    (hdone : ∀ (D : Nat) (ys : List α) (W : World), w.heap.size ≤ D → S ys → I ys W → W.heap[D]? = some (.deferred (some [])) → Q .normal { a with defers := { target := .collected D, args := #[] } :: a.defers } W)
    (hstop : ∀ (D : Nat) (c : Code) (done : List α) (W : World), w.heap.size ≤ D → Sp done → Ix c done W → W.heap[D]? = some (.deferred (some [])) → c.wpIn F n P Q { a with defers := { target := .collected D, args := #[] } :: a.defers } W) :
    (Code.rangeFunc g ps assign body).wpIn F n P Q a w := by
  refine wpIn_rangeFunc fun fn hfn => ?_
  rw [hro]
  obtain ⟨D, hD⟩ : ∃ D, w.heap.size = D := ⟨_, rfl⟩
  obtain ⟨mk, hmk⟩ : ∃ mk : LoopState → Option Code → Loop, mk = fun st pe => { state := st, pending := pe, fn, tmps := a.tmps, params := ps, assign, body, defers := w.heap.size } := ⟨_, rfl⟩
  obtain ⟨V0, hV0⟩ : ∃ V0, (w.alloc (.deferred (some []))).alloc (.loop (mk .ready none)) = V0 := ⟨_, rfl⟩
  have hrec : V0.heap[D + 1]? = some (.loop (mk .ready none)) := by
    rw [← hV0, ← hD]
    have := World.alloc_heap_new (w.alloc (.deferred (some []))) (.loop (mk .ready none))
    rwa [World.size_alloc] at this
  have hdef : V0.heap[D]? = some (.deferred (some [])) := by
    rw [← hV0, ← hD]
    exact (Below.heap_alloc _ _ _ (by simp)).trans (World.alloc_heap_new w _)
  have hsz : V0.heap.size = D + 2 := by rw [← hV0, ← hD]; simp
  rw [hD] at hI hIx
  have hI0 : I [] V0 := by
    rw [← hV0]
    exact hI.alloc _ (hI.alloc _ h0)
  have hbel : Below w0.heap.size w0 V0 := by
    rw [← hV0]
    exact hb0.trans ((((Below.refl _ w).alloc (Nat.le_refl _) _).alloc (by simp) _).mono hb0.size)
  let J : List α → World → Prop := fun done V => I done V ∧ V.heap[D + 1]? = some (.loop (mk .ready none)) ∧ V.heap[D]? = some (.deferred (some []))
  let Jx : List α → World → Prop := fun done V => ∃ c, Ix c done V ∧ V.heap[D + 1]? = some (.loop (mk .done (some c))) ∧ V.heap[D]? = some (.deferred (some []))
  have hfar : ∀ {A : World} {row : Option Nat}, (∀ r, row = some r → V0.heap.size ≤ r ∧ ∃ o : Obj, A.heap[r]? = some o ∧ o.isWalk = true) → ∀ r, row = some r → D ≤ r ∧ ∃ o : Obj, A.heap[r]? = some o ∧ o.isCells = false := fun h r e => by
    obtain ⟨hr, o, ho, hw⟩ := h r e
    exact ⟨by omega, o, ho, Obj.not_cells_of_walk hw⟩
  have hJ : AbidesFrom V0.heap.size J := fun s A B row h hgr hr =>
    ⟨hI s A B row h.1 hgr (hfar hr), (grownBy_keeps hgr (fun r e => (hr r e).2) h.2.1 rfl).trans h.2.1, (grownBy_keeps hgr (fun r e => (hr r e).2) h.2.2 rfl).trans h.2.2⟩
  have hJx : AbidesFrom V0.heap.size Jx := fun s A B row h hgr hr => by
    obtain ⟨c, hc, h2, h3⟩ := h
    exact ⟨c, hIx c s A B row hc hgr (hfar hr), (grownBy_keeps hgr (fun r e => (hr r e).2) h2 rfl).trans h2, (grownBy_keeps hgr (fun r e => (hr r e).2) h3 rfl).trans h3⟩
  have hround : ∀ done x V, J done V → R x V → done.length < N → YieldAt F (n - 1 - 1) P (D + 1) (encs x) V fun e V' =>
      (e = .returned (.bool true) ∧ J (done ++ [x]) V' ∧ Kp V V') ∨ (e = .returned (.bool false) ∧ Jx (done ++ [x]) V') := by
    rintro done x V ⟨hi, hl, hk⟩ hrx hlen
    have hy := run_yield (P := P) (args := encs x) hl (by rw [hmk]; exact hps x)
    obtain ⟨V2, hV2⟩ : ∃ V2, V.putObj (D + 1) (.loop { mk .ready none with state := .busy }) = V2 := ⟨_, rfl⟩
    have hl2 : V2.heap[D + 1]? = some (.loop { mk .ready none with state := .busy }) := by rw [← hV2]; exact World.putObj_heap_same (Array.getElem?_eq_some_iff.1 hl).1
    have hk2 : V2.heap[D]? = some (.deferred (some [])) := by rw [← hV2]; exact (World.putObj_heap_other (by omega)).trans hk
    have hi2 : I done V2 := by rw [← hV2]; exact hI.putObj _ hi (by omega) hl rfl
    have hkp2 : Kp V V2 := by rw [← hV2]; exact hKb _ _ _ _ (by omega) hl rfl rfl
    have hr2 : R x V2 := by rw [← hV2]; exact hR x V _ _ _ hrx hl rfl
    have hbeg := run_beginRound (P := P) hl (by rw [hmk])
    rw [hV2] at hbeg
    rw [hmk] at hy
    refine ⟨fn, _, assign, body, hy, roundIn_of_wpIn hfn (hassign _ x V _ ⟨V2, hbeg, ?_⟩)⟩
    refine wpIn_mono (hbody (D + 1) done x V2 hi2 hr2 hlen) ?_
    rw [hD]
    rintro e a3 V3 hp
    have stop : ∀ c : Code, KeepsFrom D V2 V3 → Ix c (done ++ [x]) V3 → ∃ r V4, (Instr.endRound (D + 1) (some c)).run P V3 = .ok r V4 ∧ ((Ending.returned r = .returned (.bool true) ∧ J (done ++ [x]) V4 ∧ Kp V V4) ∨ (Ending.returned r = .returned (.bool false) ∧ Jx (done ++ [x]) V4)) := fun c hkf hx => by
      obtain ⟨r, hr, hrun, hl3, hl4, hk4⟩ := round_ends (P := P) (by omega) hl2 hk2 (by omega) rfl hkf (some c)
      exact ⟨_, _, hrun, .inr ⟨rfl, c, (hIx c).putObj _ hx (by omega) hl3 rfl, by rw [hl4, hr, hmk]; rfl, hk4⟩⟩
    cases e with
    | normal =>
      obtain ⟨hkf, hkp3, hi3⟩ := hp
      obtain ⟨r, hr, hrun, hl3, hl4, hk4⟩ := round_ends (P := P) (by omega) hl2 hk2 (by omega) rfl hkf none
      refine ⟨_, _, hrun, .inl ⟨rfl, ⟨hI.putObj _ hi3 (by omega) hl3 rfl, by rw [hl4, hr, hmk]; rfl, hk4⟩, hKt (hKt hkp2 hkp3) (hKb _ _ _ _ (by omega) hl3 rfl rfl)⟩⟩
    | ret => exact stop .ret hp.1 hp.2
    | exit id => exact stop (.exit id) hp.1 hp.2
    | goto t => exact stop (.goto t) hp.1 hp.2
    | panic ch => exact hp.elim
    | outgrown => exact hp.elim
  refine ⟨D + 1, [{ target := .collected D, args := #[] }], V0, { target := .fn (.func gf) lb, args := #[.func (.yield (D + 1)) #[] #[]] }, V0, gf,
    #[.func (.yield (D + 1)) #[] #[]] ++ lb, V0, ?_, ?_, ?_, ?_, fun _ => h1, ?_⟩
  · rw [← hV0, hmk, ← hD]; exact run_enterLoop_outer _ _ _ _ _
  · simp only [resolve, hg]
    simp [go_sem]
  · intro f' hf'
    simp [Target.leads] at hf'
    subst hf'
    exact hFg
  · simp [invoke, go_sem, eg]
  · refine (hseq (D + 1) J Jx V0 hbel hJ hJx hround ⟨hI0, hrec, hdef⟩).mono ?_
    rintro e V ⟨⟨v, rfl⟩, (⟨ys, hS, hi, hl, hk⟩ | ⟨done, hSp, c, hi, hl, hk⟩)⟩
    · refine ⟨none, _, by have := run_endLoop (P := P) hl (by rw [hmk]; simp); rw [hmk] at this; exact this, ?_⟩
      exact hdone _ ys _ (by omega) hS (hI.putObj _ hi (by omega) hl rfl) ((World.putObj_heap_other (by omega)).trans hk)
    · refine ⟨some c, _, by have := run_endLoop (P := P) hl (by rw [hmk]; simp); rw [hmk] at this; exact this, ?_⟩
      exact hstop _ c done _ (by omega) hSp ((hIx c).putObj _ hi (by omega) hl rfl) ((World.putObj_heap_other (by omega)).trans hk)
end
end Go.Proofs.YtkgnlloioaobiaaGreat
namespace Go.Proofs.YtkgnlloioaobiaaGreat
open Go.RowKit Go.Shelf
attribute [local go_sem] Oper.semAt_some
def fEnc (x : PEl) : Array Value := #[.slice x.A x.n x.c]
def Fresh (n : Nat) (x : PEl) (W : World) : Prop := CondsAt W x.A x.n x.els ∧ (∀ e ∈ x.els, PreB n e) ∧ x.n ≤ 1000
theorem IntsAt.kept {W W' : World} {A : Option Addr} {n : Nat} {xs : List Int} (h : IntsAt W A n xs) (hs : W.heap.size ≤ W'.heap.size) (hc : ∀ a v, W.cell? a = some v → W'.cell? a = some v) : IntsAt W' A n xs :=
  ⟨h.len, h.small, h.wf, fun hn => let ⟨b, off, hA, hlt, hx⟩ := h.cells hn; ⟨b, off, hA, Nat.lt_of_lt_of_le hlt hs, fun j hj => hc _ _ (hx j hj)⟩⟩
theorem CondsAt.kept {W W' : World} {A : Option Addr} {m : Nat} {els : List CEl} (h : CondsAt W A m els) (hs : W.heap.size ≤ W'.heap.size) (hc : ∀ a v, W.cell? a = some v → W'.cell? a = some v) : CondsAt W' A m els :=
  ⟨h.len, h.small, fun hm => let ⟨b, off, hA, hlt, hx⟩ := h.cells hm; ⟨b, off, hA, Nat.lt_of_lt_of_le hlt hs, fun j e he => let ⟨a0, a1, a2, a3⟩ := hx j e he; ⟨hc _ _ a0, hc _ _ a1, hc _ _ a2, hc _ _ a3⟩⟩, fun e he => (h.ints e he).kept hs hc⟩
theorem cell_putObj {W : World} {l : Nat} {o o' : Obj} (hl : W.heap[l]? = some o) (ho : o.isCells = false) (a : Addr) (v : Value) (h : W.cell? a = some v) : (W.putObj l o').cell? a = some v := by
  have hne : a.block ≠ l := fun e => by
    rw [← e] at hl
    unfold World.cell? at h
    rw [hl] at h
    cases o <;> simp_all [Obj.isCells]
  have hb : (W.putObj l o').heap[a.block]? = W.heap[a.block]? := World.putObj_heap_other hne
  rw [← h]
  exact World.cell?_of_block hb
theorem Fresh.putObj {n : Nat} {x : PEl} {W : World} {l : Nat} {o o' : Obj} (h : Fresh n x W) (hl : W.heap[l]? = some o) (ho : o.isCells = false) : Fresh n x (W.putObj l o') :=
  ⟨h.1.kept (grownBy_putObj' W l o').size (cell_putObj hl ho), h.2⟩
set_option maxRecDepth 100000 in
set_option maxHeartbeats 8000000 in
theorem gathered_fresh {n : Nat} (hn : n ≤ 100) (D : Int) (L : List (List CD)) (w : World) (gf : FuncId) (lb : Array Value) (hent : Enters Tryz.prog gf)
    (hseq : ∀ w2, Below w.heap.size w w2 → SeqFresh Fence.wide 4 Tryz.prog gf lb fEnc (Fresh n) (KpS w.heap.size) (fun ys => ys.map PEl.dat = L) (fun pre => ∃ k, pre.map PEl.dat = L.take k) L.length w2) :
    Calls Tryz.prog 44 #[.int .i64 D, .func (.func gf) #[] lb] w fun e w' => GatherRet n w e w' D (gatherD n L) := by
  have hro : Fence.wide.round = none := rfl
  have h1 : 1 ≤ 5 := by omega
  refine (callsIn_wide (n := 5)).1 ?_
  refine callsIn_of_wp_marks Tryz.func44 rfl trivial ?_ hro
  simp only [Tryz.ntmps44, List.size_toArray, List.length_cons, List.length_nil, Nat.reduceAdd, Nat.reduceSub, Array.replicate_succ, Array.replicate_zero, List.push_toArray, List.append_toArray, List.nil_append, List.cons_append]
  gi_wp2_with (refine ⟨trivial, ?_⟩; gi_at_call 73; refine (callsIn_wide.2 (union_new n _)).mono ?_; rintro e w1 ⟨⟨b, r, rfl, U1⟩, hb1⟩)
  generalize hO : (w.alloc (.cells #[.int .i64 0, .slice none 0 0] 24)).alloc (.cells #[.int .i64 0] 27) = w0 at *
  have hs0 : w0.heap.size = w.heap.size + 2 := by rw [← hO]; simp
  have Z0 : Zed w.heap.size w0 := by
    rw [← hO]
    refine ⟨(Below.heap_alloc _ _ _ (by simp)).trans (heap_alloc_new w _), ?_⟩
    have := heap_alloc_new (w.alloc (.cells #[.int .i64 0, .slice none 0 0] 24)) (.cells #[.int .i64 0] 27)
    rw [World.size_alloc] at this
    exact this
  have hB0 : Below w.heap.size w w0 := by rw [← hO]; exact ((Below.refl _ w).alloc (Nat.le_refl _) _).alloc (by simp) _
  clear hO
  have Z1 : Zed w.heap.size w1 := ⟨(hb1.block _ (by omega)).trans Z0.1, (hb1.block _ (by omega)).trans Z0.2⟩
  have hB1 : Below w.heap.size w w1 := hB0.trans (hb1.mono (by omega))
  have b2 := below_alloc w1 (.cells #[.pointer (some ⟨b, 0, none⟩)] 84)
  have PB : PBox w1.heap.size b (w1.alloc (.cells #[.pointer (some ⟨b, 0, none⟩)] 84)) := heap_alloc_new w1 _
  have U2 := U1.step b2
  have hs1 := hb1.size
  have Z2 : Zed w.heap.size (w1.alloc (.cells #[.pointer (some ⟨b, 0, none⟩)] 84)) := ⟨(b2.block _ (by omega)).trans Z1.1, (b2.block _ (by omega)).trans Z1.2⟩
  have hB2 : Below w.heap.size w (w1.alloc (.cells #[.pointer (some ⟨b, 0, none⟩)] 84)) := hB1.trans (b2.mono (by omega))
  have hr1 := U1.lt
  have hs2 : (w1.alloc (.cells #[.pointer (some ⟨b, 0, none⟩)] 84)).heap.size = w1.heap.size + 1 := by simp
  generalize w1.alloc (.cells #[.pointer (some ⟨b, 0, none⟩)] 84) = w2 at *
  clear Z0 Z1 hB0 hB1 b2 hb1 U1
  refine range_fresh hro h1 (gf := gf) (lb := lb) rfl trivial hent
    (hseq w2 hB2) (fun x W l o o' h h1 h2 => h.putObj h1 h2) (fun h h' => kpS_t h h') (fun W l o o' h1 h2 h3 h4 => ⟨belowK_b (w := w2) (by omega) W l o o' h1 h2 h3 h4, SetsStay.putObj h2 h3⟩) (Below.refl _ _) (fun _ => rfl)
    (fun pre W => ((∃ u us, UN n w0.heap.size W b u r us ∧ gatherD n (pre.map PEl.dat) = (0, us.map PEl.dat)) ∧ Zed w.heap.size W ∧ PBox w1.heap.size b W) ∧ Below w.heap.size w W)
    (fun cd pre W => (cd = .ret ∧ ∃ er l, gatherD n (pre.map PEl.dat) = (er, l) ∧ er ≠ 0 ∧ W.heap[w.heap.size]? = some (.cells #[.int .i64 0, .slice none 0 0] 24 (0, 0)) ∧ W.heap[w.heap.size + 1]? = some (.cells #[.int .i64 er] 27 (0, 0))) ∧ Below w.heap.size w W)
    ?own1 ?own2 ?start
    (fun x => { tmps := #[.int .i64 D, .func (.func gf) #[] lb, undef, undef, .pointer (some ⟨w.heap.size, 0, none⟩), .pointer (some ⟨w.heap.size + 1, 0, none⟩), .pointer (some ⟨w1.heap.size, 0, none⟩), .slice x.A x.n x.c, undef,
      .pointer (some ⟨b, 0, none⟩), .func (.func gf) #[] lb, .slice x.A x.n x.c, undef, undef, undef, undef, undef, undef, undef, undef, undef, undef, undef], defers := [] }) ?assign ?body ?done ?stop
  case own1 => exact OwnFrom.and (OwnFrom.and (fun s V V' row hs hg hr => by obtain ⟨u, us, hU, hx⟩ := hs; exact ⟨u, us, hU.turn (by omega) hg hr, hx⟩) (OwnFrom.and (Own.from (Zed.own _) _) (Own.from (PBox.own _ _) _))) (ownFrom_below (Nat.le_refl _) (by omega))
  case own2 =>
    intro cd
    refine OwnFrom.and (Own.from (fun s V V' row hs hg hr => ?_) _) (ownFrom_below (Nat.le_refl _) (by omega))
    obtain ⟨hc, er, l, h2, h3, h4, h5⟩ := hs
    refine ⟨hc, er, l, h2, h3, (hg.block _ (Array.getElem?_eq_some_iff.1 h4).1 fun e => ?_).trans h4, (hg.block _ (Array.getElem?_eq_some_iff.1 h5).1 fun e => ?_).trans h5⟩
    · obtain ⟨o, ho, hf⟩ := hr _ e.symm
      rw [h4] at ho
      cases ho
      cases hf
    · obtain ⟨o, ho, hf⟩ := hr _ e.symm
      rw [h5] at ho
      cases ho
      cases hf
  case start => exact ⟨⟨⟨_, [], U2, rfl⟩, Z2, PB⟩, hB2⟩
  case assign =>
    intro l x W K hK
    dsimp only [fEnc]
    gi_wp2
    exact hK
  case body =>
    rintro l pre x W ⟨⟨⟨u, us, hU, hg⟩, hZ, hPB⟩, hB⟩ ⟨hC, hx⟩ _
    have hN := hU.lt
    obtain ⟨er, l', hadd⟩ : ∃ er l', addD n (us.map PEl.dat) (x.els.map CEl.d) = (er, l') := ⟨_, _, rfl⟩
    have HG := Lib.hid ((gather_next hg x.dat).trans hadd)
    have HN := Lib.hid (show w0.heap.size ≤ W.heap.size by have := (Array.getElem?_eq_some_iff.1 hZ.2).1; omega)
    have HA := Lib.hid (union_adds (c := x.c) hn W hU hC hx.1 hx.2 HN.out hadd)
    have c6 : W.cell? ⟨w1.heap.size, 0, none⟩ = some (.pointer (some ⟨b, 0, none⟩)) := by rw [cell_of_row W _ 0 _ _ (0, 0) hPB]; rfl
    have HZ := Lib.hid hZ
    have HPB := Lib.hid hPB
    clear hadd hg hx hC hZ hPB
    by_cases h0 : er = 0
    · subst h0
      gi_wp2_with (refine ⟨trivial, ?_⟩; gi_at_call 74; refine (CallsIn.inRound l (callsIn_wide.2 HA.out)).mono ?_; rintro e w' ⟨rfl, ⟨u', us', hl', hU'⟩, hb', hk'⟩)
      have hZ' : Zed w.heap.size w' := ⟨(hb'.block _ (by omega)).trans HZ.out.1, (hb'.block _ (by omega)).trans HZ.out.2⟩
      have hPB' : PBox w1.heap.size b w' := hk'.u.rows _ _ _ _ HPB.out (.inr (.inr rfl))
      have hb9 : Below w.heap.size W w' := hb'.mono (by omega)
      refine ⟨hk'.from (by omega), ⟨hb9, hk'.s⟩, ⟨⟨u', us', hU', ?_⟩, hZ', hPB'⟩, hB.trans hb9⟩
      rw [List.map_append, hl']
      exact HG.out
    · have h0' : (er != 0) = true := by simpa using h0
      have h0'' : (er == 0) = false := by simpa using h0
      have HE := Lib.hid h0
      clear h0
      gi_wp2_with (refine ⟨trivial, ?_⟩; gi_at_call 74; refine (CallsIn.inRound l (callsIn_wide.2 HA.out)).mono ?_; rintro e w' ⟨rfl, ⟨u', us', hl', hU'⟩, hb', hk'⟩; have hZ' : Zed w.heap.size w' := (⟨(hb'.block _ (by omega)).trans HZ.out.1, (hb'.block _ (by omega)).trans HZ.out.2⟩); have z0 : w'.cell? ⟨w.heap.size, 0, none⟩ = some (.int .i64 0) := (by rw [cell_of_row w' _ 0 _ _ (0, 0) hZ'.1]; rfl); have z1 : w'.cell? ⟨w.heap.size, 1, none⟩ = some (.slice none 0 0) := (by rw [cell_of_row w' _ 1 _ _ (0, 0) hZ'.1]; rfl); have z2 : w'.cell? ⟨w.heap.size + 1, 0, none⟩ = some (.int .i64 0) := (by rw [cell_of_row w' _ 0 _ _ (0, 0) hZ'.2]; rfl); have f0 : w'.frozen? ⟨w.heap.size, 0, none⟩ = false := (by simp [World.frozen?, hZ'.1]); have f1 : w'.frozen? ⟨w.heap.size, 1, none⟩ = false := (by simp [World.frozen?, hZ'.1]); have f2 : w'.frozen? ⟨w.heap.size + 1, 0, none⟩ = false := (by simp [World.frozen?, hZ'.2]); have HZ2 := Lib.hid hZ'; clear hZ')
      obtain ⟨⟨y1, y2⟩, yk, yb, _⟩ := zed_set HZ2.out (.int .i64 0) (.slice none 0 0) (.int .i64 er)
      refine ⟨(hk'.from (by omega)).trans (yk.from _), ⟨rfl, er, l', ?_, HE.out, y1, y2⟩, hB.trans ((hb'.mono (by omega)).trans yb)⟩
      rw [List.map_append]
      exact HG.out
  case done =>
    rintro D' ys W hD hS ⟨⟨⟨u, us, hU, hg⟩, hZ, hPB⟩, hB⟩ hK'
    have HS := Lib.hid hS
    clear hS
    have c6 : W.cell? ⟨w1.heap.size, 0, none⟩ = some (.pointer (some ⟨b, 0, none⟩)) := by rw [cell_of_row W _ 0 _ _ (0, 0) hPB]; rfl
    have z0 : W.cell? ⟨w.heap.size, 0, none⟩ = some (.int .i64 0) := by rw [cell_of_row W _ 0 _ _ (0, 0) hZ.1]; rfl
    have z1 : W.cell? ⟨w.heap.size, 1, none⟩ = some (.slice none 0 0) := by rw [cell_of_row W _ 1 _ _ (0, 0) hZ.1]; rfl
    have z2 : W.cell? ⟨w.heap.size + 1, 0, none⟩ = some (.int .i64 0) := by rw [cell_of_row W _ 0 _ _ (0, 0) hZ.2]; rfl
    have f0 : W.frozen? ⟨w.heap.size, 0, none⟩ = false := by simp [World.frozen?, hZ.1]
    have f1 : W.frozen? ⟨w.heap.size, 1, none⟩ = false := by simp [World.frozen?, hZ.1]
    have f2 : W.frozen? ⟨w.heap.size + 1, 0, none⟩ = false := by simp [World.frozen?, hZ.2]
    have HA := Lib.hid (union_pieces W hU)
    obtain ⟨uA, uc, rfl⟩ := hU.slice
    have HG := Lib.hid hg
    have HZ := Lib.hid hZ
    have HPB := Lib.hid hPB
    have HU := Lib.hid hU
    clear hg hZ hPB hU
    gi_wp2_with (refine ⟨trivial, ?_⟩; gi_at_call 75; refine (callsIn_wide.2 HA.out).mono ?_; rintro e w' ⟨rfl, rfl⟩)
    obtain ⟨⟨y1, y2⟩, yk, yb, yu⟩ := zed_set HZ.out (.int .i64 D) (.slice uA us.length uc) (.int .i64 0)
    have hK2 := yk.same D' _ hK' rfl
    have hU3 := yu (N := w0.heap.size) (by omega) HU.out
    refine ⟨by simp, .inl ⟨_, _, rfl, run_takeDeferred hK2, ?_⟩⟩
    generalize ((W.setCell ⟨w.heap.size, 0, none⟩ (.int .i64 D)).setCell ⟨w.heap.size, 1, none⟩ (.slice uA us.length uc)).setCell ⟨w.heap.size + 1, 0, none⟩ (.int .i64 0) = W3 at *
    have hg3 := grownBy_putObj' W3 D' (.deferred none)
    have hr3 : ∀ j, some D' = some j → w2.heap.size ≤ j ∧ ∃ o : Obj, W3.heap[j]? = some o ∧ o.isCells = false := fun j e => by cases e; exact ⟨hD, _, hK2, rfl⟩
    have hU4 := hU3.turn (by omega) hg3 hr3
    have y1' : (W3.putObj D' (.deferred none)).heap[w.heap.size]? = some (.cells #[.int .i64 D, .slice uA us.length uc] 24 (0, 0)) := (World.putObj_heap_other (by omega)).trans y1
    have y2' : (W3.putObj D' (.deferred none)).heap[w.heap.size + 1]? = some (.cells #[.int .i64 0] 27 (0, 0)) := (World.putObj_heap_other (by omega)).trans y2
    have hc0 : (W3.putObj D' (.deferred none)).cell? ⟨w.heap.size, 0, none⟩ = some (.int .i64 D) := by rw [cell_of_row _ _ 0 _ _ (0, 0) y1']; rfl
    have hc1 : (W3.putObj D' (.deferred none)).cell? ⟨w.heap.size, 1, none⟩ = some (.slice uA us.length uc) := by rw [cell_of_row _ _ 1 _ _ (0, 0) y1']; rfl
    have hc2 : (W3.putObj D' (.deferred none)).cell? ⟨w.heap.size + 1, 0, none⟩ = some (.int .i64 0) := by rw [cell_of_row _ _ 0 _ _ (0, 0) y2']; rfl
    have hB4 := hB.trans (yb.trans (belowK_b (w := w) (Nat.le_refl _) W3 D' (.deferred (some [])) (.deferred none) (by have := hB2.size; omega) hK2 rfl rfl))
    obtain ⟨A5, c5, he5, hP5, hA5⟩ := hU4.pieces
    cases he5
    have HGE := Lib.hid (show gatherD n L = (0, us.map PEl.dat) from HS.out ▸ HG.out)
    refine ⟨.tuple #[.agg #[.int .i64 D, .slice uA us.length uc], .int .i64 0], ?_, ?_⟩
    · simp [results, Tryz.f44, go_sem, hc0, hc1, hc2]
    · rw [HGE.out]
      exact ⟨_, _, _, us, rfl, hP5, hU4.ok, rfl, (fun h => let ⟨g, o, h1, h2⟩ := hA5 h; ⟨g, o, h1, by omega⟩), hB4⟩
  case stop =>
    rintro D' cd pre W hD ⟨k, hk⟩ ⟨⟨rfl, er, l, hg, her, hz1, hz2⟩, hB⟩ hK'
    have HS := Lib.hid hk
    clear hk
    gi_wp2
    refine ⟨by simp, .inl ⟨_, _, rfl, run_takeDeferred hK', ?_⟩⟩
    have y1' : (W.putObj D' (.deferred none)).heap[w.heap.size]? = some (.cells #[.int .i64 0, .slice none 0 0] 24 (0, 0)) := (World.putObj_heap_other (by omega)).trans hz1
    have y2' : (W.putObj D' (.deferred none)).heap[w.heap.size + 1]? = some (.cells #[.int .i64 er] 27 (0, 0)) := (World.putObj_heap_other (by omega)).trans hz2
    have hc0 : (W.putObj D' (.deferred none)).cell? ⟨w.heap.size, 0, none⟩ = some (.int .i64 0) := by rw [cell_of_row _ _ 0 _ _ (0, 0) y1']; rfl
    have hc1 : (W.putObj D' (.deferred none)).cell? ⟨w.heap.size, 1, none⟩ = some (.slice none 0 0) := by rw [cell_of_row _ _ 1 _ _ (0, 0) y1']; rfl
    have hc2 : (W.putObj D' (.deferred none)).cell? ⟨w.heap.size + 1, 0, none⟩ = some (.int .i64 er) := by rw [cell_of_row _ _ 0 _ _ (0, 0) y2']; rfl
    have hB4 := hB.trans (belowK_b (w := w) (Nat.le_refl _) W D' (.deferred (some [])) (.deferred none) (by have := hB2.size; omega) hK' rfl rfl)
    have HGE := Lib.hid (show gatherD n L = (er, l) by
      rw [HS.out] at hg
      rw [← List.take_append_drop k L, gather_stuck (by rw [hg]; exact her), hg])
    refine ⟨.tuple #[.agg #[.int .i64 0, .slice none 0 0], .int .i64 er], ?_, ?_⟩
    · simp [results, Tryz.f44, go_sem, hc0, hc1, hc2]
    · rw [HGE.out]
      refine ⟨none, 0, 0, [], ?_, ⟨rfl, by omega, fun h => absurd h (by omega), fun p h => nomatch h⟩, (fun p h => nomatch h), ?_, (fun h => absurd h (by omega)), hB4⟩
      · show Ending.returned (.tuple #[.agg #[.int .i64 0, .slice none 0 0], .int .i64 er]) = .returned (.tuple #[.agg #[.int .i64 (if er ≠ 0 then 0 else D), .slice none 0 0], .int .i64 er])
        rw [if_pos her]
      · show [] = (if er ≠ 0 then [] else l)
        rw [if_pos her]
end Go.Proofs.YtkgnlloioaobiaaGreat
