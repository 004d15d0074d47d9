/-
  Part 1 of the texts that the laws stand on.
-/
import Derived.WalkKit
import Derived.ProofKit
import Derived.OpenShut
import Derived.SizedLaws
import Derived.Handy
import Derived.Deep.Draws
import Derived.Test.YtkgnlloioaobiaaGreatProg
import Derived.Deep.QuietTactic
import Derived.BigQuiet
import Derived.Lib.Hide
import Derived.OwnWalk
import Derived.Laws.OwnMore
import Derived.RangeFuncNested
import Derived.RangeFuncBound
import Derived.RangeFuncCalls
import Derived.RangeFuncLeaves
import Derived.Shelf.Abstract
import Derived.Shelf.RegionOpen
import Derived.OwnWalkIn
import Derived.TacticsInMore
import Derived.LoopNIn
import Derived.LoopIn
import Derived.OrdersIn
import Derived.OrdersHeld
import Derived.Orders
import Derived.TacticsIn
import Derived.Deep.RegionHeld3
import Derived.BigRegion
import Derived.Deep.Cut
import Derived.Laws.AppendOwn
import Derived.Below
import Derived.Deep.AppendLies
import Derived.Lib.SliceRun
import Derived.Maps.AppendAt
import Derived.Sort.Grow
import Derived.Deep.LoopGhost
import Derived.Laws.IdiomStrings
import Derived.Lib.SmallJoins
import Derived.Deep.Strs
import Derived.RangeFuncWrites
import Derived.Maps.OwnOps
import Derived.Maps.OwnSet
import Derived.Maps.Views
import Derived.Laws.AppendOwnNone
import Derived.Lib.AppendZerosOnto
import Derived.Lib.Walk
import Derived.Shelf.SlSortCmp.WholeK
import Derived.Deep.RegionLaw
import Derived.Test.YtkgnlloioaobiaaGreatJf
set_option linter.unusedVariables false
set_option linter.unusedSimpArgs false
set_option maxRecDepth 100000
namespace Go.Proofs.YtkgnlloioaobiaaGreat
open Go.RowKit
def coordB (n : Int) : Bool := decide (-4294967296 ≤ n ∧ n ≤ 4294967296)
theorem coordB_true {n : Int} : coordB n = true ↔ -4294967296 ≤ n ∧ n ≤ 4294967296 := by unfold coordB; simp
theorem coord_any (n : Int) (w : World) : Calls Tryz.prog 63 #[.int .i64 n] w fun e w' => e = .returned (.bool (coordB n)) ∧ w = w' := by
  by_cases h1 : -4294967296 ≤ n
  all_goals
    go_enter Tryz.func63, Tryz.ntmps63
    go_wp2
    go_ret
    exact ⟨ret_bool (by unfold coordB; simp; omega), rfl⟩
end Go.Proofs.YtkgnlloioaobiaaGreat
namespace Go.Proofs.YtkgnlloioaobiaaGreat
open Go.RowKit
theorem ints_store2 {w : World} {g b n : Nat} {xs : List Int} (h : IntsAt w (some ⟨g, 0, none⟩) n xs) {x : Option Addr} (hx : x = some ⟨g, 0, none⟩) (hb : b ≠ g) (u v : Value) : IntsAt ((w.setCell ⟨b, 0, none⟩ u).setCell ⟨b, 1, none⟩ v) x n xs := by
  subst hx
  refine ⟨h.len, h.small, h.wf, fun hn => ?_⟩
  obtain ⟨b', off, e, hlt, hc⟩ := h.cells hn
  obtain ⟨rfl, rfl⟩ : g = b' ∧ 0 = off := by simpa using e
  refine ⟨g, 0, rfl, by simpa using hlt, fun j hj => ?_⟩
  rw [World.cell?_setCell_far _ ⟨b, 1, none⟩ ⟨g, 0 + j, none⟩ _ hb, World.cell?_setCell_far _ ⟨b, 0, none⟩ ⟨g, 0 + j, none⟩ _ hb]
  exact hc j hj
end Go.Proofs.YtkgnlloioaobiaaGreat
namespace Go.Proofs.YtkgnlloioaobiaaGreat
open Go.RowKit
theorem ints_far {w : World} {A : Option Addr} {n : Nat} {xs : List Int} (h : IntsAt w A n xs) {b : Nat} (hf : n = 0 ∨ ∃ g, A = some ⟨g, 0, none⟩ ∧ b ≠ g) (u v : Value) : IntsAt ((w.setCell ⟨b, 0, none⟩ u).setCell ⟨b, 1, none⟩ v) A n xs := by
  rcases hf with rfl | ⟨g, rfl, hg⟩
  · exact ⟨h.len, h.small, h.wf, fun hn => absurd hn (by omega)⟩
  · exact ints_store2 h rfl hg u v
end Go.Proofs.YtkgnlloioaobiaaGreat
namespace Go.Proofs.YtkgnlloioaobiaaGreat
open Go.RowKit
section
variable {ops : Array Oper} {o : Oper} {a : Act} {w : World} {Q : Exit → Act → World → Prop}
theorem wpList_append_ints {rest : List Oper} (hgd : o.guard = none) (s x : Operand) (ho : o.op = .call { callee := .builtin .append, args := #[s, x], argTypes := #[38, 38] })
    (B : Nat) (v : Value) (n : Nat) (xs : List Value) (hs : a.eval s = v) (hown : w.ownsRow B 3 1 v n xs) (A : Option Addr) (m c : Nat) (ys : List Int) (hx : a.eval x = .slice A m c) (hI : IntsAt w A m ys) (hnm : n + m ≤ 17592186044416) (hB : B ≤ w.heap.size)
    (h : ∀ A' c' w', w'.ownsRow B 3 1 (.slice A' (n + m) c') (n + m) (xs ++ vals ys) → w.grownBy w' v.ownBlock → wpList Tryz.prog ops Q rest (a.put o.dst (.slice A' (n + m) c')) w') : wpList Tryz.prog ops Q (o :: rest) a w :=
  wpList_plain hgd fun _ hK => by
    obtain ⟨v', w', h1, h2, h3, _⟩ := append_ints w B o.type v n xs hown A m c ys hI hnm hB
    obtain ⟨A', c', rfl⟩ := own_slice h2
    unfold Oper.wp
    rw [exec_append ho hs hx h1, Oper.upon_value]
    exact hK _ _ (h A' c' w' h2 h3)
end
end Go.Proofs.YtkgnlloioaobiaaGreat
namespace Go.Proofs.YtkgnlloioaobiaaGreat
open Go.RowKit
theorem sets_one {w : World} {D : Int} {A : Option Addr} {n c : Nat} {ps : List PEl} (h : PiecesAt w A n ps) : SetsAt (w.alloc (.cells #[.int .i64 D, .slice A n c] 24)) (some ⟨w.heap.size, 0, none⟩) 1 [⟨D, A, n, c, ps⟩] := by
  have X := SetBox.new w D A n c
  refine ⟨rfl, by omega, fun _ => ⟨w.heap.size, 0, rfl, X.lt, fun j s hs => ?_⟩, fun s hs => ?_⟩
  · match j, hs with
    | 0, hs =>
      simp at hs
      subst hs
      exact ⟨X.c0, X.c1⟩
    | j + 1, hs => simp at hs
  · rw [List.mem_singleton.1 hs]
    exact h.step (below_alloc w _)
theorem few_one {w : World} {P C : Int} {D : Int} {A : Option Addr} {n c : Nat} {ps : List PEl} (g c1 : Nat) (hg : w.heap.size = g) (h : PiecesAt w A n ps) :
    Calls Tryz.prog 9 #[.int .i64 P, .int .i64 C, .slice (some ⟨g, 0, none⟩) 1 c1] (w.alloc (.cells #[.int .i64 D, .slice A n c] 24)) fun e w' => e = .returned (.bool (fewB P C [⟨D, A, n, c, ps⟩])) ∧ Below w.heap.size w w' := by
  subst hg
  refine (few P C _ 1 c1 _ _ (sets_one h)).mono ?_
  rintro e w' ⟨he, hb⟩
  exact ⟨he, below_step (below_alloc w _) hb⟩
end Go.Proofs.YtkgnlloioaobiaaGreat
namespace Go.Proofs.YtkgnlloioaobiaaGreat
open Go.ChangeShapes Go.WideShapes Go.ChangeAt Go.RowKit
theorem grow_zero (w : World) : Calls Tryz.prog 87 #[.slice none 0 0, .int .i64 0] w fun e w' => e = .returned (.slice none 0 0) ∧ w = w' := by
  go_enter Tryz.func87, Tryz.ntmps87
  go_wp2
  go_ret
  exact ⟨rfl, rfl⟩
set_option maxHeartbeats 2000000 in
theorem grow_some (n : Nat) (h0 : 0 < n) (hn : n ≤ 1000) (w : World) : Calls Tryz.prog 87 #[.slice none 0 0, .int .i64 n] w fun e w' =>
    ∃ cap, e = .returned (.slice (some ⟨w.heap.size, 0, none⟩) 0 cap) ∧ w'.ownsRow w.heap.size 3 1 (.slice (some ⟨w.heap.size, 0, none⟩) 0 cap) 0 [] ∧ Below w.heap.size w w' := by
  obtain ⟨i0, hi, hz0, hz1, hz2⟩ := info_parts infoInt
  have hg := fun ty => Lib.run_append_grow_zeros (P := Tryz.prog) w 38 3 ty 3 i0 (.int .i64 0) .i64 .i64 Tryz.underlying38 Tryz.underlying3 hi hz0 none 0 0 [] (run_firstCells_none _ _ _ _ _) n h0 (by omega) (by omega) (by omega) (by rw [hz2]; omega) (growslice_fits (by omega) (by rw [hz2]; omega))
  have hge := grownCap_ge w (0 + n) 0 3
  have hle := grownCap_le_maxLen w (0 + n) 0 3 (by unfold maxLen; omega)
  simp only [Nat.zero_add] at hg hge hle
  obtain ⟨G, hG⟩ : ∃ G, G = grownCap w n 0 3 := ⟨_, rfl⟩
  rw [← hG] at hg hge hle
  clear hG
  obtain ⟨cs, hcs⟩ : ∃ cs, cs = (([] : List Value).toArray ++ Builtin.zeroCells (Value.int .i64 0).cells n ++ Builtin.zeroCells (Value.int .i64 0).cells (G - n)) := ⟨_, rfl⟩
  have hsz : cs.size = G := by
    rw [hcs]
    simp [Builtin.zeroCells, Value.cells]
    omega
  rw [← hcs] at hg
  clear hcs
  have hn0 : (0 : Int) < (n : Int) := by omega
  have hG1 : (n : Int) ≤ (G : Int) := by omega
  have hfin : (w.drew.alloc (.cells cs 3)).ownsRow w.heap.size 3 1 (.slice (some ⟨w.heap.size, 0, none⟩) 0 G) 0 [] :=
    ⟨rfl, .inr ⟨w.heap.size, G, cs, rfl, Nat.le_refl _, heap_alloc_new w.drew _, by omega, hle, by omega, by simp⟩⟩
  have hB : Below w.heap.size w (w.drew.alloc (.cells cs 3)) := ((Below.refl _ w).drew).alloc (Nat.le_refl _) _
  go_enter Tryz.func87, Tryz.ntmps87
  go_wp2_with (at_builtin; refine Lib.wpList_append_run _ rfl _ _ _ _ rfl _ _ rfl rfl _ _ (hg _) ?_)
  all_goals
    go_ret
    exact ⟨G, rfl, hfin, hB⟩
def cat (P : Nat → Part) : Nat → List Int
  | 0 => []
  | k + 1 => cat P k ++ (P k).xs
theorem tot_mono (P : Nat → Part) {i m : Nat} (h : i ≤ m) : tot P i ≤ tot P m := by
  induction h with
  | refl => exact Nat.le_refl _
  | step _ ih => exact Nat.le_trans ih (by simp [tot])
def PartsAt (w : World) (b off m : Nat) (P : Nat → Part) : Prop :=
  ∀ j, j < m → w.cell? ⟨b, off + j, none⟩ = some (.slice (P j).A (P j).n (P j).c) ∧ IntsAt w (P j).A (P j).n (P j).xs ∧ ((P j).A = none → (P j).n = 0 ∧ (P j).c = 0)
theorem own_base {w : World} {base : Nat} {e : TypeId} {size n k : Nat} {v : Value} {xs : List Value} (h : w.ownsRow base e size v n xs) (hk : v.ownBlock = some k) : base ≤ k := by
  obtain ⟨_, ⟨rfl, _⟩ | ⟨g, cap, cur, rfl, hb, _⟩⟩ := h
  · cases hk
  · cases hk; exact hb
theorem own_cap {w : World} {base : Nat} {e : TypeId} {size g n m cap : Nat} {xs : List Value} (h : w.ownsRow base e size (.slice (some ⟨g, 0, none⟩) m cap) n xs) : n ≤ cap ∧ cap ≤ 9223372036854775807 := by
  obtain ⟨_, ⟨h, _⟩ | ⟨g', cap', cur, h, _, _, h1, h2, _⟩⟩ := h
  · cases h
  · simp only [Value.slice.injEq] at h
    unfold maxLen at h2
    omega
set_option maxHeartbeats 4000000 in
theorem concat_in (b off m cm : Nat) (P : Nat → Part) (w : World) (hP : PartsAt w b off m P) (hb : b < w.heap.size) (hm : m ≤ 1000) (ht : tot P m ≤ 1000) :
    Calls Tryz.prog 62 #[.slice (some ⟨b, off, none⟩) m cm] w fun e w' =>
      ∃ v, e = .returned v ∧ ((v = .slice none 0 0 ∧ tot P m = 0) ∨ ∃ g cap, v = .slice (some ⟨g, 0, none⟩) (tot P m) cap ∧ w.heap.size ≤ g ∧ OwnRow w' g (tot P m) (cat P m) ∧ tot P m ≤ cap ∧ cap ≤ 9223372036854775807) ∧ Below w.heap.size w w' := by
  obtain ⟨i0, hi, hz0, hz1, hz2⟩ := info_parts infoInt
  go_enter Tryz.func62, Tryz.ntmps62
  go_wp2
  go_loop [3, 11] (fun u v => ∃ i : Nat, i ≤ m ∧ v = .int .i64 i ∧ u = .int .i64 (tot P i : Nat)) (fun _ v => m - (intOf v).toNat)
  case atStart => exact ⟨0, Nat.zero_le _, rfl, rfl⟩
  case round =>
    obtain ⟨i, hi', rfl, rfl⟩ := hrel
    by_cases hlt : i < m
    · obtain ⟨hcell, hI, hnil⟩ := hP i hlt
      have h1 := tot_mono P (show i + 1 ≤ m by omega)
      have HT := Lib.hid (show tot P (i + 1) = tot P i + (P i).n from rfl)
      have h2 : tot P i + (P i).n ≤ 1000 := by rw [← HT.out]; omega
      have hlt' : (i : Int) < m := by omega
      clear hI hnil h1
      go_wp2
      go_round
      case rel => exact ⟨i + 1, by omega, by go_num, by rw [HT.out]; go_num⟩
      case measure => simp [intOf]; omega
    · obtain rfl : i = m := by omega
      have hge : ¬ i < i := hlt
      by_cases h0 : tot P i = 0
      · have H0 := Lib.hid h0
        go_wp2_with (go_at_call 87; refine (grow_zero _).mono ?_; rintro e w' ⟨rfl, rfl⟩)
        go_loopw [6, 27] (fun u v wr => ∃ j : Nat, j ≤ i ∧ v = .int .i64 j ∧ wr.ownsRow w.heap.size 3 1 u (tot P j) ((cat P j).map (Value.int .i64)) ∧ Below w.heap.size w wr ∧ (tot P i = 0 → u = .slice none 0 0)) (fun _ v _ => i - (intOf v).toNat)
        case atStart => exact ⟨0, Nat.zero_le _, rfl, World.ownsRow_nil _ _ _ _, Below.refl _ _, fun _ => rfl⟩
        case round =>
          obtain ⟨j, hj, rfl, hown, hBr, hnilv⟩ := hrel
          have HNV := Lib.hid hnilv
          clear hnilv
          by_cases hlt : j < i
          · obtain ⟨hcell0, hI, hnil⟩ := hP j hlt
            have hcell := (hBr.cell (p := ⟨b, off + j, none⟩) hb).trans hcell0
            have h2 : tot P j + (P j).n ≤ 1000 := Nat.le_trans (tot_mono P (show j + 1 ≤ i by omega)) ht
            have hz : tot P i = 0 → (P j).n = 0 := fun h => by
              have h4 : tot P j + (P j).n ≤ tot P i := tot_mono P (show j + 1 ≤ i by omega)
              omega
            have HZ := Lib.hid hz
            have HS := Lib.hid (show tot P (j + 1) = tot P j + (P j).n ∧ cat P (j + 1) = cat P j ++ (P j).xs from ⟨rfl, rfl⟩)
            have hlt' : (j : Int) < i := by omega
            clear hcell0 hz
            generalize tot P j = tj at *
            generalize cat P j = cj at *
            generalize hpn : (P j).n = pn at *
            generalize (P j).c = pc at *
            generalize (P j).xs = px at *
            clear hpn
            have HI := Lib.hid hI
            cases hA : (P j).A with
            | none =>
              rw [hA] at hcell
              obtain ⟨rfl, rfl⟩ := hnil hA
              have HX := Lib.hid (show px = [] from List.eq_nil_of_length_eq_zero HI.out.len)
              clear hA hnil hI
              go_wp2_with (at_builtin; refine wpList_append_own_none rfl _ _ 38 rfl w.heap.size 3 i0 1 Tryz.underlying38 hi _ _ _ rfl hown rfl ?_)
              go_roundw
              case rel => exact ⟨j + 1, by omega, by go_num, (by rw [HS.out.1, HS.out.2, HX.out]; simpa using hown), hBr, HNV.out⟩
              case measure => simp [intOf]; omega
            | some ad =>
              rw [hA] at hcell
              have HC := Lib.hid (show ∀ q a, px[q]? = some a → wr.cell? (ad.add q) = some (.int .i64 a) from fun q a hq => by
                obtain ⟨hql, e⟩ := List.getElem?_eq_some_iff.1 hq
                have hpos : q < pn := by rw [← HI.out.len]; exact hql
                obtain ⟨b', off', e', hlt', hc'⟩ := HI.out.cells (by omega)
                rw [hA] at e'
                obtain rfl : ad = ⟨b', off', none⟩ := by simpa using e'
                rw [add_plain, (hBr.cell (p := ⟨b', off' + q, none⟩) hlt').trans (hc' q hpos)]
                simp [hq])
              clear hA hnil hI
              go_wp2_with (at_builtin; refine wpList_append_own _ rfl _ _ 38 rfl w.heap.size 3 i0 (.int .i64 0) 1 8 Tryz.underlying38 hi hz0 hz1 hz2 rfl (by decide) _ _ _ rfl hown ad pn pc (px.map (Value.int .i64)) rfl (by simpa using HI.out.len) (by intro q u hq; simp only [List.getElem?_map, Option.map_eq_some_iff] at hq; obtain ⟨a, ha, rfl⟩ := hq; exact HC.out q a ha) (by intro u hu; simp only [List.mem_map] at hu; obtain ⟨a, _, rfl⟩ := hu; rfl) (by unfold maxLen; omega) (by omega) hBr.size ?_; intro v' w2 hown' hgrow hv'; have hsz2 := hBr.size; have hB2 := hBr.grown hgrow hsz2 (fun k e => own_base hown e); have hnew := (show tot P i = 0 → v' = .slice none 0 0 from fun h => hv'.2 ⟨HNV.out h, HZ.out h⟩); have HN2 := Lib.hid hnew; clear hnew hv' hgrow)
              go_roundw
              case rel => exact ⟨j + 1, by omega, by go_num, (by rw [HS.out.1, HS.out.2, List.map_append]; exact hown'), hB2, HN2.out⟩
              case measure => simp [intOf]; omega
          · obtain rfl : j = i := by omega
            have hge : ¬ j < j := hlt
            go_wp2
            go_ret
            exact ⟨_, rfl, .inl ⟨HNV.out h0, h0⟩, hBr⟩
      · have h1 : 0 < tot P i := by omega
        go_wp2_with (go_at_call 87; refine (grow_some _ h1 ht _).mono ?_; rintro e w1 ⟨cap, rfl, hown, hB⟩)
        go_loopw [6, 27] (fun u v wr => ∃ j : Nat, j ≤ i ∧ v = .int .i64 j ∧ wr.ownsRow w.heap.size 3 1 u (tot P j) ((cat P j).map (Value.int .i64)) ∧ Below w.heap.size w wr ∧ (tot P i = 0 → u = .slice none 0 0)) (fun _ v _ => i - (intOf v).toNat)
        case atStart => exact ⟨0, Nat.zero_le _, rfl, hown, hB, fun h => absurd h (by omega)⟩
        case round =>
          obtain ⟨j, hj, rfl, hown, hBr, hnilv⟩ := hrel
          have HNV := Lib.hid hnilv
          clear hnilv
          by_cases hlt : j < i
          · obtain ⟨hcell0, hI, hnil⟩ := hP j hlt
            have hcell := (hBr.cell (p := ⟨b, off + j, none⟩) hb).trans hcell0
            have h2 : tot P j + (P j).n ≤ 1000 := Nat.le_trans (tot_mono P (show j + 1 ≤ i by omega)) ht
            have hz : tot P i = 0 → (P j).n = 0 := fun h => by
              have h4 : tot P j + (P j).n ≤ tot P i := tot_mono P (show j + 1 ≤ i by omega)
              omega
            have HZ := Lib.hid hz
            have HS := Lib.hid (show tot P (j + 1) = tot P j + (P j).n ∧ cat P (j + 1) = cat P j ++ (P j).xs from ⟨rfl, rfl⟩)
            have hlt' : (j : Int) < i := by omega
            clear hcell0 hz
            generalize tot P j = tj at *
            generalize cat P j = cj at *
            generalize hpn : (P j).n = pn at *
            generalize (P j).c = pc at *
            generalize (P j).xs = px at *
            clear hpn
            have HI := Lib.hid hI
            cases hA : (P j).A with
            | none =>
              rw [hA] at hcell
              obtain ⟨rfl, rfl⟩ := hnil hA
              have HX := Lib.hid (show px = [] from List.eq_nil_of_length_eq_zero HI.out.len)
              clear hA hnil hI
              go_wp2_with (at_builtin; refine wpList_append_own_none rfl _ _ 38 rfl w.heap.size 3 i0 1 Tryz.underlying38 hi _ _ _ rfl hown rfl ?_)
              go_roundw
              case rel => exact ⟨j + 1, by omega, by go_num, (by rw [HS.out.1, HS.out.2, HX.out]; simpa using hown), hBr, HNV.out⟩
              case measure => simp [intOf]; omega
            | some ad =>
              rw [hA] at hcell
              have HC := Lib.hid (show ∀ q a, px[q]? = some a → wr.cell? (ad.add q) = some (.int .i64 a) from fun q a hq => by
                obtain ⟨hql, e⟩ := List.getElem?_eq_some_iff.1 hq
                have hpos : q < pn := by rw [← HI.out.len]; exact hql
                obtain ⟨b', off', e', hlt', hc'⟩ := HI.out.cells (by omega)
                rw [hA] at e'
                obtain rfl : ad = ⟨b', off', none⟩ := by simpa using e'
                rw [add_plain, (hBr.cell (p := ⟨b', off' + q, none⟩) hlt').trans (hc' q hpos)]
                simp [hq])
              clear hA hnil hI
              go_wp2_with (at_builtin; refine wpList_append_own _ rfl _ _ 38 rfl w.heap.size 3 i0 (.int .i64 0) 1 8 Tryz.underlying38 hi hz0 hz1 hz2 rfl (by decide) _ _ _ rfl hown ad pn pc (px.map (Value.int .i64)) rfl (by simpa using HI.out.len) (by intro q u hq; simp only [List.getElem?_map, Option.map_eq_some_iff] at hq; obtain ⟨a, ha, rfl⟩ := hq; exact HC.out q a ha) (by intro u hu; simp only [List.mem_map] at hu; obtain ⟨a, _, rfl⟩ := hu; rfl) (by unfold maxLen; omega) (by omega) hBr.size ?_; intro v' w2 hown' hgrow hv'; have hsz2 := hBr.size; have hB2 := hBr.grown hgrow hsz2 (fun k e => own_base hown e); have hnew := (show tot P i = 0 → v' = .slice none 0 0 from fun h => hv'.2 ⟨HNV.out h, HZ.out h⟩); have HN2 := Lib.hid hnew; clear hnew hv' hgrow)
              go_roundw
              case rel => exact ⟨j + 1, by omega, by go_num, (by rw [HS.out.1, HS.out.2, List.map_append]; exact hown'), hB2, HN2.out⟩
              case measure => simp [intOf]; omega
          · obtain rfl : j = i := by omega
            have hge : ¬ j < j := hlt
            go_wp2
            go_ret
            obtain ⟨g, cap, rfl, hg, hr⟩ := ownRow_of_owns hown h1
            exact ⟨_, rfl, .inr ⟨g, cap, rfl, hg, hr, own_cap hown⟩, hBr⟩
end Go.Proofs.YtkgnlloioaobiaaGreat
namespace Go.Proofs.YtkgnlloioaobiaaGreat
open Go.RowKit
theorem below_step0 {w w' : World} {o : Obj} (h : Below w.heap.size (w.alloc o).drew w') : Below w.heap.size w w' := ((below_alloc w o).drew).trans h
theorem ints_sub {w : World} {b off n d k : Nat} {xs : List Int} (hl : xs.length = n) (hs : n ≤ 17592186044416) (hw : ∀ x ∈ xs, -9223372036854775808 ≤ x ∧ x ≤ 9223372036854775807) (hb : b < w.heap.size)
    (hc : ∀ j, j < n → w.cell? ⟨b, off + j, none⟩ = some (.int .i64 (xs[j]?.getD 0))) (hdk : d + k ≤ n) : IntsAt w (some ⟨b, off + d, none⟩) k ((xs.drop d).take k) := by
  refine ⟨by simp [hl]; omega, by omega, fun x hx => hw x (List.mem_of_mem_drop (List.mem_of_mem_take hx)), fun _ => ⟨b, off + d, rfl, hb, fun j hj => ?_⟩⟩
  rw [show off + d + j = off + (d + j) by omega, hc (d + j) (by omega)]
  simp [hj, List.getElem?_take]
def cutP (b off n c i : Nat) (xs : List Int) (j : Nat) : Part :=
  if j = 0 then ⟨some ⟨b, off, none⟩, i, c, xs.take i⟩ else ⟨(if c = i + 1 then some ⟨b, off, none⟩ else some ⟨b, off + (i + 1), none⟩), n - (i + 1), c - (i + 1), xs.drop (i + 1)⟩
theorem cut_parts {w : World} {b off n c i : Nat} {xs : List Int} (hl : xs.length = n) (hs : n ≤ 17592186044416) (hw : ∀ x ∈ xs, -9223372036854775808 ≤ x ∧ x ≤ 9223372036854775807) (hb : b < w.heap.size)
    (hc : ∀ j, j < n → w.cell? ⟨b, off + j, none⟩ = some (.int .i64 (xs[j]?.getD 0))) (hi : i < n) (hnc : n ≤ c) :
    PartsAt (w.alloc (.cells #[.slice (some ⟨b, off, none⟩) i c, .slice (if c = i + 1 then some ⟨b, off, none⟩ else some ⟨b, off + (i + 1), none⟩) (n - (i + 1)) (c - (i + 1))] 38)).drew w.heap.size 0 2 (cutP b off n c i xs) := by
  obtain ⟨o, ho⟩ : ∃ o, o = (Obj.cells #[.slice (some ⟨b, off, none⟩) i c, .slice (if c = i + 1 then some ⟨b, off, none⟩ else some ⟨b, off + (i + 1), none⟩) (n - (i + 1)) (c - (i + 1))] 38) := ⟨_, rfl⟩
  have hst : Below w.heap.size w (w.alloc o).drew := (below_alloc w o).drew
  intro j hj
  rcases (show j = 0 ∨ j = 1 by omega) with rfl | rfl
  · refine ⟨?_, ?_, fun h => by simp [cutP] at h⟩
    · rw [World.cell?_drew, World.cell?_alloc_at _ _ _ _ rfl]; rfl
    · rw [← ho]
      have h := ints_sub (d := 0) (k := i) hl hs hw hb hc (by omega)
      exact IntsAt.step (by simpa [cutP] using h) hst
  · refine ⟨?_, ?_, fun h => by
      have h' : (if c = i + 1 then some (⟨b, off, none⟩ : Addr) else some ⟨b, off + (i + 1), none⟩) = none := h
      split at h' <;> cases h'⟩
    · rw [World.cell?_drew, World.cell?_alloc_at _ _ _ _ rfl]; rfl
    · rw [← ho]
      refine IntsAt.step ?_ hst
      show IntsAt w (if c = i + 1 then some ⟨b, off, none⟩ else some ⟨b, off + (i + 1), none⟩) (n - (i + 1)) (xs.drop (i + 1))
      have h := ints_sub (d := i + 1) (k := n - (i + 1)) hl hs hw hb hc (by omega)
      have e : (xs.drop (i + 1)).take (n - (i + 1)) = xs.drop (i + 1) := List.take_of_length_le (by simp [hl])
      rw [e] at h
      by_cases h1 : c = i + 1
      · have h0 : n - (i + 1) = 0 := by omega
        rw [h0] at h ⊢
        exact ⟨h.len, h.small, h.wf, fun hn => absurd hn (by omega)⟩
      · rw [if_neg h1]; exact h
theorem cut_tot {b off n c i : Nat} {xs : List Int} (hi : i < n) : tot (cutP b off n c i xs) 2 = n - 1 := by simp [tot, cutP]; omega
theorem cut_cat {b off n c i : Nat} {xs : List Int} : cat (cutP b off n c i xs) 2 = xs.eraseIdx i := by simp [cat, cutP, List.eraseIdx_eq_take_drop_succ]
end Go.Proofs.YtkgnlloioaobiaaGreat
namespace Go.Proofs.YtkgnlloioaobiaaGreat
open Go.RowKit
theorem run_eql_conds_nil (w : World) (A : Option Addr) (n c : Nat) :
    (binOp .eql 34 (.slice A n c) (.slice none 0 0)).run Tryz.prog w = .ok (.bool A.isNone) w := by
  have h : ∀ d : Nat, (Op.equalIn (d + 1) 34 (.slice A n c) (.slice none 0 0)).run Tryz.prog w = .ok A.isNone w := fun d => by
    cases A <;> simp [Op.equalIn, run_underlying Tryz.underlying34]
  simp only [binOp]
  simp [Op.equal, Op.maxDepth, h 9999]
end Go.Proofs.YtkgnlloioaobiaaGreat
namespace Go.Proofs.YtkgnlloioaobiaaGreat
open Go.ChangeShapes Go.WideShapes Go.ChangeAt Go.RowKit
section
variable {N : Nat} {W W' : World} {A : Option Addr} {n : Nat} {xs : List Int}
end
section
variable {N : Nat} {W W' : World} {u : Value} {els : List CEl}
end
section
variable {ops : Array Oper} {o : Oper} {a : Act} {w : World} {Q : Exit → Act → World → Prop}
end
theorem any_clone (A : Option Addr) (m c : Nat) (els : List CEl) (w : World) (C0 : CondsAt w A m els) (hm : m ≤ 1000) :
    Calls Tryz.prog 86 #[.slice A m c] w fun e w' => ∃ A' c', e = .returned (.slice A' els.length c') ∧ CL3 w.heap.size w' (.slice A' els.length c') els ∧ Below w.heap.size w w' := by
  have heq := fun w => run_eql_conds_nil w A m c
  have hl := C0.len
  cases A with
  | none =>
    obtain rfl : m = 0 := by
      rcases Nat.eq_zero_or_pos m with h0 | h0
      · exact h0
      · obtain ⟨b, off, hA, _⟩ := C0.cells h0
        cases hA
    obtain rfl : els = [] := List.length_eq_zero_iff.1 hl
    go_enter Tryz.func86, Tryz.ntmps86
    go_wp2
    go_ret
    exact ⟨none, 0, rfl, CL3.nil _ _, Below.refl _ _⟩
  | some ad =>
    have hB0 := below_alloc w (.cells #[] 56)
    have HL0 := cl3_empty (N := w.heap.size) (w := w.alloc (.cells #[] 56)) (g := w.heap.size) (Nat.le_refl _) (heap_alloc_new w (.cells #[] 56))
    have C1 := C0.step hB0
    have R1 := fun e he => (RowAny.of_ints (C0.ints e he) (Nat.le_refl _)).step hB0
    have h1 : ([] : List CEl).length + m ≤ 100000 := by simp; omega
    have HN := Lib.hid hB0.size
    have HB := Lib.hid hB0
    clear C0 hB0 hl
    go_enter Tryz.func86, Tryz.ntmps86
    go_wp2_with (at_builtin; refine wpList_append_any rfl _ _ 34 rfl rfl rfl HL0 rfl C1 (fun h => nomatch h) R1 h1 HN.out ?_; intro u7 w7 L7 hb7; rw [List.nil_append] at L7; obtain ⟨A7, c7, hu7⟩ := L7.slice; subst hu7)
    go_ret
    exact ⟨A7, c7, rfl, L7, HB.out.trans hb7⟩
def CEl.withL (e : CEl) (A : Option Addr) (n c : Nat) (K : Int) (xs : List Int) : CEl := ⟨e.q, e.M, A, n, c, K, xs⟩
theorem ccells_setL : ∀ (l : List CEl) (j : Nat) (e : CEl) (A : Option Addr) (n c : Nat) (K : Int) (xs : List Int), l[j]? = some e → ccells (l.set j (e.withL A n c K xs)) = ((ccells l).set (j * 4 + 2) (.slice A n c)).set (j * 4 + 3) (.int .i64 K)
  | [], j, e, A, n, c, K, xs, h => by simp at h
  | x :: l, 0, e, A, n, c, K, xs, h => by simp at h; subst h; rfl
  | x :: l, j + 1, e, A, n, c, K, xs, h => by
    have ih := ccells_setL l j e A n c K xs (by simpa using h)
    rw [show (j + 1) * 4 + 3 = j * 4 + 3 + 1 + 1 + 1 + 1 by omega, show (j + 1) * 4 + 2 = j * 4 + 2 + 1 + 1 + 1 + 1 by omega]
    simp only [List.set_cons_succ, ccells, CEl.cells, List.cons_append, List.nil_append, ih]
theorem grown_set2 (W : World) (g i j : Nat) (u v : Value) : W.grownBy ((W.setCell ⟨g, i, none⟩ u).setCell ⟨g, j, none⟩ v) (some g) :=
  ⟨rfl, rfl, rfl, by simp [World.setCell], fun k _ hk => (Below.heap_setCell _ _ _ k (fun e => hk (by rw [e]))).trans (Below.heap_setCell _ _ _ k (fun e => hk (by rw [e])))⟩
theorem CL3.setL {N : Nat} {W : World} {g m c : Nat} {els : List CEl} (h : CL3 N W (.slice (some ⟨g, 0, none⟩) m c) els) {j : Nat} {e : CEl} (he : els[j]? = some e) (A' : Option Addr) (n' c' : Nat) (K' : Int) (xs' : List Int) (hi : IntsAt W A' n' xs') (hr : RowAny N W A' n') :
    CL3 N ((W.setCell ⟨g, j * 4 + 2, none⟩ (.slice A' n' c')).setCell ⟨g, j * 4 + 3, none⟩ (.int .i64 K')) (.slice (some ⟨g, 0, none⟩) m c) (els.set j (e.withL A' n' c' K' xs')) := by
  have hgr := grown_set2 W g (j * 4 + 2) (j * 4 + 3) (.slice A' n' c') (.int .i64 K')
  have hty : ∀ r, some g = some r → N ≤ r ∧ ∃ cur fr, W.heap[r]? = some (.cells cur 56 fr) := fun r e => h.typed r (by rw [← e]; rfl)
  have hj := (List.getElem?_eq_some_iff.1 he).1
  refine ⟨⟨by rw [ccells_len], ?_⟩, by rw [List.length_set]; exact h.few, fun x hx => ?_, fun x hx => ?_⟩
  · rcases h.own.2 with ⟨hv, h0⟩ | ⟨g', cap, cur, hv, hN, hc, h1, h2, h3, h4⟩
    · cases hv
    · simp only [Value.slice.injEq, Option.some.injEq, Addr.mk.injEq, and_true, true_and] at hv
      obtain ⟨rfl, rfl, rfl⟩ := hv
      refine .inr ⟨g, c, (cur.setIfInBounds (j * 4 + 2) (.slice A' n' c')).setIfInBounds (j * 4 + 3) (.int .i64 K'), by rw [List.length_set], hN, ?_, by rw [List.length_set]; exact h1, h2, by rw [Array.size_setIfInBounds, Array.size_setIfInBounds]; exact h3, ?_⟩
      · simp only [World.setCell]
        rw [Array.getElem?_modify, if_pos rfl, Array.getElem?_modify, if_pos rfl, hc]
        rfl
      · rw [ccells_setL els j e A' n' c' K' xs' he, ← h4, List.length_set, Array.toList_setIfInBounds, Array.toList_setIfInBounds, List.take_set, List.take_set]
  · rcases List.mem_or_eq_of_mem_set hx with hx | rfl
    · exact (h.ints x hx).grown_any (h.rows x hx) hgr hty
    · exact hi.grown_any hr hgr hty
  · rcases List.mem_or_eq_of_mem_set hx with hx | rfl
    · exact (h.rows x hx).grown hgr hty
    · exact hr.grown hgr hty
end Go.Proofs.YtkgnlloioaobiaaGreat
namespace Go.Proofs.YtkgnlloioaobiaaGreat
open Go.ChangeShapes Go.WideShapes Go.ChangeAt Go.RowKit Go.Joins Go.Deep
section
variable {H : Type} {enc : TypeId × Value → H} {w : World}
theorem conds_ofC {r : Reach} {b0 : Nat} {v : Value} {d : DataW H} {p : List MemPlace}
    (hok : Value.okWide Tryz.prog w r b0 34 v) (hlt : ∀ x ∈ p, x.block < w.heap.size) (hsz : (d.weights Tryz.prog 34).all (· ≤ reachBytes) = true)
    (h : DataW.Trod enc Tryz.prog w 0 (fun _ => true) true 34 v d p) : ∃ A n c els, v = .slice A n c ∧ CondsAt w A n els ∧ PieceC ⟨A, n, c, els⟩ := by
  obtain ⟨a0, len0, cap0, rfl⟩ := okWide_slice Tryz.underlying34 hok
  obtain ⟨fuel, hf⟩ := h
  exact conds_coreC (y := (d, p)) (v := .slice a0 len0 cap0) hlt hsz hf
end
end Go.Proofs.YtkgnlloioaobiaaGreat
namespace Go.Proofs.YtkgnlloioaobiaaGreat
open Go.ChangeShapes Go.WideShapes Go.ChangeAt Go.RowKit
section
variable {N : Nat} {W W' : World} {A : Option Addr} {n : Nat} {xs : List Int} {row : Option Nat} {p : PEl}
end
section
variable {N : Nat} {w w' : World} {u : Value} {ps : List PEl}
end
theorem pieces_again {W W' : World} {A : Option Addr} {k : Nat} {ps : List PEl} (h : PiecesAt W A k ps) (hc : ∀ p ∈ ps, CondsAt W' p.A p.n p.els) (hs : W.heap.size ≤ W'.heap.size) (hr : 0 < k → ∀ g o, A = some ⟨g, o, none⟩ → W'.heap[g]? = W.heap[g]?) : PiecesAt W' A k ps :=
  ⟨h.len, h.small, fun h0 => let ⟨b, off, hA, hlt, hx⟩ := h.cells h0; ⟨b, off, hA, Nat.lt_of_lt_of_le hlt hs, fun j p hp => (World.cell?_of_block (hr h0 b off hA)).trans (hx j p hp)⟩, hc⟩
section
variable {ops : Array Oper} {o : Oper} {a : Act} {w : World} {Q : Exit → Act → World → Prop}
end
section
variable {ops : Array Oper} {o : Oper} {a : Act} {w : World} {Q : Exit → Act → World → Prop}
end
section
variable {N g m : Nat} {w w' : World} {qs : List PEl}
theorem PM.has (h : PM N g m w qs) {j : Nat} (hj : j < m) : ∃ v, w.cell? ⟨g, j, none⟩ = some v := by
  rw [cell_of_row w g j _ _ (0, 0) h.row]
  have hle := h.le
  rw [List.getElem?_toArray, List.getElem?_eq_getElem (by simp; omega)]
  exact ⟨_, rfl⟩
end
end Go.Proofs.YtkgnlloioaobiaaGreat
namespace Go.Proofs.YtkgnlloioaobiaaGreat
open Go.RowKit Go.Shelf
theorem conds_pre {D : Int} {els : List CEl} (hD : 0 ≤ D) (h2 : condsE D els = 0) : ∀ e ∈ els, PreB D.toNat e := fun e he => by
  unfold condsE at h2
  split at h2
  · rename_i hok
    split at h2
    · rename_i hdim
      have hk := List.all_eq_true.1 hok e he
      have hd := List.all_eq_true.1 hdim e he
      have hn : (e.n : Int) = D := by simpa using hd
      have hk' := hk
      unfold CEl.ok validC at hk'
      rw [Bool.and_eq_true] at hk'
      obtain ⟨_, hK, hx⟩ := validB_true.1 hk'.1
      have hK := fitsB_true.1 hK
      exact ⟨by omega, validC_ok hk, by omega, fun x hxm => by have := fitsB_true.1 (hx x hxm); omega⟩
    · omega
  · omega
theorem PieceRet.far {n : Nat} {w w1 w' : World} {e : Ending} {r : List CD × Bool × Int} (hb : Below w.heap.size w w1) (h : PieceRet w1 e w' n r) : PieceRet w e w' n r := by
  obtain ⟨A, k, c, l, he, hL, hd, hn, hb'⟩ := h
  exact ⟨A, k, c, l, he, hL.mono hb.size hb.size, hd, hn, hb.trans (hb'.mono hb.size)⟩
def dimE (D : Int) (els : List CEl) (i : Nat) : Int := if (els.take i).all (fun e => (e.n : Int) == D) = true then 0 else 2
theorem dimE_snoc {D : Int} {els : List CEl} {i : Nat} {e : CEl} (h : els[i]? = some e) : dimE D els (i + 1) = if ((e.n : Int) == D) = true then dimE D els i else 2 := by
  obtain ⟨hi, rfl⟩ := List.getElem?_eq_some_iff.1 h
  unfold dimE
  rw [List.take_succ_eq_append_getElem hi, List.all_append]
  simp only [List.all_cons, List.all_nil, Bool.and_true]
  cases h1 : (els.take i).all (fun e => (e.n : Int) == D) <;> cases h2 : ((els[i].n : Int) == D) <;> simp
end Go.Proofs.YtkgnlloioaobiaaGreat
namespace Go.Proofs.YtkgnlloioaobiaaGreat
open Go.RowKit Go.Shelf
def whereE (D : Int) (ps : List PEl) (els : List CEl) : Int × List (List CD) :=
  if validS D ps = false then (1, []) else if condsE D els ≠ 0 then (condsE D els, []) else gatherD D.toNat (meetL (ps.map PEl.dat) [els.map CEl.d])
theorem where_valid {D : Int} {ps : List PEl} {els : List CEl} {A : Option Addr} {n c : Nat} (hv : validS D ps = true) (hc : condsE D els = 0) (hl : els.length ≤ 96) : validS D [⟨A, n, c, els⟩] = true := by
  obtain ⟨h1, h2, _⟩ := (valid_parts hv).1
  unfold validS
  rw [Bool.and_eq_true]
  refine ⟨decide_eq_true ⟨h1, h2, by simp⟩, List.all_eq_true.2 fun p hp => ?_⟩
  rw [List.mem_singleton.1 hp]
  unfold pieceOk
  rw [Bool.and_eq_true]
  exact ⟨decide_eq_true hl, decide_eq_true hc⟩
set_option maxHeartbeats 8000000 in
theorem set_where (D : Int) (A : Option Addr) (n c : Nat) (ps : List PEl) (A' : Option Addr) (n' c' : Nat) (els : List CEl) (w : World) (h : PiecesAt w A n ps) (h' : CondsAt w A' n' els) (hC : ∀ p ∈ ps, p.A = none → p.c = 0) (hC' : A' = none → c' = 0) (hl : els.length ≤ 96) :
    Calls Tryz.prog 20 #[setV D A n c, .slice A' n' c'] w fun e w' => GatherRet D.toNat w e w' D (whereE D ps els) := by
  have hB := below_step (below_alloc w (.cells #[.int .i64 D, .slice A n c] 24)) (below_alloc _ (.cells #[.int .i64 0, .slice none 0 0] 24))
  have X1 := (SetBox.new w D A n c).alloc (.cells #[.int .i64 0, .slice none 0 0] 24)
  have X2 := SetBox.new (w.alloc (.cells #[.int .i64 D, .slice A n c] 24)) 0 none 0 0
  simp only [World.size_alloc] at X2
  have P1 := h.step hB
  have C1 := h'.step hB
  have x0 := X1.c0
  have x1 := X1.c1
  clear h h'
  cases hv : validS D ps
  · have HV := Lib.hid hv
    have HR := Lib.hid (show whereE D ps els = (1, []) by unfold whereE; rw [if_pos hv])
    rw [HR.out]
    clear hv
    go_enter Tryz.func20, Tryz.ntmps20
    go_wp2_with (first | (go_at_call 43; refine (set_valid D A n c ps _ P1).mono ?_; rintro e w1 ⟨rfl, hb1⟩; rw [HV.out]; replace hB := below_step hB hb1; replace P1 := P1.step hb1; replace C1 := C1.step hb1; replace X1 := X1.step hb1; replace X2 := X2.step hb1; clear hb1 x0 x1; have x0 := X1.c0; have x1 := X1.c1; have z0 := X2.c0; have z1 := X2.c1; have f0 := X2.f 0; have f1 := X2.f 1))
    have X5 := X2.put 0 none 0 0
    have hb8 := below_put (w := w1) (N := w.heap.size) (b := w.heap.size + 1) (by omega) (.int .i64 0) (.slice none 0 0)
    generalize (w1.setCell ⟨w.heap.size + 1, 0, none⟩ (.int .i64 0)).setCell ⟨w.heap.size + 1, 1, none⟩ (.slice none 0 0) = w5 at *
    have y0 := X5.c0
    have y1 := X5.c1
    try rw [Exit.noGoto_ret]
    refine bodyPost_ret (v := .tuple #[setV 0 none 0 0, .int .i64 1]) (by simp [results, Tryz.results20, go_sem, y0, y1]) rfl ?_
    exact gather_none (by decide) ⟨rfl, hB.trans hb8⟩
  · have HV := Lib.hid hv
    obtain ⟨ce, hce⟩ : ∃ ce, condsE D els = ce := ⟨_, rfl⟩
    have HCE := Lib.hid hce
    by_cases h0 : ce = 0
    · subst h0
      have HR := Lib.hid (show whereE D ps els = gatherD D.toNat (meetL (ps.map PEl.dat) [els.map CEl.d]) by unfold whereE; rw [if_neg (by rw [hv]; simp), if_neg (by rw [hce]; simp)])
      have HV2 := Lib.hid (where_valid (A := A') (n := n') (c := c') hv hce hl)
      rw [HR.out]
      have HM := Lib.hid (fun (W : World) (g : Nat) (I : PiecesAt W A n ps) (I' : PiecesAt W (some ⟨g, 0, none⟩) 1 [⟨A', n', c', els⟩]) => (show Calls Tryz.prog 16 #[setV D A n c, setV D (some ⟨g, 0, none⟩) 1 1] W fun e w' => GatherRet D.toNat W e w' D (gatherD D.toNat (meetL (ps.map PEl.dat) [els.map CEl.d])) from set_meet D A n c ps (some ⟨g, 0, none⟩) 1 1 [⟨A', n', c', els⟩] W I I' HV.out HV2.out hC (fun p hp => by rw [List.mem_singleton.1 hp]; exact hC')))
      obtain ⟨nn, hnn⟩ : ∃ nn, D.toNat = nn := ⟨_, rfl⟩
      rw [hnn] at HM ⊢
      obtain ⟨gd, hgd⟩ : ∃ gd, gatherD nn (meetL (ps.map PEl.dat) [els.map CEl.d]) = gd := ⟨_, rfl⟩
      rw [hgd] at HM ⊢
      obtain ⟨D', hD'⟩ : ∃ D', (if gd.1 ≠ 0 then (0 : Int) else D) = D' := ⟨_, rfl⟩
      have HDD := Lib.hid hD'
      clear hv hce hC hC' hnn hgd hD' hl
      go_enter Tryz.func20, Tryz.ntmps20
      go_wp2_with (first
        | (go_at_call 43; refine (set_valid D A n c ps _ P1).mono ?_; rintro e w1 ⟨rfl, hb1⟩; rw [HV.out]; replace hB := below_step hB hb1; replace P1 := P1.step hb1; replace C1 := C1.step hb1; replace X1 := X1.step hb1; replace X2 := X2.step hb1; clear hb1 x0 x1; have x0 := X1.c0; have x1 := X1.c1; have z0 := X2.c0; have z1 := X2.c1; have f0 := X2.f 0; have f1 := X2.f 1)
        | ((go_at_call 57; refine (set_conds A' n' c' els D _ C1).mono ?_; rintro e w2 ⟨rfl, hb2⟩; rw [HCE.out]; replace hB := below_step hB hb2; replace P1 := P1.step hb2; replace C1 := C1.step hb2; replace X1 := X1.step hb2; replace X2 := X2.step hb2; clear hb2 x0 x1 z0 z1 f0 f1; have x0 := X1.c0; have x1 := X1.c1; have z0 := X2.c0; have z1 := X2.c1; have f0 := X2.f 0; have f1 := X2.f 1); have b5 := below_alloc w2 (.cells #[.slice A' n' c'] 34); have PR := pieces_of_one (p := ⟨A', n', c', els⟩) (heap_alloc_new w2 (.cells #[.slice A' n' c'] 34)) (C1.step b5); have PP := P1.step b5; have X7 := X2.step b5; have hB7 := below_step hB b5; have hs2 := hB.size)
        | (go_at_call 16; refine (HM.out _ _ PP PR).mono ?_; rintro e w3 ⟨A3, k3, c3, qs, rfl, hP3, hok3, hd3, hA3, hb3⟩; rw [HDD.out]; have hB3 := below_step hB7 hb3; have Z3 := X7.step hb3; clear z0 z1 f0 f1; have z0 := Z3.c0; have z1 := Z3.c1; have f0 := Z3.f 0; have f1 := Z3.f 1))
      have X4 := Z3.put D' A3 k3 c3
      have hku := Z3.keepU (.int .i64 D') (.slice A3 k3 c3)
      have hok4 := fun p hp => (hok3 p hp).keep hku
      have hz3 := X7.lt
      have hP4 := pieces_move hP3 hok4 hku.size (fun h0 g o hA => by
        obtain ⟨g', o', h1, h2⟩ := hA3 h0
        rw [hA] at h1
        cases h1
        exact put_other (by omega) _ _)
      have hb4 := hB3.trans (below_put (w := w3) (N := w.heap.size) (b := w.heap.size + 1) (by omega) (.int .i64 D') (.slice A3 k3 c3))
      generalize (w3.setCell ⟨w.heap.size + 1, 0, none⟩ (.int .i64 D')).setCell ⟨w.heap.size + 1, 1, none⟩ (.slice A3 k3 c3) = w4 at *
      have v0 := X4.c0
      have v1 := X4.c1
      refine bodyPost_ret (v := .tuple #[setV D' A3 k3 c3, .int .i64 gd.1]) (by simp [results, Tryz.results20, go_sem, v0, v1]) rfl ?_
      exact ⟨A3, k3, c3, qs, by rw [HDD.out], hP4, hok4, hd3, (fun h => let ⟨g, o, h1, h2⟩ := hA3 h; ⟨g, o, h1, by omega⟩), hb4⟩
    · have HR := Lib.hid (show whereE D ps els = (ce, []) by unfold whereE; rw [if_neg (by rw [hv]; simp), hce, if_pos h0])
      rw [HR.out]
      have q1 : (ce != 0) = true := by simpa using h0
      have q2 : (ce == 0) = false := by simpa using h0
      have HZ := Lib.hid h0
      clear hv hce h0
      go_enter Tryz.func20, Tryz.ntmps20
      go_wp2_with (first | (go_at_call 43; refine (set_valid D A n c ps _ P1).mono ?_; rintro e w1 ⟨rfl, hb1⟩; rw [HV.out]; replace hB := below_step hB hb1; replace P1 := P1.step hb1; replace C1 := C1.step hb1; replace X1 := X1.step hb1; replace X2 := X2.step hb1; clear hb1 x0 x1; have x0 := X1.c0; have x1 := X1.c1; have z0 := X2.c0; have z1 := X2.c1; have f0 := X2.f 0; have f1 := X2.f 1) | (go_at_call 57; refine (set_conds A' n' c' els D _ C1).mono ?_; rintro e w2 ⟨rfl, hb2⟩; rw [HCE.out]; replace hB := below_step hB hb2; replace P1 := P1.step hb2; replace C1 := C1.step hb2; replace X1 := X1.step hb2; replace X2 := X2.step hb2; clear hb2 x0 x1 z0 z1 f0 f1; have x0 := X1.c0; have x1 := X1.c1; have z0 := X2.c0; have z1 := X2.c1; have f0 := X2.f 0; have f1 := X2.f 1))
      have X5 := X2.put 0 none 0 0
      have hb8 := below_put (w := w2) (N := w.heap.size) (b := w.heap.size + 1) (by omega) (.int .i64 0) (.slice none 0 0)
      generalize (w2.setCell ⟨w.heap.size + 1, 0, none⟩ (.int .i64 0)).setCell ⟨w.heap.size + 1, 1, none⟩ (.slice none 0 0) = w5 at *
      have y0 := X5.c0
      have y1 := X5.c1
      try rw [Exit.noGoto_ret]
      refine bodyPost_ret (v := .tuple #[setV 0 none 0 0, .int .i64 ce]) (by simp [results, Tryz.results20, go_sem, y0, y1]) rfl ?_
      exact gather_none HZ.out ⟨rfl, hB.trans hb8⟩
end Go.Proofs.YtkgnlloioaobiaaGreat
namespace Go.Proofs.YtkgnlloioaobiaaGreat
open Go.RowKit Go.Shelf
set_option maxHeartbeats 8000000 in
theorem ref_where (D : Int) (A : Option Addr) (n c : Nat) (ps : List PEl) (A' : Option Addr) (n' c' : Nat) (els : List CEl) (w : World) (h : PiecesAt w A n ps) (h' : CondsAt w A' n' els) (hC : ∀ p ∈ ps, p.A = none → p.c = 0) (hC' : A' = none → c' = 0) (hl : els.length ≤ 96) :
    Calls Tryz.prog 21 #[setV D A n c, .slice A' n' c'] w fun e w' => GatherRet D.toNat w e w' D (whereE D ps els) := by
  have hB := below_step (below_alloc w (.cells #[.int .i64 D, .slice A n c] 24)) (below_alloc _ (.cells #[.int .i64 0, .slice none 0 0] 24))
  have X1 := (SetBox.new w D A n c).alloc (.cells #[.int .i64 0, .slice none 0 0] 24)
  have X2 := SetBox.new (w.alloc (.cells #[.int .i64 D, .slice A n c] 24)) 0 none 0 0
  simp only [World.size_alloc] at X2
  have P1 := h.step hB
  have C1 := h'.step hB
  have HL := Lib.hid h'.len
  have HNL := Lib.hid h.len
  have hsm : n' ≤ 96 := by have := h'.len; omega
  obtain ⟨r, hr⟩ : ∃ r, whereE D ps els = r := ⟨_, rfl⟩
  obtain ⟨nn, hnn⟩ : ∃ nn, D.toNat = nn := ⟨_, rfl⟩
  have HNN := Lib.hid hnn
  rw [hr, hnn]
  clear hnn
  have HR := Lib.hid hr
  have HC := Lib.hid (And.intro hC hC')
  have HLL := Lib.hid hl
  clear h h' hr hC hC' hl
  go_enter Tryz.func21, Tryz.ntmps21
  go_wp2
  generalize hw0 : (w.alloc (.cells #[.int .i64 D, .slice A n c] 24)).alloc (.cells #[.int .i64 0, .slice none 0 0] 24) = w0 at *
  clear hw0
  have HS0 := Lib.hid hB.size
  go_loopw [6, 14] (fun f v wr => ∃ i : Nat, i ≤ n' ∧ v = .int .i64 i ∧ f = .int .i64 (dimE D els i) ∧ Hid (∀ j x, j < i → els[j]? = some x → x.ok = true) ∧ Below w0.heap.size w0 wr) (fun _ v _ => n' - (intOf v).toNat)
  case atStart => exact ⟨0, Nat.zero_le _, rfl, rfl, Lib.hid (fun j x h => absurd h (by omega)), Below.refl _ _⟩
  case round =>
    obtain ⟨i, hi, rfl, rfl, HG, hbr⟩ := hrel
    by_cases hlt : i < n'
    · obtain ⟨b, off, e, rfl, hblt, hej, hmem, hcs, hin⟩ := (C1.step hbr).at hlt
      obtain ⟨x0, x1, x2, x3⟩ := hcs
      have HEJ := Lib.hid hej
      have HDS := Lib.hid (dimE_snoc (D := D) hej)
      obtain ⟨eq, eM, eA, en, ec, eK, exs⟩ := e
      simp only at x0 x1 x2 x3 hin
      have hq1 : (i : Int) < n' := by omega
      have b5 := below_alloc wr (.cells #[.int .i64 eq, .int .i64 eM, .slice eA en ec, .int .i64 eK] 56)
      have y1 := hin.step b5
      have XC := CBox.new wr eq eM eA en ec eK
      have c0 := XC.c0
      have c1 := XC.c1
      have c2 := XC.c2
      have c3 := XC.c3
      have hbr1 := hbr.trans (b5.mono hbr.size)
      have D1 := X1.step hbr1
      have D2 := X2.step hbr1
      have k0 := D1.c0
      obtain ⟨f0, hf0⟩ : ∃ f0, dimE D els i = f0 := ⟨_, rfl⟩
      rw [hf0]
      have HF0 := Lib.hid hf0
      clear b5 hmem hej hin hf0
      cases hv : validC eq eM exs eK
      · have HV := Lib.hid hv
        have HR2 := Lib.hid (show r = (1, []) by
          rw [← HR.out]
          have h9 : condsE D els = 1 := by unfold condsE; rw [all_not (p := CEl.ok) HEJ.out hv]; rfl
          unfold whereE
          rw [h9]
          cases validS D ps <;> simp)
        clear hv
        go_wp2_with (go_at_call 58; refine (ref_cvalid _ _ _ _ _ _ exs _ y1).mono ?_; rintro e w1 ⟨rfl, hb⟩; rw [HV.out]; replace hbr1 := hbr1.trans (hb.mono hbr1.size); have X2' := D2.step hb; have z0 := X2'.c0; have z1 := X2'.c1; have f0 := X2'.f 0; have f1 := X2'.f 1)
        have hbz := below_step hB hbr1
        have X5 := X2'.put 0 none 0 0
        have hb8 := below_put (w := w1) (N := w.heap.size) (b := w.heap.size + 1) (by omega) (.int .i64 0) (.slice none 0 0)
        generalize (w1.setCell ⟨w.heap.size + 1, 0, none⟩ (.int .i64 0)).setCell ⟨w.heap.size + 1, 1, none⟩ (.slice none 0 0) = w5 at *
        have y0 := X5.c0
        have y1 := X5.c1
        try rw [Exit.noGoto_ret]
        refine bodyPost_ret (v := .tuple #[setV 0 none 0 0, .int .i64 1]) (by simp [results, Tryz.results21, go_sem, y0, y1]) rfl ?_
        rw [HR2.out]
        exact gather_none (by decide) ⟨rfl, hbz.trans hb8⟩
      · have HV := Lib.hid hv
        have HG2 := Lib.hid (show ∀ j x, j < i + 1 → els[j]? = some x → x.ok = true from fun j x hj hjx => by
          rcases Nat.lt_or_eq_of_le (Nat.le_of_lt_succ hj) with h | rfl
          · exact HG.out j x h hjx
          · rw [HEJ.out] at hjx; cases hjx; exact HV.out)
        clear hv
        by_cases hn : (en : Int) = D
        · have HDN := Lib.hid (show f0 = dimE D els (i + 1) by
            rw [HDS.out, if_pos (by simpa using hn)]; exact HF0.out.symm)
          have q1 : ((en : Int) != D) = false := by simpa using hn
          have q2 : ((en : Int) == D) = true := by simpa using hn
          clear hn
          go_wp2_with (go_at_call 58; refine (ref_cvalid _ _ _ _ _ _ exs _ y1).mono ?_; rintro e w1 ⟨rfl, hb⟩; rw [HV.out]; replace hbr1 := hbr1.trans (hb.mono hbr1.size); replace XC := XC.step hb; replace D1 := D1.step hb; clear c0 c1 c2 c3 k0; have c0 := XC.c0; have c1 := XC.c1; have c2 := XC.c2; have c3 := XC.c3; have k0 := D1.c0)
          go_roundw
          case rel => exact ⟨i + 1, by omega, by go_num, congrArg (Value.int IntKind.i64) HDN.out, HG2, hbr1⟩
          case measure => simp [intOf]; omega
        · have HDN := Lib.hid (show (2 : Int) = dimE D els (i + 1) by
            rw [HDS.out, if_neg (by simpa using hn)])
          have q1 : ((en : Int) != D) = true := by simpa using hn
          have q2 : ((en : Int) == D) = false := by simpa using hn
          clear hn
          go_wp2_with (go_at_call 58; refine (ref_cvalid _ _ _ _ _ _ exs _ y1).mono ?_; rintro e w1 ⟨rfl, hb⟩; rw [HV.out]; replace hbr1 := hbr1.trans (hb.mono hbr1.size); replace XC := XC.step hb; replace D1 := D1.step hb; clear c0 c1 c2 c3 k0; have c0 := XC.c0; have c1 := XC.c1; have c2 := XC.c2; have c3 := XC.c3; have k0 := D1.c0)
          go_roundw
          case rel => exact ⟨i + 1, by omega, by go_num, congrArg (Value.int IntKind.i64) HDN.out, HG2, hbr1⟩
          case measure => simp [intOf]; omega
    · obtain rfl : i = n' := by omega
      have HCE := Lib.hid (show condsE D els = dimE D els i by
        unfold condsE dimE
        rw [if_pos (all_yes fun j x hj => HG.out j x (by have := HL.out; omega)), List.take_of_length_le (by rw [HL.out]; exact Nat.le_refl _)])
      obtain ⟨ce, hce⟩ : ∃ ce, dimE D els i = ce := ⟨_, rfl⟩
      rw [hce] at HCE ⊢
      clear hce
      have D1 := X1.step hbr
      have D2 := X2.step hbr
      have PW := P1.step hbr
      have k0 := D1.c0
      have k1 := D1.c1
      have hbz := below_step hB hbr
      cases hv : validS D ps
      · have HV := Lib.hid hv
        have HR2 := Lib.hid (show r = (1, []) by rw [← HR.out]; unfold whereE; rw [if_pos hv])
        clear hv
        go_wp2_with (go_at_call 46; refine (ref_svalid D A n c ps _ PW).mono ?_; rintro e w1 ⟨rfl, hb⟩; rw [HV.out]; replace hbz := below_step hbz hb; have X2' := D2.step hb; have z0 := X2'.c0; have z1 := X2'.c1; have f0 := X2'.f 0; have f1 := X2'.f 1)
        have X5 := X2'.put 0 none 0 0
        have hb8 := below_put (w := w1) (N := w.heap.size) (b := w.heap.size + 1) (by omega) (.int .i64 0) (.slice none 0 0)
        generalize (w1.setCell ⟨w.heap.size + 1, 0, none⟩ (.int .i64 0)).setCell ⟨w.heap.size + 1, 1, none⟩ (.slice none 0 0) = w5 at *
        have y0 := X5.c0
        have y1 := X5.c1
        try rw [Exit.noGoto_ret]
        refine bodyPost_ret (v := .tuple #[setV 0 none 0 0, .int .i64 1]) (by simp [results, Tryz.results21, go_sem, y0, y1]) rfl ?_
        rw [HR2.out]
        exact gather_none (by decide) ⟨rfl, hbz.trans hb8⟩
      · have HV := Lib.hid hv
        by_cases h0 : ce = 0
        · subst h0
          have HR2 := Lib.hid (show gatherD D.toNat (meetL (ps.map PEl.dat) [els.map CEl.d]) = r by rw [← HR.out]; unfold whereE; rw [if_neg (by rw [hv]; simp), if_neg (by rw [HCE.out]; simp)])
          have hvp := valid_parts hv
          have HVP := Lib.hid hvp.2
          have HQ := Lib.hid (conds_pre (by omega) HCE.out)
          rw [HNN.out] at HVP HQ HR2
          have hn12 : nn ≤ 12 := by have := HNN.out; omega
          have hn400 : n ≤ 400 := by have := HNL.out; omega
          have HAt := Lib.hid (fun (j : Nat) (p : PEl) (hp : ps[j]? = some p) => (show (meetL (ps.map PEl.dat) [els.map CEl.d])[j]? = some (p.dat ++ els.map CEl.d) by
            have := meet_at (ps.map PEl.dat) [els.map CEl.d] j 0 p.dat (els.map CEl.d) (by rw [List.getElem?_map, hp]; rfl) rfl
            simpa using this))
          have HLen := Lib.hid (show (meetL (ps.map PEl.dat) [els.map CEl.d]).length = n by rw [meet_len, List.length_map, HNL.out]; simp)
          obtain ⟨L, hLd⟩ : ∃ L, meetL (ps.map PEl.dat) [els.map CEl.d] = L := ⟨_, rfl⟩
          rw [hLd] at HLen HAt HR2
          have HMD := Lib.hid (fun (A9 : Option Addr) (k c9 : Nat) (us : List PEl) (W : World) (P9 : PiecesAt W A9 k us) (hk : k ≤ 2000000000) (hpu : ∀ p ∈ us, (∀ e ∈ p.els, PreB nn e) ∧ p.n ≤ 1000) (hd : us.map PEl.dat = L) => HR2.out ▸ hd ▸ ref_mades (n := nn) hn12 D A9 k c9 us W P9 hk hpu)
          obtain ⟨D', hD'⟩ : ∃ D', (if r.1 ≠ 0 then (0 : Int) else D) = D' := ⟨_, rfl⟩
          have HDD := Lib.hid hD'
          clear hv hvp hLd hD' hn12
          go_wp2_with (go_at_call 46; refine (ref_svalid D A n c ps _ PW).mono ?_; rintro e w1 ⟨rfl, hb⟩; rw [HV.out]; replace hbz := below_step hbz hb; have Y1 := D1.step hb; have Y2 := D2.step hb; have Q1 := PW.step hb; have Q2 := (C1.step hbr).step hb; clear k0 k1 hb; have k0 := Y1.c0; have k1 := Y1.c1)
          go_loopw [9, 41] (fun u v wt => ∃ (j : Nat) (us : List PEl), j ≤ n ∧ v = .int .i64 j ∧ PL3 w1.heap.size wt u us ∧ Hid (us.map PEl.dat = L.take j) ∧ Hid (∀ p ∈ us, (∀ e ∈ p.els, PreB nn e) ∧ p.n ≤ 1000) ∧ Below w1.heap.size w1 wt) (fun _ v _ => n - (intOf v).toNat)
          case atStart => exact ⟨0, [], Nat.zero_le _, rfl, PL3.nil _ _, Lib.hid (by simp), Lib.hid (fun p h => nomatch h), Below.refl _ _⟩
          case round =>
            obtain ⟨j, us, hj, rfl, hU, HD, HPU, hbs⟩ := hrel
            obtain ⟨Au, cu, rfl⟩ := hU.slice
            by_cases hlt2 : j < n
            · obtain ⟨b2, off2, p, hA2, hblt2, hpj, hpm, hcell2, hCp⟩ := (Q1.step hbs).at hlt2
              have hA2 : A = some ⟨b2, off2, none⟩ := hA2
              subst hA2
              have HPJ := Lib.hid hpj
              have HPM := Lib.hid hpm
              have HSN := Lib.hid (take_snoc (HAt.out j _ HPJ.out))
              have hCq := Q2.step hbs
              obtain ⟨pA, pn, pc, pels⟩ := p
              simp only at hcell2 hCp
              have hq2 : (j : Int) < n := by omega
              have e1 := (HVP.out _ HPM.out).2
              have e2 := HLL.out
              simp only at e1
              obtain ⟨out, hout⟩ : ∃ out, pels ++ els = out := ⟨_, rfl⟩
              have HO := Lib.hid hout
              have hol : out.length ≤ 1000 := by rw [← hout, List.length_append]; omega
              have HOL := Lib.hid hol
              have HAND := Lib.hid (hout ▸ ref_and3 pA pn pc pels A' i c' els wr hCp hCq (HC.out.1 _ HPM.out) HC.out.2 (by omega))
              have HRO := Lib.hid (show ∀ e ∈ out, RowAny w1.heap.size wr e.A e.n from fun e he => by
                rw [← hout] at he
                rcases List.mem_append.1 he with he | he
                · exact (RowAny.of_ints ((Q1.conds _ HPM.out).ints e he) (Nat.le_refl _) : RowAny w1.heap.size w1 e.A e.n).step hbs
                · exact (RowAny.of_ints (Q2.ints e he) (Nat.le_refl _) : RowAny w1.heap.size w1 e.A e.n).step hbs)
              have HPR := Lib.hid (show ∀ e ∈ out, PreB nn e from fun e he => by
                rw [← hout] at he
                rcases List.mem_append.1 he with he | he
                · exact (HVP.out _ HPM.out).1 e he
                · exact HQ.out e he)
              have hul : us.length + 1 ≤ 4000000000 := by
                have h9 := congrArg List.length HD.out
                rw [List.length_map, List.length_take] at h9
                have := HLen.out
                omega
              clear hpj hpm e1 e2 hCp hCq hout hol
              go_wp2_with (first
                | (go_at_call 53; refine HAND.out.mono ?_; rintro e w3 ⟨A3, c3, rfl, L3, hb3⟩; have hb3' := hbs.trans (hb3.mono hbs.size); have hU3 := hU.step hb3; have b4 := below_alloc w3 (.cells #[.slice A3 out.length c3] 34); have hPA := (PieceAny.of_cl3 L3 (fun e he => (HRO.out e he).step hb3)).step b4; have hPO := pieces_of_one (w := w3.alloc (.cells #[.slice A3 out.length c3] 34)) (p := ⟨A3, out.length, c3, out⟩) (heap_alloc_new w3 _) hPA.conds; have hsz4 := (hb3'.trans (b4.mono hb3'.size)).size)
                | (at_builtin; refine wpList_append_pieces rfl _ _ 22 rfl rfl rfl (hU3.step b4) rfl hPO (fun h => nomatch h) (fun p hp => by rw [List.mem_singleton.1 hp]; exact hPA) hul hsz4 ?_; intro u5 w5 hU5 hb5; have hb6 := (hb3'.trans (b4.mono hb3'.size)).trans hb5))
              go_roundw
              case rel => exact ⟨j + 1, _, by omega, by go_num, hU5, Lib.hid (by
                rw [HSN.out, List.map_append, HD.out]
                show _ ++ [out.map CEl.d] = _ ++ [pels.map CEl.d ++ els.map CEl.d]
                rw [← HO.out, List.map_append]), Lib.hid (fun p hp => by
                rcases List.mem_append.1 hp with hp | hp
                · exact HPU.out p hp
                · rw [List.mem_singleton.1 hp]; exact ⟨HPR.out, HOL.out⟩), hb6⟩
              case measure => simp [intOf]; omega
            · obtain rfl : j = n := by omega
              obtain ⟨A9, c9, hu9, P9, hg9⟩ := hU.pieces
              cases hu9
              have HDU := Lib.hid (show us.map PEl.dat = L by rw [HD.out, List.take_of_length_le (by rw [HLen.out]; exact Nat.le_refl _)])
              have HLT := Lib.hid (show us.length ≤ 2000000000 by
                have h9 := congrArg List.length HDU.out
                rw [List.length_map] at h9
                have := HLen.out
                omega)
              have k0 := (Y1.step hbs).c0
              go_wp2_with (first | (go_at_call 47; refine (HMD.out _ us.length _ us _ P9 HLT.out HPU.out HDU.out).mono ?_; rintro e w3 ⟨A3, k3, c3, qs, rfl, hP3, hok3, hd3, hA3, hb3⟩; rw [HDD.out]; have hx3 := (hbs.trans (hb3.mono hbs.size) : Below w1.heap.size w1 w3); have hB3 := below_step hbz hx3; have Z3 := Y2.step hx3; have r0 := Z3.c0; have r1 := Z3.c1; have f0 := Z3.f 0; have f1 := Z3.f 1; have hA3' := (fun (h0 : 0 < k3) => (let ⟨g, o, h1, h2⟩ := hA3 h0; ⟨g, o, h1, Nat.le_trans hbs.size h2⟩ : ∃ g o, A3 = some ⟨g, o, none⟩ ∧ w1.heap.size ≤ g))))
              have X4 := Z3.put D' A3 k3 c3
              have hku := Z3.keepU (.int .i64 D') (.slice A3 k3 c3)
              have hok4 := fun p hp => (hok3 p hp).keep hku
              have hz3 := Y2.lt
              have hP4 := pieces_move hP3 hok4 hku.size (fun h0 g o hA => by
                obtain ⟨g', o', h1, h2⟩ := hA3' h0
                rw [hA] at h1
                cases h1
                exact put_other (by omega) _ _)
              have hb4 := hB3.trans (below_put (w := w3) (N := w.heap.size) (b := w.heap.size + 1) (by omega) (.int .i64 D') (.slice A3 k3 c3))
              generalize (w3.setCell ⟨w.heap.size + 1, 0, none⟩ (.int .i64 D')).setCell ⟨w.heap.size + 1, 1, none⟩ (.slice A3 k3 c3) = w4 at *
              have v0 := X4.c0
              have v1 := X4.c1
              refine bodyPost_ret (v := .tuple #[setV D' A3 k3 c3, .int .i64 r.1]) (by simp [results, Tryz.results21, go_sem, v0, v1]) rfl ?_
              exact ⟨A3, k3, c3, qs, by rw [HDD.out], hP4, hok4, hd3, (fun h => let ⟨g, o, h1, h2⟩ := hA3' h; ⟨g, o, h1, by have := hbz.size; omega⟩), hb4⟩
        · have HR2 := Lib.hid (show r = (ce, []) by rw [← HR.out]; unfold whereE; rw [if_neg (by rw [hv]; simp), HCE.out, if_pos h0])
          have q1 : (ce != 0) = true := by simpa using h0
          have q2 : (ce == 0) = false := by simpa using h0
          have HZ := Lib.hid h0
          clear hv h0
          go_wp2_with (go_at_call 46; refine (ref_svalid D A n c ps _ PW).mono ?_; rintro e w1 ⟨rfl, hb⟩; rw [HV.out]; replace hbz := below_step hbz hb; have X2' := D2.step hb; have z0 := X2'.c0; have z1 := X2'.c1; have f0 := X2'.f 0; have f1 := X2'.f 1)
          have X5 := X2'.put 0 none 0 0
          have hb8 := below_put (w := w1) (N := w.heap.size) (b := w.heap.size + 1) (by omega) (.int .i64 0) (.slice none 0 0)
          generalize (w1.setCell ⟨w.heap.size + 1, 0, none⟩ (.int .i64 0)).setCell ⟨w.heap.size + 1, 1, none⟩ (.slice none 0 0) = w5 at *
          have y0 := X5.c0
          have y1 := X5.c1
          try rw [Exit.noGoto_ret]
          refine bodyPost_ret (v := .tuple #[setV 0 none 0 0, .int .i64 ce]) (by simp [results, Tryz.results21, go_sem, y0, y1]) rfl ?_
          rw [HR2.out]
          exact gather_none HZ.out ⟨rfl, hbz.trans hb8⟩
end Go.Proofs.YtkgnlloioaobiaaGreat
namespace Go.Proofs.YtkgnlloioaobiaaGreat
open Go.RowKit
def chgD (g : List Int → Int → List Int × Int) (d : CD) : CD := ⟨d.q, d.M, (g d.xs d.K).1, (g d.xs d.K).2⟩
structure Chgd (g : List Int → Int → List Int × Int) (els us : List CEl) (j : Nat) : Prop where
  len : us.length = els.length
  done : ∀ t e, t < j → els[t]? = some e → ∃ u, us[t]? = some u ∧ u.d = chgD g e.d
  left : ∀ t, j ≤ t → us[t]? = els[t]?
theorem Chgd.zero (g : List Int → Int → List Int × Int) (els : List CEl) : Chgd g els els 0 := ⟨rfl, fun t e h => absurd h (Nat.not_lt_zero _), fun _ _ => rfl⟩
theorem Chgd.at {g : List Int → Int → List Int × Int} {els us : List CEl} {j : Nat} (h : Chgd g els us j) {e : CEl} (he : els[j]? = some e) : us[j]? = some e := (h.left j (Nat.le_refl _)).trans he
theorem Chgd.step {g : List Int → Int → List Int × Int} {els us : List CEl} {j : Nat} (h : Chgd g els us j) {e : CEl} (he : els[j]? = some e) (A : Option Addr) (n c : Nat) :
    Chgd g els (us.set j (e.withL A n c (g e.xs e.K).2 (g e.xs e.K).1)) (j + 1) := by
  have hj := (List.getElem?_eq_some_iff.1 (h.at he)).1
  refine ⟨by rw [List.length_set]; exact h.len, fun t e' ht he' => ?_, fun t ht => ?_⟩
  · rcases Nat.lt_or_ge t j with hlt | hge
    · obtain ⟨u, hu, hd⟩ := h.done t e' hlt he'
      exact ⟨u, by rw [List.getElem?_set_ne (by omega)]; exact hu, hd⟩
    · obtain rfl : t = j := by omega
      rw [he] at he'
      cases he'
      exact ⟨_, List.getElem?_set_self hj, rfl⟩
  · rw [List.getElem?_set_ne (by omega)]
    exact h.left t (by omega)
theorem Chgd.all {g : List Int → Int → List Int × Int} {els us : List CEl} {m : Nat} (h : Chgd g els us m) (hm : m = els.length) : us.map CEl.d = els.map fun e => chgD g e.d := by
  apply List.ext_getElem?
  intro t
  rcases Nat.lt_or_ge t els.length with ht | ht
  · obtain ⟨u, hu, hd⟩ := h.done t els[t] (by omega) (List.getElem?_eq_getElem ht)
    rw [List.getElem?_map, hu, List.getElem?_map, List.getElem?_eq_getElem ht]
    simp [hd]
  · rw [List.getElem?_eq_none (by simp [h.len]; omega), List.getElem?_eq_none (by simp; omega)]
end Go.Proofs.YtkgnlloioaobiaaGreat
namespace Go.Proofs.YtkgnlloioaobiaaGreat
open Go.RowKit
def LinOwn (w : World) (e : Ending) (w' : World) (ys : List Int) (K : Int) : Prop :=
  ∃ A n c, e = .returned (.agg #[.slice A n c, .int .i64 K]) ∧ IntsAt w' A n ys ∧ Below w.heap.size w w' ∧ (n = 0 ∨ ∃ g, A = some ⟨g, 0, none⟩ ∧ w.heap.size ≤ g ∧ OwnRow w' g n ys)
end Go.Proofs.YtkgnlloioaobiaaGreat
namespace Go.Proofs.YtkgnlloioaobiaaGreat
open Go.RowKit
theorem make_pcs (n : Nat) (hn : n ≤ 1000) (w : World) :
    (Instr.makeSlice 22 (.int .i64 (n : Int)) (.int .i64 (n : Int))).run Tryz.prog w = .ok (.slice (some ⟨w.heap.size, 0, none⟩) n n) (w.alloc (.cells (List.replicate n (Value.slice none 0 0)).toArray 34)) := by
  obtain ⟨i0, hi, hz0, hz1, hz2⟩ := info_parts infoPc
  have h := run_make (P := Tryz.prog) w 22 34 i0 _ Tryz.underlying22 hi hz0 .i64 .i64 (n : Int) (n : Int) (by omega) (by omega) (by rw [hz2]; omega) (by omega)
  rw [h, hz1]
  have e : madeCells (Value.slice none 0 0).cells (n * 1) = (List.replicate n (Value.slice none 0 0)).toArray := by
    apply Array.ext'
    simp [madeCells, Value.cells, Nat.mod_one, List.eq_replicate_iff]
  simp only [Int.toNat_natCast]
  rw [e]
theorem CL3.own_at {N : Nat} {W : World} {A : Option Addr} {m c : Nat} {els : List CEl} (h : CL3 N W (.slice A m c) els) {j : Nat} {e : CEl} (he : els[j]? = some e) :
    ∃ g, A = some ⟨g, 0, none⟩ ∧ N ≤ g ∧ g < W.heap.size ∧ W.cell? ⟨g, j * 4 + 2, none⟩ = some (.slice e.A e.n e.c) ∧ W.cell? ⟨g, j * 4 + 3, none⟩ = some (.int .i64 e.K) ∧ ∀ k, W.frozen? ⟨g, k, none⟩ = false := by
  have hj := (List.getElem?_eq_some_iff.1 he).1
  have hm := h.conds.1
  subst hm
  rcases h.own.2 with ⟨hv, h0⟩ | ⟨g, cap, cur, hv, hN, hc, _⟩
  · omega
  · cases hv
    obtain ⟨a0, a1, a2, a3⟩ := ccells_at els j e he
    refine ⟨g, rfl, hN, (Array.getElem?_eq_some_iff.1 hc).1, ?_, ?_, fun k => by simp [World.frozen?, hc]⟩
    · have := World.ownsRow.cellAt h.own (j * 4 + 2) (by omega); rw [this]; exact a2
    · have := World.ownsRow.cellAt h.own (j * 4 + 3) (by omega); rw [this]; exact a3
structure ChSt (h : Nat) (D dim : Int) (A : Option Addr) (n c : Nat) (qs : List PEl) (W : World) : Prop where
  s : SetBox W h D A n c
  z : SetBox W (h + 1) 0 none 0 0
  t : SetBox W (h + 1 + 1 + 1) dim (some ⟨h + 1 + 1, 0, none⟩) n n
  q : PM 0 (h + 1 + 1) n W qs
section
variable {h : Nat} {D dim : Int} {A : Option Addr} {n c : Nat} {qs : List PEl} {W W' : World}
theorem ChSt.step (H : ChSt h D dim A n c qs W) (hb : Below W.heap.size W W') : ChSt h D dim A n c qs W' := ⟨H.s.step hb, H.z.step hb, H.t.step hb, H.q.step hb⟩
theorem set_keep {b k : Nat} {D : Int} {A : Option Addr} {n c j : Nat} (h : SetBox W k D A n c) (hk : k ≠ b) (v : Value) : SetBox (W.setCell ⟨b, j, none⟩ v) k D A n c := by
  unfold SetBox at h ⊢
  rw [← h]
  exact Below.heap_setCell _ _ _ k hk
theorem ChSt.put (H : ChSt h D dim A n c qs W) (hl : qs.length < n) {p : PEl} (hp : PieceAny 0 W p) : ChSt h D dim A n c (qs ++ [p]) (W.setCell ⟨h + 1 + 1, qs.length, none⟩ p.v) :=
  ⟨set_keep H.s (by omega) _, set_keep H.z (by omega) _, set_keep H.t (by omega) _, H.q.put hl hp⟩
end
def Typed (us : List CEl) (j : Nat) (W : World) : Prop := ∀ t e, t < j → us[t]? = some e → RowAny 0 W e.A e.n
theorem Typed.step {us : List CEl} {j : Nat} {W W' : World} (h : Typed us j W) (hb : Below W.heap.size W W') : Typed us j W' := fun t e ht he => (h t e ht he).step hb
theorem Typed.put {us : List CEl} {j N g m c : Nat} {W W' : World} (h : Typed us j W) (hL : CL3 N W (.slice (some ⟨g, 0, none⟩) m c) us) (hg : W.grownBy W' (some g)) {u : CEl} (hr : RowAny 0 W u.A u.n) : Typed (us.set j u) (j + 1) W' := by
  have hty : ∀ r, some g = some r → 0 ≤ r ∧ ∃ cur fr, W.heap[r]? = some (.cells cur 56 fr) := fun r e => ⟨Nat.zero_le _, (hL.typed r (by rw [← e]; rfl)).2⟩
  intro t e ht he
  rcases Nat.lt_or_ge t j with hlt | hge
  · rw [List.getElem?_set_ne (by omega)] at he
    exact (h t e hlt he).grown hg hty
  · obtain rfl : t = j := by omega
    have hl : t < us.length := by
      have := (List.getElem?_eq_some_iff.1 he).1
      rwa [List.length_set] at this
    rw [List.getElem?_set_self hl] at he
    cases he
    exact hr.grown hg hty
def ChangedRet (w : World) (e : Ending) (w' : World) (D : Int) (n : Nat) (L : List (List CD)) : Prop :=
  ∃ g qs, e = .returned (setV D (some ⟨g, 0, none⟩) n n) ∧ PiecesAt w' (some ⟨g, 0, none⟩) n qs ∧ (∀ p ∈ qs, PieceAny 0 w' p) ∧ qs.map PEl.dat = L ∧ w.heap.size ≤ g ∧ Below w.heap.size w w'
set_option maxHeartbeats 8000000 in
theorem set_changed (D : Int) (A : Option Addr) (n c : Nat) (ps : List PEl) (dim : Int) (gf : FuncId) (lb : Array Value) (g : List Int → Int → List Int × Int) (hent : Enters Tryz.prog gf) (w : World) (P : PiecesAt w A n ps) (hn : n ≤ 1000) (hm : ∀ p ∈ ps, p.n ≤ 1000)
    (hf : ∀ W, Below w.heap.size w W → ∀ p ∈ ps, ∀ e ∈ p.els, Calls Tryz.prog gf (#[.agg #[.slice e.A e.n e.c, .int .i64 e.K]] ++ lb) W fun x W' => LinOwn W x W' (g e.xs e.K).1 (g e.xs e.K).2) :
    Calls Tryz.prog 60 #[setV D A n c, .int .i64 dim, .func (.func gf) #[] lb] w fun e w' => ChangedRet w e w' dim n (ps.map fun p => p.dat.map (chgD g)) := by
  have hmk := make_pcs n hn
  have hgo : ∀ (args : Array Value) (w : World), (callFunc gf args).run Tryz.prog w = .ok (.enter gf args) w := hent
  clear hent
  have HF := Lib.hid hf
  have HM := Lib.hid hm
  have HL := Lib.hid P.len
  have hB := below_step (below_step (below_step (below_alloc w (.cells #[.int .i64 D, .slice A n c] 24)) (below_alloc _ (.cells #[.int .i64 0, .slice none 0 0] 24))) (below_alloc _ (.cells (Array.replicate n (Value.slice none 0 0)) 34))) (below_alloc _ (.cells #[.int .i64 dim, .slice (some ⟨w.heap.size + 1 + 1, 0, none⟩) n n] 24))
  have S0 : ChSt w.heap.size D dim A n c [] ((((w.alloc (.cells #[.int .i64 D, .slice A n c] 24)).alloc (.cells #[.int .i64 0, .slice none 0 0] 24)).alloc (.cells (Array.replicate n (Value.slice none 0 0)) 34)).alloc (.cells #[.int .i64 dim, .slice (some ⟨w.heap.size + 1 + 1, 0, none⟩) n n] 24)) := by
    have X1 := (((SetBox.new w D A n c).alloc (.cells #[.int .i64 0, .slice none 0 0] 24)).alloc (.cells (Array.replicate n (Value.slice none 0 0)) 34)).alloc (.cells #[.int .i64 dim, .slice (some ⟨w.heap.size + 1 + 1, 0, none⟩) n n] 24)
    have X2 := ((SetBox.new (w.alloc (.cells #[.int .i64 D, .slice A n c] 24)) 0 none 0 0).alloc (.cells (Array.replicate n (Value.slice none 0 0)) 34)).alloc (.cells #[.int .i64 dim, .slice (some ⟨w.heap.size + 1 + 1, 0, none⟩) n n] 24)
    have X4 := SetBox.new (((w.alloc (.cells #[.int .i64 D, .slice A n c] 24)).alloc (.cells #[.int .i64 0, .slice none 0 0] 24)).alloc (.cells (Array.replicate n (Value.slice none 0 0)) 34)) dim (some ⟨w.heap.size + 1 + 1, 0, none⟩) n n
    have X3 := heap_alloc_new ((w.alloc (.cells #[.int .i64 D, .slice A n c] 24)).alloc (.cells #[.int .i64 0, .slice none 0 0] 24)) (.cells (Array.replicate n (Value.slice none 0 0)) 34)
    simp only [World.size_alloc] at X2 X3 X4
    exact ⟨X1, X2, X4, ⟨(Below.heap_alloc _ _ _ (by simp)).trans (by simpa using X3), Nat.zero_le _, Nat.zero_le _, (fun p h => nomatch h)⟩⟩
  have x0 := S0.s.c0
  have x1 := S0.s.c1
  clear hf hm
  go_enter Tryz.func60, Tryz.ntmps60
  go_wp2
  generalize hw0 : (((w.alloc (.cells #[.int .i64 D, .slice A n c] 24)).alloc (.cells #[.int .i64 0, .slice none 0 0] 24)).alloc (.cells (Array.replicate n (Value.slice none 0 0)) 34)).alloc (.cells #[.int .i64 dim, .slice (some ⟨w.heap.size + 1 + 1, 0, none⟩) n n] 24) = w0 at *
  clear hw0 x0 x1
  go_loopw [22] (fun v wr => ∃ (i : Nat) (qs : List PEl), i ≤ n ∧ v = .int .i64 i ∧ Hid (qs.length = i) ∧ ChSt w.heap.size D dim A n c qs wr ∧ Hid (qs.map PEl.dat = (ps.take i).map fun p => p.dat.map (chgD g)) ∧ Below w.heap.size w wr) (fun v _ => n - (intOf v).toNat)
  case atStart => exact ⟨0, [], Nat.zero_le _, rfl, Lib.hid rfl, S0, Lib.hid (by simp), hB⟩
  case round =>
    clear S0 hB
    obtain ⟨i, qs, hi, rfl, HQ, S1, HD, hbr⟩ := hrel
    by_cases hlt : i < n
    · obtain ⟨b, off, p, rfl, hblt, hpj, hmem, hcell, hCp⟩ := (P.step hbr).at hlt
      have HPJ := Lib.hid hpj
      have HPM := Lib.hid hmem
      have hpm := HM.out p hmem
      obtain ⟨pA, pn, pc, pels⟩ := p
      simp only at hcell hCp hpm
      have hq1 : (i : Int) < n := by omega
      have HW := Lib.hid hbr.size
      clear hpj hmem
      go_wp2_with (go_at_call 86; refine (any_clone pA pn pc pels _ hCp hpm).mono ?_; rintro e w1 ⟨qA, qc, rfl, L1, hb1⟩)
      have HS1 := Lib.hid (fun W (hb : Below wr.heap.size w1 W) => S1.step (hb1.trans hb))
      have hb1' := hbr.trans (hb1.mono HW.out)
      have HPL := Lib.hid hCp.len
      have HS0 := Lib.hid hb1.size
      obtain ⟨N, hN⟩ : ∃ N, wr.heap.size = N := ⟨_, rfl⟩
      rw [hN] at L1 HW HS0 HS1
      clear hN
      generalize hw1 : w1 = w1' at *
      clear hw1 hb1 hcell hCp hblt S1
      go_loopw [31] (fun v wt => ∃ (j : Nat) (us : List CEl), j ≤ pn ∧ v = .int .i64 j ∧ CL3 N wt (.slice qA pels.length qc) us ∧ Hid (Chgd g pels us j) ∧ Typed us j wt ∧ Below N w1' wt) (fun v _ => pn - (intOf v).toNat)
      case atStart => exact ⟨0, pels, Nat.zero_le _, rfl, L1, Lib.hid (Chgd.zero g pels), (fun t e h => absurd h (Nat.not_lt_zero _)), Below.refl _ _⟩
      case round =>
        obtain ⟨j, us, hj, rfl, L2, HC, HT, hbt⟩ := hrel
        clear L1
        by_cases hlt2 : j < pn
        · have hbw := hb1'.trans (hbt.mono HW.out)
          obtain ⟨b2, off2, e, hpA, hb2lt, hej, hem, hcs, hin⟩ := ((P.conds _ HPM.out).step hbw).at hlt2
          have hpA : pA = some ⟨b2, off2, none⟩ := hpA
          subst hpA
          obtain ⟨x0, x1, x2, x3⟩ := hcs
          have HEJ := Lib.hid (show pels[j]? = some e from hej)
          have HUE := Lib.hid (HC.out.at HEJ.out)
          have HCN := Lib.hid (fun A n c => HC.out.step HEJ.out A n c)
          obtain ⟨g2, hqA, hgN, hglt, k2, k3, hfz⟩ := L2.own_at HUE.out
          subst hqA
          have b5 := below_alloc wr (.cells #[.int .i64 e.q, .int .i64 e.M, .slice e.A e.n e.c, .int .i64 e.K] 56)
          have X1 := CBox.new wr e.q e.M e.A e.n e.c e.K
          have HFN := Lib.hid (HF.out _ (hbw.trans (b5.mono hbw.size)) _ HPM.out e hem)
          have L3 := L2.step b5
          have T3 := HT.step b5
          have hbt2 := hbt.trans (b5.mono (by have := hbt.size; have := HS0.out; omega))
          obtain ⟨eq, eM, eA, en, ec, eK, exs⟩ := e
          simp only at x0 x1 x2 x3 k2 k3 X1 b5 HFN HCN L3 T3 hbt2
          have hq2 : (j : Int) < pn := by omega
          have hq3 : (j : Int) < (pels.length : Nat) := by rw [HPL.out]; exact hq2
          have c2 := X1.c2
          have c3 := X1.c3
          clear hej hem hin L2 HT k2 k3 hfz hlt2 b5
          go_wp2_with (go_at_fn gf; refine HFN.out.mono ?_; rintro e w3 ⟨A3, n3, c3', rfl, I3, hb3, hf3⟩; have L4 := L3.step hb3; have T4 := T3.step hb3; obtain ⟨g4, hg4, hgN4, hglt4, k2, k3, hfz⟩ := L4.own_at HUE.out; cases hg4; have f2 := hfz (j * 4 + 2); have f3 := hfz (j * 4 + 3); clear x0 x1 x2 x3 c2 c3)
          have hrn : RowAny 0 w3 A3 n3 := .inr (hf3.imp id fun ⟨g', hA, hg, O⟩ => ⟨g', hA, Nat.zero_le _, let ⟨_, cur, hc, hn, _⟩ := O; ⟨cur, hc, hn⟩⟩)
          have L5 := L4.setL HUE.out A3 n3 c3' (g exs eK).2 (g exs eK).1 I3 (hrn.mono (Nat.zero_le _))
          have T5 := T4.put (u := (⟨eq, eM, eA, en, ec, eK, exs⟩ : CEl).withL A3 n3 c3' (g exs eK).2 (g exs eK).1) L4 (grown_set2 w3 g2 (j * 4 + 2) (j * 4 + 3) (.slice A3 n3 c3') (.int .i64 (g exs eK).2)) hrn
          have hb6 := ((hbt2.trans (hb3.mono (by have := hbt2.size; have := HS0.out; omega))).setCell (p := ⟨g2, j * 4 + 2, none⟩) (by show N ≤ g2; omega) (.slice A3 n3 c3')).setCell (p := ⟨g2, j * 4 + 3, none⟩) (by show N ≤ g2; omega) (.int .i64 (g exs eK).2)
          go_roundw
          case rel => exact ⟨j + 1, _, by omega, by go_num, L5, Lib.hid (HCN.out _ _ _), T5, hb6⟩
          case measure => simp [intOf]; omega
        · obtain rfl : j = pn := by omega
          have S3 := HS1.out _ hbt
          have HCA := Lib.hid (HC.out.all HPL.out.symm)
          have HLU := Lib.hid HC.out.len
          have hrow : ∀ e ∈ us, RowAny 0 wr e.A e.n := fun e he => by
            obtain ⟨t, ht, rfl⟩ := List.getElem_of_mem he
            exact (HT t _ (by have := HLU.out; have := HPL.out; omega) (List.getElem?_eq_getElem ht))
          have hpc := PieceAny.of_cl3 L2 hrow
          have hlq : qs.length < n := by have := HQ.out; omega
          have S4 := S3.put hlq hpc
          have k0 := S3.t.c1
          obtain ⟨v0, k1⟩ := S3.q.has hlt
          have f1 := S3.q.f i
          have hbw := (hb1'.trans (hbt.mono HW.out)).setCell (p := ⟨w.heap.size + 1 + 1, i, none⟩) (by show w.heap.size ≤ w.heap.size + 1 + 1; omega) (.slice qA pels.length qc)
          have HDN := Lib.hid (show (qs ++ [(⟨qA, pels.length, qc, us⟩ : PEl)]).map PEl.dat = (ps.take (i + 1)).map fun p => p.dat.map (chgD g) by
            rw [List.map_append, HD.out, List.take_succ_eq_append_getElem (by have := HL.out; omega), List.map_append]
            have h9 := (List.getElem?_eq_some_iff.1 HPJ.out).2
            rw [List.map_singleton, List.map_singleton, h9]
            show _ ++ [us.map CEl.d] = _ ++ [(pels.map CEl.d).map (chgD g)]
            rw [HCA.out, List.map_map]
            rfl)
          have HQN := Lib.hid (show (qs ++ [(⟨qA, pels.length, qc, us⟩ : PEl)]).length = i + 1 by rw [List.length_append, HQ.out]; rfl)
          rw [HQ.out] at S4
          clear S3 hrow hpc hlq
          go_wp2
          go_roundw
          case rel => exact ⟨i + 1, _, by omega, by go_num, HQN, S4, HDN, hbw⟩
          case measure => simp [intOf]; omega
    · obtain rfl : i = n := by omega
      have z0 := S1.z.c0
      have z1 := S1.z.c1
      have f0 := S1.z.f 0
      have f1 := S1.z.f 1
      have t0 := S1.t.c0
      have t1 := S1.t.c1
      have HP := Lib.hid (S1.q.pieces HQ.out (by omega))
      have HOK := Lib.hid S1.q.ok
      have HTK := Lib.hid (show ps.take i = ps from List.take_of_length_le (by rw [HL.out]; exact Nat.le_refl _))
      have h9 := S1.z
      have h8 : ∀ p ∈ qs, PieceAny 0 ((wr.setCell ⟨w.heap.size + 1, 0, none⟩ (.int .i64 dim)).setCell ⟨w.heap.size + 1, 1, none⟩ (.slice (some ⟨w.heap.size + 1 + 1, 0, none⟩) i i)) p := fun p hp => (HOK.out p hp).put (by omega) h9 _ _
      have h7 := pieces_again HP.out (fun p hp => (h8 p hp).conds) (by simp [World.setCell]) (fun _ g' o hA => by cases hA; exact put_other (by omega) _ _)
      have h6 := h9.put dim (some ⟨w.heap.size + 1 + 1, 0, none⟩) i i
      have h5 := hbr.trans (below_put (w := wr) (N := w.heap.size) (b := w.heap.size + 1) (by omega) (.int .i64 dim) (.slice (some ⟨w.heap.size + 1 + 1, 0, none⟩) i i))
      have HX := Lib.hid (And.intro h8 (And.intro h7 h5))
      have v0 := h6.c0
      have v1 := h6.c1
      clear h9 h8 h7 h6 h5
      go_wp2
      refine bodyPost_ret (v := setV dim (some ⟨w.heap.size + 1 + 1, 0, none⟩) i i) (by simp [results, Tryz.results60, go_sem, v0, v1]) rfl ?_
      exact ⟨_, qs, rfl, HX.out.2.1, HX.out.1, by rw [HD.out, HTK.out], by omega, HX.out.2.2⟩
end Go.Proofs.YtkgnlloioaobiaaGreat
namespace Go.Proofs.YtkgnlloioaobiaaGreat
open Go.RowKit
def OBox (w : World) (b : Nat) (O : Option Addr) (n c : Nat) : Prop := w.heap[b]? = some (.cells #[.slice O n c] 38 (0, 0))
theorem OBox.lt {w : World} {b : Nat} {O : Option Addr} {n c : Nat} (h : OBox w b O n c) : b < w.heap.size := (Array.getElem?_eq_some_iff.1 h).1
theorem OBox.step {w w' : World} {b : Nat} {O : Option Addr} {n c : Nat} (h : OBox w b O n c) (hb : Below w.heap.size w w') : OBox w' b O n c := (hb.block b h.lt).trans h
theorem OBox.c {w : World} {b : Nat} {O : Option Addr} {n c : Nat} (h : OBox w b O n c) : w.cell? ⟨b, 0, none⟩ = some (.slice O n c) := by rw [cell_of_row w b 0 _ _ (0, 0) h]; rfl
end Go.Proofs.YtkgnlloioaobiaaGreat
namespace Go.Proofs.YtkgnlloioaobiaaGreat
open Go.RowKit Go.Shelf
theorem valid_els {D : Int} {ps : List PEl} (h : validS D ps = true) : (0 ≤ D ∧ D ≤ 12 ∧ ps.length ≤ 400) ∧ ∀ p ∈ ps, p.els.length ≤ 96 ∧ ∀ e ∈ p.els, validC e.q e.M e.xs e.K = true ∧ (e.n : Int) = D := by
  refine ⟨(valid_parts h).1, fun p hp => ⟨((valid_parts h).2 p hp).2, fun e he => ?_⟩⟩
  unfold validS at h
  rw [Bool.and_eq_true] at h
  have h2 := List.all_eq_true.1 h.2 p hp
  unfold pieceOk at h2
  rw [Bool.and_eq_true] at h2
  have h3 := of_decide_eq_true h2.2
  unfold condsE at h3
  split at h3
  · rename_i hok
    split at h3
    · rename_i hdim
      exact ⟨List.all_eq_true.1 hok e he, by simpa using List.all_eq_true.1 hdim e he⟩
    · omega
  · omega
theorem valid_lin {q M K : Int} {xs : List Int} (h : validC q M xs K = true) : validB xs K = true := (validC_kind h).1
end Go.Proofs.YtkgnlloioaobiaaGreat
namespace Go.Proofs.YtkgnlloioaobiaaGreat
open Go.RowKit
set_option maxHeartbeats 2000000 in
theorem fix_fn (b off n c : Nat) (K : Int) (xs : List Int) (i bi bv : Nat) (v : Int) (w : World) (hI : IntsAt w (some ⟨b, off, none⟩) n xs) (hbl : b < w.heap.size) (hcs : ∀ j, j < n → w.cell? ⟨b, off + j, none⟩ = some (.int .i64 (xs[j]?.getD 0))) (hnc : n ≤ c) (hc63 : c ≤ 9223372036854775807)
    (hle12 : n ≤ 12) (hi : i < n) (Bi : IBox w bi i) (Bv : IBox w bv v) (hw1 : IntKind.i64.wrap (xs[i]?.getD 0 * v) = xs[i]?.getD 0 * v) (hw2 : IntKind.i64.wrap (K + xs[i]?.getD 0 * v) = K + xs[i]?.getD 0 * v) :
    Calls Tryz.prog 61 #[.agg #[.slice (some ⟨b, off, none⟩) n c, .int .i64 K], .pointer (some ⟨bi, 0, none⟩), .pointer (some ⟨bv, 0, none⟩)] w fun e w' => LinOwn w e w' (xs.eraseIdx i) (K + xs[i]?.getD 0 * v) := by
  have hsm := hI.small
  have B1 := (LBox.new w (some ⟨b, off, none⟩) n c K).alloc (.cells #[.slice none 0 0, .int .i64 0] 54)
  have B2 := LBox.new (w.alloc (.cells #[.slice (some ⟨b, off, none⟩) n c, .int .i64 K] 54)) none 0 0 0
  have hB := below_step (below_alloc w (.cells #[.slice (some ⟨b, off, none⟩) n c, .int .i64 K] 54)) (below_alloc _ (.cells #[.slice none 0 0, .int .i64 0] 54))
  have h1 := hI.step hB
  have gi := Bi.lt
  have gv := Bv.lt
  replace Bi := Bi.step hB
  replace Bv := Bv.step hB
  have ci := Bi.c
  have cv := Bv.c
  rw [World.size_alloc] at B2
  have hx := (hB.cell (p := ⟨b, off + i, none⟩) hbl).trans (hcs i hi)
  have HC := Lib.hid hcs
  have hi1 : (i : Int) < n := by omega
  have hi2 : (i : Int) ≤ c := by omega
  have s1 : IntKind.i64.wrap ((i : Int) + 1) = (i : Int) + 1 := IntWalk.i64_in _ (by omega)
  have s2 : (0 : Int) ≤ (i : Int) + 1 := by omega
  have s3 : ((i : Int) + 1).toNat = i + 1 := by omega
  have s4 : (i : Int) + 1 ≤ n := by omega
  have s5 : (i : Int) + 1 ≤ c := by omega
  have s6 : (n : Int) ≤ c := by omega
  clear hcs hI
  have c10 := B1.c0
  have c11 := B1.c1
  go_enter Tryz.func61, Tryz.ntmps61
  go_wp2
  generalize hw0 : (w.alloc (.cells #[.slice (some ⟨b, off, none⟩) n c, .int .i64 K] 54)).alloc (.cells #[.slice none 0 0, .int .i64 0] 54) = w1 at *
  clear hw0
  have l2 := B2.lt
  have HA := Lib.hid (fun j (hj : j < n) => (hB.cell (p := ⟨b, off + j, none⟩) hbl).trans (HC.out j hj))
  have l0 : w.heap.size < w1.heap.size := by omega
  have li := Bi.lt
  have lv := Bv.lt
  have n0 : w.heap.size + 1 ≠ w.heap.size := by omega
  have n1 : w.heap.size + 1 ≠ bi := by omega
  have n2 : w.heap.size + 1 ≠ bv := by omega
  have n3 : w.heap.size + 1 ≠ b := by omega
  have hbl1 : b < w1.heap.size := by omega
  obtain ⟨Q, hQ⟩ : ∃ Q, (if c = i + 1 then some (⟨b, off, none⟩ : Addr) else some ⟨b, off + (i + 1), none⟩) = Q := ⟨_, rfl⟩
  have ct := ((concat_in w1.heap.size 0 2 2 (cutP b off n c i xs) _ (cut_parts h1.len hsm h1.wf hbl1 HA.out hi hnc) (by simp) (by omega) (by rw [cut_tot hi]; have := h1.len; omega)).mono
    (R' := fun e w2 => ∃ A5 c5, e = .returned (.slice A5 (n - 1) c5) ∧ IntsAt w2 A5 (n - 1) (xs.eraseIdx i) ∧ Below w1.heap.size (w1.alloc (.cells #[.slice (some ⟨b, off, none⟩) i c, .slice (if c = i + 1 then some ⟨b, off, none⟩ else some ⟨b, off + (i + 1), none⟩) (n - (i + 1)) (c - (i + 1))] 38)).drew w2 ∧ (n - 1 = 0 ∨ ∃ g, A5 = some ⟨g, 0, none⟩ ∧ w1.heap.size ≤ g ∧ OwnRow w2 g (n - 1) (xs.eraseIdx i))) (by
      rintro e w2 ⟨v, rfl, hv2, hb2⟩
      rw [cut_tot hi, cut_cat] at hv2
      have hb3 := hb2.mono (show w1.heap.size ≤ (w1.alloc _).heap.size by simp)
      rcases hv2 with ⟨rfl, h0⟩ | ⟨g, cap, rfl, hg, hr, hcap⟩
      · refine ⟨none, 0, by rw [h0], ?_, hb3, .inl h0⟩
        have h9 : (xs.eraseIdx i).length = n - 1 := by rw [List.length_eraseIdx, if_pos (by rw [h1.len]; exact hi), h1.len]
        rw [h0] at h9 ⊢
        rw [List.eq_nil_of_length_eq_zero h9]
        exact ints_nil _ _
      · refine ⟨some ⟨g, 0, none⟩, cap, rfl, hr.ints (by omega) (fun x hx => h1.wf x (List.mem_of_mem_eraseIdx hx)), hb3, .inr ⟨g, rfl, ?_, hr⟩⟩
        have : (w1.alloc _).heap.size ≤ g := hg
        simp at this
        omega))
  rw [hQ] at ct
  have CT := Lib.hid ct
  clear ct
  go_region_held3 (fun W => W.cell? ⟨w.heap.size, 0, none⟩ = some (.slice (some ⟨b, off, none⟩) n c) ∧ W.cell? ⟨w.heap.size, 1, none⟩ = some (.int .i64 K) ∧ W.cell? ⟨bi, 0, none⟩ = some (.int .i64 i) ∧ W.cell? ⟨bv, 0, none⟩ = some (.int .i64 v) ∧ W.cell? ⟨b, off + i, none⟩ = some (.int .i64 (xs[i]?.getD 0))) (go_keep)
    (first | (go_at_call 62; refine CT.out.mono ?_; rintro e w2 ⟨A5, c5, rfl, I5, hb2, hf5⟩; have hb2' := (below_step0 hb2 : Below w1.heap.size w1 w2); have k0 := (hb2'.cell (p := ⟨w.heap.size, 0, none⟩) l0).trans c10; have k1 := (hb2'.cell (p := ⟨w.heap.size, 1, none⟩) l0).trans c11; have k2 := (hb2'.cell (p := ⟨bi, 0, none⟩) li).trans ci; have k3 := (hb2'.cell (p := ⟨bv, 0, none⟩) lv).trans cv; have k4 := (hb2'.cell (p := ⟨b, off + i, none⟩) hbl1).trans hx; have B4 := B2.step hb2'; have c40 := B4.c0; have c41 := B4.c1; have f40 := B4.f 0; have f41 := B4.f 1))
  have c50 := B4.s0 (.slice A5 (n - 1) c5)
  have c51 := (B4.store A5 (n - 1) c5 (K + xs[i]?.getD 0 * v)).c1
  have hf6 : n - 1 = 0 ∨ ∃ g, A5 = some ⟨g, 0, none⟩ ∧ w.heap.size + 1 < g ∧ OwnRow w2 g (n - 1) (xs.eraseIdx i) := hf5.imp id (fun ⟨g, h, h', ho⟩ => ⟨g, h, by omega, ho⟩)
  have hEnd := below_step hB hb2'
  clear k0 k1 k2 k3 k4 c10 c11 hx n0 n1 n2 n3 s1 s2 s3 s4 s5 s6 hQ
  go_wp2
  refine bodyPost_ret (v := .agg #[.slice A5 (n - 1) c5, .int .i64 (K + xs[i]?.getD 0 * v)]) (by simp [results, Tryz.results61, go_sem, c50, c51]) rfl ?_
  exact ⟨A5, n - 1, c5, rfl, ints_far I5 (hf6.imp id (fun ⟨g, h, h', _⟩ => ⟨g, h, by omega⟩)) _ _, below_store2 hEnd (by omega) _ _, hf6.imp id (fun ⟨g, h, h', ho⟩ => ⟨g, h, by omega, ho.store2 (by omega) _ _⟩)⟩
theorem fix_fn_c (A : Option Addr) (n c : Nat) (K : Int) (xs : List Int) (i bi bv : Nat) (v : Int) (w : World) (hC : CapOf A n c) (hI : IntsAt w A n xs)
    (hle12 : n ≤ 12) (hi : i < n) (Bi : IBox w bi i) (Bv : IBox w bv v) (hw1 : IntKind.i64.wrap (xs[i]?.getD 0 * v) = xs[i]?.getD 0 * v) (hw2 : IntKind.i64.wrap (K + xs[i]?.getD 0 * v) = K + xs[i]?.getD 0 * v) :
    Calls Tryz.prog 61 #[.agg #[.slice A n c, .int .i64 K], .pointer (some ⟨bi, 0, none⟩), .pointer (some ⟨bv, 0, none⟩)] w fun e w' => LinOwn w e w' (xs.eraseIdx i) (K + xs[i]?.getD 0 * v) := by
  obtain ⟨b, off, rfl, hlt, hc⟩ := hI.cells (by omega)
  exact fix_fn b off n c K xs i bi bv v w hI hlt hc hC.2.1 (by have := hC.2.2; omega) hle12 hi Bi Bv hw1 hw2
end Go.Proofs.YtkgnlloioaobiaaGreat
namespace Go.Proofs.YtkgnlloioaobiaaGreat
open Go.RowKit
theorem set_coord (x : Int) (w : World) : Calls Tryz.prog 59 #[.int .i64 x] w fun e w' => e = .returned (.bool (coordB x)) ∧ w = w' := by
  have HB : coordB x = true ↔ _ := coordB_true
  rcases (show x < -4294967296 ∨ 4294967296 < x ∨ (-4294967296 ≤ x ∧ x ≤ 4294967296) by omega) with h | h | ⟨h, h'⟩
  · have HE := Lib.hid (show coordB x = false by rw [Bool.eq_false_iff]; intro hc; have := HB.1 hc; omega)
    have h1 : ¬ (-4294967296 ≤ x) := by omega
    clear HB
    go_enter Tryz.func59, Tryz.ntmps59
    go_wp2
    go_ret
    exact ⟨ret_bool HE.out.symm, rfl⟩
  · have HE := Lib.hid (show coordB x = false by rw [Bool.eq_false_iff]; intro hc; have := HB.1 hc; omega)
    have h1 : (-4294967296 ≤ x) := by omega
    have h2 : ¬ (x ≤ 4294967296) := by omega
    clear HB
    go_enter Tryz.func59, Tryz.ntmps59
    go_wp2
    go_ret
    exact ⟨ret_bool HE.out.symm, rfl⟩
  · have HE := Lib.hid (show coordB x = true from HB.2 ⟨h, h'⟩)
    clear HB
    go_enter Tryz.func59, Tryz.ntmps59
    go_wp2
    go_ret
    exact ⟨ret_bool HE.out.symm, rfl⟩
end Go.Proofs.YtkgnlloioaobiaaGreat
namespace Go.Proofs.YtkgnlloioaobiaaGreat
open Go.RowKit Go.Shelf
def fixL (i : Nat) (v : Int) (xs : List Int) (K : Int) : List Int × Int := (xs.eraseIdx i, K + xs[i]?.getD 0 * v)
def fixE (D : Int) (ps : List PEl) (i v : Int) : Int × List (List CD) :=
  if validS D ps = false then (1, []) else if i < 0 ∨ D ≤ i ∨ coordB v = false then (6, []) else gatherD (D - 1).toNat ((ps.map PEl.dat).map fun d => d.map (chgD (fixL i.toNat v)))
theorem fix_small {xs : List Int} {K v : Int} {i : Nat} (hv : validB xs K = true) (hc : coordB v = true) :
    (-4503599627370496 ≤ xs[i]?.getD 0 * v ∧ xs[i]?.getD 0 * v ≤ 4503599627370496) ∧ (-1048576 ≤ K ∧ K ≤ 1048576) := by
  obtain ⟨_, hK, hx⟩ := validB_true.1 hv
  have hK := fitsB_true.1 hK
  have hv := coordB_true.1 hc
  refine ⟨?_, hK⟩
  have hxi : -1048576 ≤ xs[i]?.getD 0 ∧ xs[i]?.getD 0 ≤ 1048576 := by
    rcases Nat.lt_or_ge i xs.length with h | h
    · exact fitsB_true.1 (hx _ (getD_mem h))
    · rw [List.getElem?_eq_none h]; simp
  generalize xs[i]?.getD 0 = x at hxi ⊢
  have h1 : x.natAbs ≤ 1048576 := by omega
  have h2 : v.natAbs ≤ 4294967296 := by omega
  have h3 : (x * v).natAbs ≤ 1048576 * 4294967296 := by rw [Int.natAbs_mul]; exact Nat.mul_le_mul h1 h2
  omega
theorem fix_pre {D : Int} {ps qs : List PEl} {i : Nat} {v : Int} {w0 w' : World} (hP : ∀ p ∈ ps, CondsAt w0 p.A p.n p.els) (hv : validS D ps = true) (hc : coordB v = true) (hi : (i : Int) < D) (hq : ∀ q ∈ qs, CondsAt w' q.A q.n q.els) (hd : qs.map PEl.dat = ps.map fun p => p.dat.map (chgD (fixL i v))) : ∀ q ∈ qs, (∀ e ∈ q.els, PreB (D - 1).toNat e) ∧ q.n ≤ 1000 := by
  obtain ⟨hD, hE⟩ := valid_els hv
  intro q hqm
  have hmem : q.dat ∈ ps.map fun p => p.dat.map (chgD (fixL i v)) := by rw [← hd]; exact List.mem_map.2 ⟨q, hqm, rfl⟩
  obtain ⟨p, hp, hpd⟩ := List.mem_map.1 hmem
  have hlen : q.els.length = p.els.length := by
    have := congrArg List.length hpd
    simpa [PEl.dat] using this.symm
  have hql := (hq q hqm).len
  refine ⟨fun e he => ?_, by have := (hE p hp).1; omega⟩
  have hed : e.d ∈ q.dat := List.mem_map.2 ⟨e, he, rfl⟩
  rw [← hpd] at hed
  obtain ⟨d, hdm, hde⟩ := List.mem_map.1 hed
  obtain ⟨e0, he0, rfl⟩ := List.mem_map.1 hdm
  obtain ⟨hvc, hn⟩ := (hE p hp).2 e0 he0
  obtain ⟨hl12, hK, hx⟩ := validB_true.1 (valid_lin hvc)
  obtain ⟨s1, s2⟩ := fix_small (i := i) (valid_lin hvc) hc
  have k1 : e.q = e0.q := congrArg CD.q hde.symm
  have k2 : e.M = e0.M := congrArg CD.M hde.symm
  have k3 : e.xs = e0.xs.eraseIdx i := congrArg CD.xs hde.symm
  have k4 : e.K = e0.K + e0.xs[i]?.getD 0 * v := congrArg CD.K hde.symm
  have hel := ((hq q hqm).ints e he).len
  refine ⟨?_, by rw [k1, k2]; exact validC_ok hvc, by rw [k4]; omega, fun x hxm => ?_⟩
  · rw [k3] at hel
    have hl0 : (e0.xs.length : Int) = D := by
      rw [((hP p hp).ints e0 he0).len]
      exact hn
    rw [List.length_eraseIdx, if_pos (by omega)] at hel
    omega
  · rw [k3] at hxm
    have := fitsB_true.1 (hx x (List.mem_of_mem_eraseIdx hxm))
    omega
set_option maxHeartbeats 8000000 in
theorem set_fix (D : Int) (A : Option Addr) (n c : Nat) (ps : List PEl) (i v : Int) (w : World) (h : PiecesAt w A n ps) (hC : ∀ p ∈ ps, PieceC p) :
    Calls Tryz.prog 22 #[setV D A n c, .int .i64 i, .int .i64 v] w fun e w' => GatherRet (D - 1).toNat w e w' (D - 1) (fixE D ps i v) := by
  have hB := below_step (below_step (below_step (below_alloc w (.cells #[.int .i64 D, .slice A n c] 24)) (below_alloc _ (.cells #[.int .i64 i] 3))) (below_alloc _ (.cells #[.int .i64 v] 3))) (below_alloc _ (.cells #[.int .i64 0, .slice none 0 0] 24))
  have X1 := (((SetBox.new w D A n c).alloc (.cells #[.int .i64 i] 3)).alloc (.cells #[.int .i64 v] 3)).alloc (.cells #[.int .i64 0, .slice none 0 0] 24)
  have X2 := ((IBox.new (w.alloc (.cells #[.int .i64 D, .slice A n c] 24)) i).alloc (.cells #[.int .i64 v] 3)).alloc (.cells #[.int .i64 0, .slice none 0 0] 24)
  have X3 := (IBox.new ((w.alloc (.cells #[.int .i64 D, .slice A n c] 24)).alloc (.cells #[.int .i64 i] 3)) v).alloc (.cells #[.int .i64 0, .slice none 0 0] 24)
  have X4 := SetBox.new (((w.alloc (.cells #[.int .i64 D, .slice A n c] 24)).alloc (.cells #[.int .i64 i] 3)).alloc (.cells #[.int .i64 v] 3)) 0 none 0 0
  simp only [World.size_alloc] at X2 X3 X4
  have P1 := h.step hB
  have x0 := X1.c0
  have x1 := X1.c1
  have x2 := X2.c
  have x3 := X3.c
  have HCC := Lib.hid hC
  clear h hC
  cases hv : validS D ps
  · have HV := Lib.hid hv
    have HR := Lib.hid (show fixE D ps i v = (1, []) by unfold fixE; rw [if_pos hv])
    rw [HR.out]
    clear hv
    go_enter Tryz.func22, Tryz.ntmps22
    go_wp2_with (first | (go_at_call 43; refine (set_valid D A n c ps _ P1).mono ?_; rintro e w1 ⟨rfl, hb1⟩; rw [HV.out]; replace hB := below_step hB hb1; have P2 := P1.step hb1; have Y1 := X1.step hb1; have Y2 := X2.step hb1; have Y3 := X3.step hb1; have Y4 := X4.step hb1; clear x0 x1 x2 x3; have c0 := Y1.c0; have c1 := Y1.c1; have ci := Y2.c; have ck := Y3.c; have z0 := Y4.c0; have z1 := Y4.c1; have f0 := Y4.f 0; have f1 := Y4.f 1))
    have X5 := Y4.put 0 none 0 0; have hb8 := below_put (w := w1) (N := w.heap.size) (b := w.heap.size + 1 + 1 + 1) (by omega) (.int .i64 0) (.slice none 0 0); generalize (w1.setCell ⟨w.heap.size + 1 + 1 + 1, 0, none⟩ (.int .i64 0)).setCell ⟨w.heap.size + 1 + 1 + 1, 1, none⟩ (.slice none 0 0) = w5 at *; have y0 := X5.c0; have y1 := X5.c1; try rw [Exit.noGoto_ret]
    refine bodyPost_ret (v := .tuple #[setV 0 none 0 0, .int .i64 1]) (by simp [results, Tryz.results22, go_sem, y0, y1]) rfl ?_
    exact gather_none (by decide) ⟨rfl, hB.trans hb8⟩
  · have HV := Lib.hid hv
    have hE := valid_els hv
    obtain ⟨hD0, hD1, hL⟩ := hE.1
    have HE := Lib.hid hE.2
    have HL := Lib.hid hL
    obtain ⟨cb, hcb⟩ : ∃ cb, coordB v = cb := ⟨_, rfl⟩
    have HCO := Lib.hid hcb
    by_cases hr : i < 0 ∨ D ≤ i ∨ cb = false
    · have HR := Lib.hid (show fixE D ps i v = (6, []) by unfold fixE; rw [if_neg (by rw [hv]; simp), hcb, if_pos hr])
      rw [HR.out]
      clear hv hE hL hcb
      go_enter Tryz.func22, Tryz.ntmps22
      by_cases hi : i < 0
      · clear hr
        go_wp2_with (first | (go_at_call 43; refine (set_valid D A n c ps _ P1).mono ?_; rintro e w1 ⟨rfl, hb1⟩; rw [HV.out]; replace hB := below_step hB hb1; have P2 := P1.step hb1; have Y1 := X1.step hb1; have Y2 := X2.step hb1; have Y3 := X3.step hb1; have Y4 := X4.step hb1; clear x0 x1 x2 x3; have c0 := Y1.c0; have c1 := Y1.c1; have ci := Y2.c; have ck := Y3.c; have z0 := Y4.c0; have z1 := Y4.c1; have f0 := Y4.f 0; have f1 := Y4.f 1) | (go_at_call 59; refine (set_coord v _).mono ?_; rintro e w2 ⟨rfl, rfl⟩; rw [HCO.out]))
        have X5 := Y4.put 0 none 0 0; have hb8 := below_put (w := w1) (N := w.heap.size) (b := w.heap.size + 1 + 1 + 1) (by omega) (.int .i64 0) (.slice none 0 0); generalize (w1.setCell ⟨w.heap.size + 1 + 1 + 1, 0, none⟩ (.int .i64 0)).setCell ⟨w.heap.size + 1 + 1 + 1, 1, none⟩ (.slice none 0 0) = w5 at *; have y0 := X5.c0; have y1 := X5.c1; try rw [Exit.noGoto_ret]
        (refine bodyPost_ret (v := .tuple #[setV 0 none 0 0, .int .i64 6]) (by simp [results, Tryz.results22, go_sem, y0, y1]) rfl ?_; exact gather_none (by decide) ⟨rfl, hB.trans hb8⟩)
      · by_cases hi2 : D ≤ i
        · clear hr
          go_wp2_with (first | (go_at_call 43; refine (set_valid D A n c ps _ P1).mono ?_; rintro e w1 ⟨rfl, hb1⟩; rw [HV.out]; replace hB := below_step hB hb1; have P2 := P1.step hb1; have Y1 := X1.step hb1; have Y2 := X2.step hb1; have Y3 := X3.step hb1; have Y4 := X4.step hb1; clear x0 x1 x2 x3; have c0 := Y1.c0; have c1 := Y1.c1; have ci := Y2.c; have ck := Y3.c; have z0 := Y4.c0; have z1 := Y4.c1; have f0 := Y4.f 0; have f1 := Y4.f 1) | (go_at_call 59; refine (set_coord v _).mono ?_; rintro e w2 ⟨rfl, rfl⟩; rw [HCO.out]))
          have X5 := Y4.put 0 none 0 0; have hb8 := below_put (w := w1) (N := w.heap.size) (b := w.heap.size + 1 + 1 + 1) (by omega) (.int .i64 0) (.slice none 0 0); generalize (w1.setCell ⟨w.heap.size + 1 + 1 + 1, 0, none⟩ (.int .i64 0)).setCell ⟨w.heap.size + 1 + 1 + 1, 1, none⟩ (.slice none 0 0) = w5 at *; have y0 := X5.c0; have y1 := X5.c1; try rw [Exit.noGoto_ret]
          (refine bodyPost_ret (v := .tuple #[setV 0 none 0 0, .int .i64 6]) (by simp [results, Tryz.results22, go_sem, y0, y1]) rfl ?_; exact gather_none (by decide) ⟨rfl, hB.trans hb8⟩)
        · obtain rfl : cb = false := by simpa [hi, hi2] using hr
          clear hr
          go_wp2_with (first | (go_at_call 43; refine (set_valid D A n c ps _ P1).mono ?_; rintro e w1 ⟨rfl, hb1⟩; rw [HV.out]; replace hB := below_step hB hb1; have P2 := P1.step hb1; have Y1 := X1.step hb1; have Y2 := X2.step hb1; have Y3 := X3.step hb1; have Y4 := X4.step hb1; clear x0 x1 x2 x3; have c0 := Y1.c0; have c1 := Y1.c1; have ci := Y2.c; have ck := Y3.c; have z0 := Y4.c0; have z1 := Y4.c1; have f0 := Y4.f 0; have f1 := Y4.f 1) | (go_at_call 59; refine (set_coord v _).mono ?_; rintro e w2 ⟨rfl, rfl⟩; rw [HCO.out]))
          have X5 := Y4.put 0 none 0 0; have hb8 := below_put (w := w1) (N := w.heap.size) (b := w.heap.size + 1 + 1 + 1) (by omega) (.int .i64 0) (.slice none 0 0); generalize (w1.setCell ⟨w.heap.size + 1 + 1 + 1, 0, none⟩ (.int .i64 0)).setCell ⟨w.heap.size + 1 + 1 + 1, 1, none⟩ (.slice none 0 0) = w5 at *; have y0 := X5.c0; have y1 := X5.c1; try rw [Exit.noGoto_ret]
          (refine bodyPost_ret (v := .tuple #[setV 0 none 0 0, .int .i64 6]) (by simp [results, Tryz.results22, go_sem, y0, y1]) rfl ?_; exact gather_none (by decide) ⟨rfl, hB.trans hb8⟩)
    · have hi0 : ¬ i < 0 := by omega
      have hi1 : ¬ D ≤ i := by omega
      obtain rfl : cb = true := by cases cb; exact absurd (.inr (.inr rfl)) hr; rfl
      have HR := Lib.hid (show fixE D ps i v = gatherD (D - 1).toNat ((ps.map PEl.dat).map fun d => d.map (chgD (fixL i.toNat v))) by unfold fixE; rw [if_neg (by rw [hv]; simp), hcb, if_neg hr])
      rw [HR.out]
      have s2 : IntKind.i64.wrap (D - 1) = D - 1 := IntWalk.i64_in _ (by omega)
      obtain ⟨i', rfl⟩ : ∃ m : Nat, i = m := ⟨i.toNat, by omega⟩
      have HN := Lib.hid (show n ≤ 1000 by have := P1.len; omega)
      have HM := Lib.hid (fun p (hp : p ∈ ps) => (show p.n ≤ 1000 by have := (HE.out p hp).1; have := (P1.conds p hp).len; omega))
      have HF := Lib.hid (fun (w1 : World) (P2 : PiecesAt w1 A n ps) (Y2 : IBox w1 (w.heap.size + 1) (i' : Int)) (Y3 : IBox w1 (w.heap.size + 1 + 1) v) (W : World) (hb : Below w1.heap.size w1 W) (p : PEl) (hp : p ∈ ps) (e : CEl) (he : e ∈ p.els) =>
        (show Calls Tryz.prog 61 (#[.agg #[.slice e.A e.n e.c, .int .i64 e.K]] ++ #[.pointer (some ⟨w.heap.size + 1, 0, none⟩), .pointer (some ⟨w.heap.size + 1 + 1, 0, none⟩)]) W fun x W' => LinOwn W x W' (fixL i' v e.xs e.K).1 (fixL i' v e.xs e.K).2 from
          have hx := (HE.out p hp).2 e he
          have hs := fix_small (i := i') (valid_lin hx.1) HCO.out
          fix_fn_c e.A e.n e.c e.K e.xs i' _ _ v W ((HCC.out p hp).2.2 e he) (((P2.conds p hp).ints e he).step hb) (by have := hx.2; omega) (by have := hx.2; omega) (Y2.step hb) (Y3.step hb) (IntWalk.i64_in _ (by omega)) (IntWalk.i64_in _ (by omega))))
      have HPRE := Lib.hid (fun (w1 w3 : World) (P2 : PiecesAt w1 A n ps) (qs : List PEl) (hq : ∀ q ∈ qs, CondsAt w3 q.A q.n q.els) (hd : qs.map PEl.dat = ps.map fun p => p.dat.map (chgD (fixL i' v))) => fix_pre P2.conds HV.out HCO.out (by omega) hq hd)
      have HMM := Lib.hid (show ((ps.map PEl.dat).map fun d => d.map (chgD (fixL i' v))) = ps.map fun p => p.dat.map (chgD (fixL i' v)) by rw [List.map_map]; rfl)
      rw [show ((i' : Int)).toNat = i' from Int.toNat_natCast i', HMM.out]
      have HDN := Lib.hid (show (D - 1).toNat ≤ 100 by omega)
      obtain ⟨dn, hdn⟩ : ∃ dn, (D - 1).toNat = dn := ⟨_, rfl⟩
      rw [hdn] at HPRE HDN ⊢
      obtain ⟨L, hLL⟩ : ∃ L, (ps.map fun p => p.dat.map (chgD (fixL i' v))) = L := ⟨_, rfl⟩
      rw [hLL] at HPRE ⊢
      have HLL := Lib.hid hLL
      obtain ⟨gd, hgd⟩ : ∃ gd, gatherD dn L = gd := ⟨_, rfl⟩
      have HGD := Lib.hid hgd
      rw [hgd]
      obtain ⟨D', hD'⟩ : ∃ D', (if gd.1 ≠ 0 then (0 : Int) else D - 1) = D' := ⟨_, rfl⟩
      have HDD := Lib.hid hD'
      clear hgd hD' hLL hdn
      clear hv hE hL hr hcb
      go_enter Tryz.func22, Tryz.ntmps22
      go_wp2_with (first
        | (go_at_call 43; refine (set_valid D A n c ps _ P1).mono ?_; rintro e w1 ⟨rfl, hb1⟩; rw [HV.out]; replace hB := below_step hB hb1; have P2 := P1.step hb1; have Y1 := X1.step hb1; have Y2 := X2.step hb1; have Y3 := X3.step hb1; have Y4 := X4.step hb1; clear x0 x1 x2 x3; have c0 := Y1.c0; have c1 := Y1.c1; have ci := Y2.c; have ck := Y3.c; have z0 := Y4.c0; have z1 := Y4.c1; have f0 := Y4.f 0; have f1 := Y4.f 1)
        | (go_at_call 59; refine (set_coord v _).mono ?_; rintro e w2 ⟨rfl, rfl⟩; rw [HCO.out])
        | (go_at_call 60; refine (set_changed D A n c ps (D - 1) _ _ (fixL i' v) (enters_of Tryz.func61 (by kernel_rfl) rfl) w1 P2 HN.out HM.out (HF.out w1 P2 Y2 Y3)).mono ?_; rintro e w3 ⟨g, qs, rfl, hP3, hok3, hd3, hg3, hb3⟩; rw [HLL.out] at hd3; have HPR3 := Lib.hid (HPRE.out w1 w3 P2 qs hP3.conds hd3); have HD3 := Lib.hid hd3; have Z4 := Y4.step hb3; have B3 := below_step hB hb3; have b4 := below_alloc w3 (.cells #[.int .i64 (D - 1), .slice (some ⟨g, 0, none⟩) n n] 24); have T8 := SetBox.new w3 (D - 1) (some ⟨g, 0, none⟩) n n; clear hok3 hd3 hg3 hb3 c0 c1 ci ck z0 z1 f0 f1))
      have P4 := hP3.step b4
      have Z5 := Z4.step b4
      have B4 := below_step B3 b4
      have HQ4 := Lib.hid (fun p hp => HPR3.out p hp)
      generalize w3.alloc (.cells #[.int .i64 (D - 1), .slice (some ⟨g, 0, none⟩) n n] 24) = w4 at *
      have x0 := T8.c0
      have x1 := T8.c1
      replace B4 := B4.drew
      replace Z5 := Z5.step (Below.refl _ w4).drew
      replace T8 := T8.step (Below.refl _ w4).drew
      replace P4 := P4.step (Below.refl _ w4).drew
      have hz4 := Z4.lt
      generalize hb8 : w3.heap.size = b8 at *
      have hne : b8 ≠ w.heap.size + 1 + 1 + 1 := by omega
      have hne' : w.heap.size + 1 + 1 + 1 ≠ b8 := by omega
      have HNE := Lib.hid hne
      go_region_held3 (fun W => W.cell? ⟨b8, 0, none⟩ = some (.int .i64 (D - 1)) ∧ W.cell? ⟨b8, 1, none⟩ = some (.slice (some ⟨g, 0, none⟩) n n)) (first | with_reducible exact ⟨x0, x1⟩ | with_reducible exact ⟨y0, y1⟩ | with_reducible exact ⟨z0, z1⟩ | with_reducible exact ⟨q0, q1⟩ | go_keep)
        (first
          | (go_at_call 45; refine (values_at (some ⟨g, 0, none⟩) n n _).mono ?_; rintro e w5 ⟨Bs, rfl, hBl, hBc, hb5⟩; have hB5 := below_step B4 hb5; have T5 := T8.step hb5; have Z6 := Z5.step hb5; have Q5 := P4.step hb5; have y0 := T5.c0; have y1 := T5.c1)
          | (go_at_call 44; refine (set_gathered HDN.out (D - 1) (some ⟨g, 0, none⟩) n n qs _ Bs hBc hBl Q5 HQ4.out).mono ?_; rw [HD3.out, HGD.out]; rintro e w6 ⟨A6, k6, c6, us, rfl, hP6, hok6, hd6, hA6, hb6⟩; rw [HDD.out]; have HB6 := Lib.hid (And.intro hP6 (And.intro hok6 (And.intro hd6 (And.intro hA6 (below_step hB5 hb6))))); have T6 := T5.step hb6; have Z7 := Z6.step hb6; have z0 := T6.c0; have z1 := T6.c1; have d0 := Z7.c0; have d1 := Z7.c1; have e0 := Z7.f 0; have e1 := Z7.f 1; have T7 := put_far T6 HNE.out (.int .i64 D') (.slice A6 k6 c6); have q0 := T7.c0; have q1 := T7.c1; clear hP6 hok6 hd6 hA6 hb6))
      obtain ⟨hP6, hok6, hd6, hA6, hb6⟩ := HB6.out
      have hs5 := hB5.size
      have hl5 := T5.lt
      have hz5 := Z6.lt
      have X8 := Z7.put D' A6 k6 c6
      have hku := Z7.keepU (.int .i64 D') (.slice A6 k6 c6)
      have hok8 := fun p hp => (hok6 p hp).keep hku
      have hP8 := pieces_move hP6 hok8 hku.size (fun h0 g' o hA => by
        obtain ⟨g2, o', h1, h2⟩ := hA6 h0
        rw [hA] at h1
        cases h1
        exact put_other (by omega) _ _)
      have hb9 := hb6.trans (below_put (w := w6) (N := w.heap.size) (b := w.heap.size + 1 + 1 + 1) (by omega) (.int .i64 D') (.slice A6 k6 c6))
      rename_i hHeld
      clear hHeld hb6 hku
      generalize (w6.setCell ⟨w.heap.size + 1 + 1 + 1, 0, none⟩ (.int .i64 D')).setCell ⟨w.heap.size + 1 + 1 + 1, 1, none⟩ (.slice A6 k6 c6) = w8 at *
      have v0 := X8.c0
      have v1 := X8.c1
      go_wp2
      refine bodyPost_ret (v := .tuple #[setV D' A6 k6 c6, .int .i64 gd.1]) (by simp [results, Tryz.results22, go_sem, v0, v1]) rfl ?_
      refine ⟨A6, k6, c6, us, by rw [HDD.out], hP8, hok8, hd6, (fun h => let ⟨g', o, h1, h2⟩ := hA6 h; ⟨g', o, h1, by omega⟩), hb9⟩
end Go.Proofs.YtkgnlloioaobiaaGreat
namespace Go.Proofs.YtkgnlloioaobiaaGreat
structure EState (a b g rest x next : Int) (s t u : Int) (G R X N : Nat) : Prop where
  hs : s = 1 ∨ s = -1
  ht : t = 1 ∨ t = -1
  hu : u = 1 ∨ u = -1
  eg : g = s * G
  er : rest = t * R
  ex : x = u * X
  en : next = -(s * t * u) * N
  det : G * N + R * X = b.natAbs
  gcd : Nat.gcd G R = Nat.gcd a.natAbs b.natAbs
  c1 : b ∣ g - a * x
  c2 : b ∣ rest - a * next
  bX : X ≤ 1048576
  bN : N ≤ 1048576
  bG : G ≤ 1048576
  bR : R ≤ 1048576
theorem sign_of (a : Int) : ∃ s : Int, (s = 1 ∨ s = -1) ∧ a = s * a.natAbs := by
  by_cases h : 0 ≤ a
  · exact ⟨1, .inl rfl, by omega⟩
  · exact ⟨-1, .inr rfl, by omega⟩
theorem EState.start (a b : Int) (ha : a.natAbs ≤ 1048576) (hb : b.natAbs ≤ 1048576) : ∃ s t, EState a b a b 1 0 s t 1 a.natAbs b.natAbs 1 0 := by
  obtain ⟨s, hs, es⟩ := sign_of a
  obtain ⟨t, ht, et⟩ := sign_of b
  refine ⟨s, t, ⟨hs, ht, .inl rfl, es, et, by simp, by simp, by simp, rfl, by simp, by simp, by omega, by omega, ha, hb⟩⟩
theorem tdiv_signs {s t : Int} (hs : s = 1 ∨ s = -1) (ht : t = 1 ∨ t = -1) (G R : Nat) : (s * G).tdiv (t * R) = s * t * ((G / R : Nat) : Int) := by
  rcases hs with rfl | rfl <;> rcases ht with rfl | rfl <;> simp [Int.neg_tdiv, Int.tdiv_neg]
theorem EState.next_eq {a b g rest x next s t u : Int} {G R X N : Nat} (h : EState a b g rest x next s t u G R X N) :
    x - g.tdiv rest * next = u * ((X + G / R * N : Nat) : Int) := by
  rw [h.eg, h.er, tdiv_signs h.hs h.ht, h.ex, h.en, Int.natCast_add, Int.natCast_mul]
  generalize ((G / R : Nat) : Int) = q
  rcases h.hs with rfl | rfl <;> rcases h.ht with rfl | rfl <;> rcases h.hu with rfl | rfl <;> simp [Int.neg_mul, Int.mul_neg] <;> omega
theorem EState.rest_eq {a b g rest x next s t u : Int} {G R X N : Nat} (h : EState a b g rest x next s t u G R X N) :
    g - g.tdiv rest * rest = s * ((G % R : Nat) : Int) := by
  have e := Nat.div_add_mod G R
  have e' : ((G : Nat) : Int) = (R : Int) * ((G / R : Nat) : Int) + ((G % R : Nat) : Int) := by rw [← Int.natCast_mul, ← Int.natCast_add, e]
  rw [h.eg, h.er, tdiv_signs h.hs h.ht]
  have e2 : ((G / R : Nat) : Int) * (R : Int) = (G : Int) - ((G % R : Nat) : Int) := by rw [Int.mul_comm]; omega
  generalize ((G / R : Nat) : Int) = q at *
  rcases h.hs with rfl | rfl <;> rcases h.ht with rfl | rfl <;> simp [Int.neg_mul, Int.mul_neg] <;> omega
theorem EState.step {a b g rest x next s t u : Int} {G R X N : Nat} (h : EState a b g rest x next s t u G R X N) (hR : R ≠ 0) (hb : b.natAbs ≤ 1048576) :
    EState a b rest (g - g.tdiv rest * rest) next (x - g.tdiv rest * next) t s (-(s * t * u)) R (G % R) N (X + G / R * N) := by
  have e := Nat.div_add_mod G R
  have hdet : R * (X + G / R * N) + G % R * N = b.natAbs := by
    rw [← h.det]
    have : G * N = R * (G / R) * N + G % R * N := by rw [← Nat.add_mul, e]
    rw [this, Nat.mul_add, Nat.mul_assoc]; omega
  have hN : X + G / R * N ≤ 1048576 := by
    have h2 : 1 * (X + G / R * N) ≤ R * (X + G / R * N) := Nat.mul_le_mul_right _ (by omega)
    omega
  refine ⟨h.ht, h.hs, ?_, h.er, h.rest_eq, ?_, ?_, hdet, ?_, ?_, ?_, h.bN, hN, h.bR, ?_⟩
  · rcases h.hs with rfl | rfl <;> rcases h.ht with rfl | rfl <;> rcases h.hu with rfl | rfl <;> simp
  · exact h.en
  · rw [h.next_eq]
    rcases h.hs with rfl | rfl <;> rcases h.ht with rfl | rfl <;> rcases h.hu with rfl | rfl <;> simp
  · rw [← h.gcd, Nat.gcd_comm G R]
    rw [Nat.gcd_rec R G]; exact Nat.gcd_comm _ _
  · exact h.c2
  · have e1 : g - g.tdiv rest * rest - a * (x - g.tdiv rest * next) = (g - a * x) - g.tdiv rest * (rest - a * next) := by
      simp only [Int.mul_sub, Int.mul_left_comm a]; omega
    rw [e1]
    exact Int.dvd_sub h.c1 (Int.dvd_mul_of_dvd_right h.c2)
  · have := Nat.mod_lt G (Nat.pos_of_ne_zero hR); have := h.bR; omega
structure IsSplit (a b : Int) (g : Nat) (x : Int) : Prop where
  gcd : g = Nat.gcd a.natAbs b.natAbs
  dvd : b ∣ (g : Int) - a * x
  lo : 0 ≤ x
  hi : x < ((b.natAbs / g : Nat) : Int)
theorem gcd_pos {a b : Int} (hb : b ≠ 0) : 0 < Nat.gcd a.natAbs b.natAbs := Nat.gcd_pos_of_pos_right _ (by omega)
theorem mod_split {a b x0 : Int} (hb : b ≠ 0) (h : b ∣ (Nat.gcd a.natAbs b.natAbs : Int) - a * x0) :
    IsSplit a b (Nat.gcd a.natAbs b.natAbs) (x0 % ((b.natAbs / Nat.gcd a.natAbs b.natAbs : Nat) : Int)) := by
  have hg := gcd_pos (a := a) hb
  generalize hgd : Nat.gcd a.natAbs b.natAbs = g at *
  have ga : g ∣ a.natAbs := hgd ▸ Nat.gcd_dvd_left _ _
  have gb : g ∣ b.natAbs := hgd ▸ Nat.gcd_dvd_right _ _
  have eb : g * (b.natAbs / g) = b.natAbs := Nat.mul_div_cancel' gb
  have hd : 0 < b.natAbs / g := Nat.div_pos (Nat.le_of_dvd (by omega) gb) hg
  generalize hdd : b.natAbs / g = d at *
  refine ⟨hgd.symm, ?_, Int.emod_nonneg _ (by omega), ?_⟩
  rotate_left
  · have e0 : (b.natAbs / g : Nat) = d := hdd
    rw [e0]; exact Int.emod_lt_of_pos x0 (show (0 : Int) < d by omega)
  have e : (g : Int) - a * (x0 % (d : Int)) = ((g : Int) - a * x0) + a * (d : Int) * (x0 / (d : Int)) := by
    have := Int.mul_ediv_add_emod x0 (d : Int)
    have h2 : a * x0 = a * ((d : Int) * (x0 / (d : Int)) + x0 % (d : Int)) := by rw [this]
    rw [Int.mul_add, ← Int.mul_assoc] at h2
    omega
  rw [e]
  refine Int.dvd_add h (Int.dvd_mul_of_dvd_left ?_)
  obtain ⟨k, hk⟩ := Int.ofNat_dvd_left.2 ga
  have e2 : a * (d : Int) = k * ((b.natAbs : Nat) : Int) := by
    rw [hk, ← eb, Int.natCast_mul, Int.mul_comm (g : Int) k, Int.mul_assoc]
  rw [e2]
  exact Int.dvd_mul_of_dvd_right (Int.dvd_natAbs_self)
theorem IsSplit.least {a b x y : Int} {g : Nat} (hb : b ≠ 0) (h : IsSplit a b g x) (h0 : 0 ≤ y) (hy : y < x) : ¬ b ∣ (g : Int) - a * y := by
  intro hd
  have hg : 0 < g := h.gcd ▸ gcd_pos hb
  have h1 : b ∣ a * (x - y) := by
    have := Int.dvd_sub hd h.dvd
    have e : (g : Int) - a * y - ((g : Int) - a * x) = a * (x - y) := by rw [Int.mul_sub]; omega
    rwa [e] at this
  have h2 : b.natAbs ∣ a.natAbs * (x - y).natAbs := by rw [← Int.natAbs_mul]; exact Int.natAbs_dvd_natAbs.2 h1
  have ga : g ∣ a.natAbs := h.gcd ▸ Nat.gcd_dvd_left _ _
  have gb : g ∣ b.natAbs := h.gcd ▸ Nat.gcd_dvd_right _ _
  have co : Nat.Coprime (a.natAbs / g) (b.natAbs / g) := by rw [h.gcd]; exact Nat.coprime_div_gcd_div_gcd (gcd_pos hb)
  have eb : g * (b.natAbs / g) = b.natAbs := Nat.mul_div_cancel' gb
  have ea : g * (a.natAbs / g) = a.natAbs := Nat.mul_div_cancel' ga
  have hi := h.hi
  rw [← eb, ← ea, Nat.mul_assoc] at h2
  have h3 := Nat.dvd_of_mul_dvd_mul_left hg h2
  have h4 := co.symm.dvd_of_dvd_mul_left h3
  have := Nat.le_of_dvd (by omega) h4
  omega
theorem IsSplit.unique {a b x y : Int} {g g' : Nat} (hb : b ≠ 0) (h : IsSplit a b g x) (h' : IsSplit a b g' y) : g = g' ∧ x = y := by
  have e : g = g' := h.gcd.trans h'.gcd.symm
  subst e
  refine ⟨rfl, ?_⟩
  rcases Int.lt_trichotomy x y with hl | he | hl
  · exact absurd h.dvd (h'.least hb h.lo hl)
  · exact he
  · exact absurd h'.dvd (h.least hb h'.lo hl)
end Go.Proofs.YtkgnlloioaobiaaGreat
namespace Go.Proofs.YtkgnlloioaobiaaGreat
open Go.RowKit
theorem EState.done {a b g x next s t u : Int} {G X N : Nat} (h : EState a b g 0 x next s t u G 0 X N) (hb : b ≠ 0) :
    G = Nat.gcd a.natAbs b.natAbs ∧ ((g = G ∧ ∀ y, IsSplit a b G y → x % ((b.natAbs / G : Nat) : Int) = y) ∨ (g = -(G : Int) ∧ ∀ y, IsSplit a b G y → (-x) % ((b.natAbs / G : Nat) : Int) = y)) := by
  have e : G = Nat.gcd a.natAbs b.natAbs := by rw [← h.gcd]; simp
  refine ⟨e, ?_⟩
  have hc := h.c1
  have hg := h.eg
  rcases h.hs with hs | hs
  · rw [hs] at hg
    refine .inl ⟨by omega, fun y hy => ?_⟩
    have h1 := mod_split (a := a) (b := b) (x0 := x) hb (by rw [← e]; have : (G : Int) - a * x = g - a * x := by omega
                                                            rw [this]; exact hc)
    rw [← e] at h1
    exact (h1.unique hb hy).2
  · rw [hs] at hg
    refine .inr ⟨by omega, fun y hy => ?_⟩
    have h1 := mod_split (a := a) (b := b) (x0 := -x) hb (by rw [← e, Int.mul_neg]; have : (G : Int) - -(a * x) = -(g - a * x) := by omega
                                                             rw [this]; exact Int.dvd_neg.2 hc)
    rw [← e] at h1
    exact (h1.unique hb hy).2
end Go.Proofs.YtkgnlloioaobiaaGreat
namespace Go.Proofs.YtkgnlloioaobiaaGreat
open Go.RowKit
def cutTo (xs : List Int) (i j : Nat) : List Int := (xs.take j).eraseIdx i
theorem cut_same {xs : List Int} {i : Nat} (hi : i < xs.length) : cutTo xs i (i + 1) = cutTo xs i i := by
  unfold cutTo
  have hl : (xs.take i).length = i := by rw [List.length_take]; omega
  rw [List.take_succ_eq_append_getElem hi, List.eraseIdx_append_of_length_le (by omega), List.eraseIdx_of_length_le (l := xs.take i) (by omega), hl]
  simp
theorem cut_more {xs : List Int} {i j : Nat} (hj : j < xs.length) (hne : j ≠ i) : cutTo xs i (j + 1) = cutTo xs i j ++ [xs[j]?.getD 0] := by
  unfold cutTo
  rw [List.take_succ_eq_append_getElem hj]
  have e : xs[j]?.getD 0 = xs[j] := by simp [hj]
  rw [e]
  rcases Nat.lt_or_ge i j with h | h
  · rw [List.eraseIdx_append_of_lt_length (by rw [List.length_take]; omega)]
  · have hl : (xs.take j).length = j := by rw [List.length_take]; omega
    rw [List.eraseIdx_append_of_length_le (by omega), List.eraseIdx_of_length_le (l := xs.take j) (by omega), List.eraseIdx_of_length_le (l := [xs[j]]) (by simp; omega)]
theorem grown_cell (w : World) (a : Addr) (u : Value) : w.grownBy (w.setCell a u) (some a.block) :=
  ⟨rfl, rfl, rfl, by simp [World.setCell], fun k hk hne => Below.heap_setCell w a u k (fun e => hne (by rw [e]))⟩
theorem LBox.set0 {w : World} {b : Nat} {A : Option Addr} {n c : Nat} {K : Int} (h : LBox w b A n c K) (A' : Option Addr) (n' c' : Nat) : LBox (w.setCell ⟨b, 0, none⟩ (.slice A' n' c')) b A' n' c' K := by
  unfold LBox at h ⊢
  simp only [World.setCell]
  rw [Array.getElem?_modify, if_pos rfl, h]
  rfl
end Go.Proofs.YtkgnlloioaobiaaGreat
namespace Go.Proofs.YtkgnlloioaobiaaGreat
open Go.RowKit
theorem own_typed {w : World} {B m c : Nat} {A : Option Addr} {xs : List Value} (h : w.ownsRow B 3 1 (.slice A m c) m xs) : m = 0 ∨ ∃ g, A = some ⟨g, 0, none⟩ ∧ B ≤ g ∧ ∃ cur : Array Value, w.heap[g]? = some (.cells cur 3 (0, 0)) ∧ m ≤ cur.size := by
  rcases h.2 with ⟨_, h0⟩ | ⟨g, cap, cur, e, hb, hc, h1, _, h3, _⟩
  · exact .inl h0
  · simp only [Value.slice.injEq] at e
    exact .inr ⟨g, e.1, hb, cur, hc, by omega⟩
end Go.Proofs.YtkgnlloioaobiaaGreat
namespace Go.Proofs.YtkgnlloioaobiaaGreat
open Go.RowKit
set_option maxHeartbeats 4000000 in
theorem own_without (b off n c : Nat) (K : Int) (xs : List Int) (i : Nat) (w : World) (hI : IntsAt w (some ⟨b, off, none⟩) n xs) (hn : n ≤ 12) (hi : i < n) :
    Calls Tryz.prog 64 #[.agg #[.slice (some ⟨b, off, none⟩) n c, .int .i64 K], .int .i64 i] w fun e w' => ∃ A c', e = .returned (.agg #[.slice A (n - 1) c', .int .i64 K]) ∧ IntsAt w' A (n - 1) (xs.eraseIdx i) ∧ Below w.heap.size w w' ∧ (n - 1 = 0 ∨ ∃ g, A = some ⟨g, 0, none⟩ ∧ w.heap.size ≤ g ∧ ∃ cur : Array Value, w'.heap[g]? = some (.cells cur 3 (0, 0)) ∧ n - 1 ≤ cur.size) := by
  obtain ⟨w1, hw1⟩ : ∃ w1, w1 = ((w.alloc (.cells #[.slice (some ⟨b, off, none⟩) n c, .int .i64 K] 54)).alloc (.cells #[.slice none 0 0, .int .i64 0] 54)).alloc (.cells #[.slice none 0 0, .int .i64 K] 54) := ⟨_, rfl⟩
  have C1 : LBox w1 w.heap.size (some ⟨b, off, none⟩) n c K := by rw [hw1]; exact ((LBox.new w (some ⟨b, off, none⟩) n c K).alloc (.cells #[.slice none 0 0, .int .i64 0] 54)).alloc (.cells #[.slice none 0 0, .int .i64 K] 54)
  have C2 : LBox w1 (w.heap.size + 1) none 0 0 0 := by
    have h := (LBox.new (w.alloc (.cells #[.slice (some ⟨b, off, none⟩) n c, .int .i64 K] 54)) none 0 0 0).alloc (.cells #[.slice none 0 0, .int .i64 K] 54)
    rw [World.size_alloc] at h; rw [hw1]; exact h
  have C3 : LBox w1 (w.heap.size + 1 + 1) none 0 0 K := by
    have h := LBox.new ((w.alloc (.cells #[.slice (some ⟨b, off, none⟩) n c, .int .i64 K] 54)).alloc (.cells #[.slice none 0 0, .int .i64 0] 54)) none 0 0 K
    rw [World.size_alloc, World.size_alloc] at h; rw [hw1]; exact h
  have hB1 : Below w.heap.size w w1 := by
    rw [hw1]
    exact below_step (below_step (below_alloc w (.cells #[.slice (some ⟨b, off, none⟩) n c, .int .i64 K] 54)) (below_alloc _ (.cells #[.slice none 0 0, .int .i64 0] 54))) (below_alloc _ (.cells #[.slice none 0 0, .int .i64 K] 54))
  have s1 : w1.heap.size = w.heap.size + 3 := by rw [hw1]; simp only [World.size_alloc]
  have hlen := Lib.hid hI.len
  have hbl0 : b < w.heap.size := by
    obtain ⟨b', off', e', h0, _⟩ := hI.cells (by omega)
    simp only [Option.some.injEq, Addr.mk.injEq, and_true] at e'
    obtain ⟨rfl, rfl⟩ := e'
    exact h0
  have I1 := hI.step hB1
  clear hI
  go_enter Tryz.func64, Tryz.ntmps64
  go_wp2
  rw [← hw1]
  clear hw1
  go_loopw [14] (fun v wr => ∃ (j : Nat) (A0 : Option Addr) (c0 : Nat), j ≤ n ∧ v = .int .i64 j ∧ LBox wr (w.heap.size + 1 + 1) A0 (cutTo xs i j).length c0 K ∧ wr.ownsRow (w.heap.size + 3) 3 1 (.slice A0 (cutTo xs i j).length c0) (cutTo xs i j).length (vals (cutTo xs i j)) ∧ Below (w.heap.size + 1 + 1) w1 wr) (fun v _ => n - (intOf v).toNat)
  case atStart => exact ⟨0, none, 0, Nat.zero_le _, rfl, C3, World.ownsRow_nil _ _ _ _, Below.refl _ _⟩
  case round =>
    obtain ⟨j, A0, c0, hj, rfl, LB, hown, hbr⟩ := hrel
    have hsz := hbr.size
    have D1 := C1.below hbr (by omega)
    have D2 := C2.below hbr (by omega)
    by_cases hlt : j < n
    · have hcell : wr.cell? ⟨b, off + j, none⟩ = some (.int .i64 (xs[j]?.getD 0)) := by
        obtain ⟨b', off', e', _, hc⟩ := I1.cells (by omega)
        simp only [Option.some.injEq, Addr.mk.injEq, and_true] at e'
        obtain ⟨rfl, rfl⟩ := e'
        exact (hbr.cell (p := ⟨b, off + j, none⟩) (by show b < _; omega)).trans (hc j hlt)
      have hlt' : (j : Int) < n := by omega
      have hm : (cutTo xs i j).length ≤ 12 := by
        unfold cutTo
        rw [List.length_eraseIdx]
        have := hlen.out
        split <;> (rw [List.length_take]; omega)
      have hxj := I1.rng j
      by_cases he : j = i
      · subst he
        have HS := Lib.hid (cut_same (xs := xs) (i := j) (by rw [hlen.out]; exact hlt))
        generalize cutTo xs j j = z at *
        go_wp2
        go_roundw
        case rel => exact ⟨j + 1, A0, c0, by omega, by go_num, by rw [HS.out]; exact LB, by rw [HS.out]; exact hown, hbr⟩
        case measure => simp [intOf]; omega
      · have HS := Lib.hid (cut_more (xs := xs) (i := i) (j := j) (by rw [hlen.out]; exact hlt) he)
        have he1 : (j : Int) ≠ i := by omega
        generalize cutTo xs i j = z at *
        generalize hxx : xs[j]?.getD 0 = xj at *
        clear hxx
        have c00 := LB.c0
        have hsz1 : w.heap.size + 1 + 1 < wr.heap.size := by omega
        have hrw : IntsAt (wr.alloc (.cells #[.int .i64 xj] 3)) (some ⟨wr.heap.size, 0, none⟩) 1 [xj] := (Row.new wr [xj]).ints rfl (by omega) (fun x hx => by rw [List.mem_singleton.1 hx]; exact hxj)
        go_wp2_with (at_builtin; refine wpList_append_ints rfl _ _ rfl (w.heap.size + 3) _ _ _ rfl (hown.alloc _) _ _ _ _ rfl hrw (by omega) (by simp; omega) ?_; intro A1 c1 w2 hown2 hgr; have LB2 := (show LBox w2 (w.heap.size + 1 + 1) A0 z.length c0 K from (hgr.block (w.heap.size + 1 + 1) (by simp; omega) (fun e => by have := (hown.lt _ e.symm).1; omega)).trans (LB.alloc _)); have d0 := LB2.c0; have d1 := LB2.f 0)
        have hw2 := ((hbr.alloc (by omega) (.cells #[.int .i64 xj] 3)).grown hgr (by simp; omega) (fun k e => by have := (hown.lt k e).1; omega)).setCell (p := ⟨w.heap.size + 1 + 1, 0, none⟩) (Nat.le_refl _) (.slice A1 (z.length + 1) c1)
        have hown3 := World.ownsRow.kept hown2 (grown_cell w2 ⟨w.heap.size + 1 + 1, 0, none⟩ (.slice A1 (z.length + 1) c1)) (.inr fun e => by have h : w.heap.size + 3 ≤ w.heap.size + 1 + 1 := (hown2.lt _ e).1; omega)
        have hl : (z ++ [xj]).length = z.length + 1 := by simp
        go_roundw
        case rel => exact ⟨j + 1, A1, c1, by omega, by go_num, by rw [HS.out, hl]; exact LB2.set0 _ _ _, by rw [HS.out, hl, vals_app]; exact hown3, hw2⟩
        case measure => simp [intOf]; omega
    · obtain rfl : j = n := by omega
      have hz : cutTo xs i j = xs.eraseIdx i := by unfold cutTo; rw [List.take_of_length_le (by rw [hlen.out]; exact Nat.le_refl _)]
      have hzl : (cutTo xs i j).length = j - 1 := by rw [hz, List.length_eraseIdx, hlen.out, if_pos hi]
      rw [hzl] at LB hown
      rw [hz] at hown
      have hown' := World.ownsRow.kept (World.ownsRow.kept hown (grown_cell wr ⟨w.heap.size + 1, 0, none⟩ (.slice A0 (j - 1) c0)) (.inr fun e => by have h : w.heap.size + 3 ≤ w.heap.size + 1 := (hown.lt _ e).1; omega)) (grown_cell _ ⟨w.heap.size + 1, 1, none⟩ (.int .i64 K)) (.inr fun e => by have h : w.heap.size + 3 ≤ w.heap.size + 1 := (hown.lt _ e).1; omega)
      obtain ⟨A2, c2, e2, I2⟩ := own_ints hown' (by omega) (fun x hx => I1.wf x (List.mem_of_mem_eraseIdx hx))
      simp only [Value.slice.injEq, true_and] at e2
      obtain ⟨rfl, rfl⟩ := e2
      have HT := Lib.hid (own_typed hown')
      have hge : ¬ ((j : Int) < j) := by omega
      have k0 := LB.c0
      have k1 := LB.c1
      have f0 := D2.f 0
      have f1 := D2.f 1
      have g0 := D2.c0
      have g1 := D2.c1
      have k2 := D2.s0 (.slice A0 (j - 1) c0)
      have k3 := (D2.store A0 (j - 1) c0 K).c1
      have hBr := hB1.trans (hbr.mono (Nat.le_trans (Nat.le_succ _) (Nat.le_succ _)))
      clear hown hown' hz hzl D1 C1 C2 C3
      go_wp2
      refine bodyPost_ret (v := .agg #[.slice A0 (j - 1) c0, .int .i64 K]) (by simp [results, Tryz.results64, go_sem, k2, k3]) rfl ?_
      exact ⟨A0, ⟨c0, rfl⟩, I2, below_store2 hBr (Nat.le_succ _) _ _, HT.out.imp id fun ⟨g, e, hg, cur, hc, hn⟩ => ⟨g, e, by omega, cur, hc, by omega⟩⟩
end Go.Proofs.YtkgnlloioaobiaaGreat
namespace Go.Proofs.YtkgnlloioaobiaaGreat
open Go.RowKit Go.Shelf
theorem conds_one {w : World} {g : Nat} {e : CEl} (hg : w.heap[g]? = some (.cells #[.int .i64 e.q, .int .i64 e.M, .slice e.A e.n e.c, .int .i64 e.K] 56 (0, 0))) (hi : IntsAt w e.A e.n e.xs) : CondsAt w (some ⟨g, 0, none⟩) 1 [e] := by
  refine ⟨rfl, by omega, fun _ => ⟨g, 0, rfl, (Array.getElem?_eq_some_iff.1 hg).1, fun j x hx => ?_⟩, fun x hx => by rw [List.mem_singleton.1 hx]; exact hi⟩
  match j, hx with
  | 0, hx =>
    cases hx
    exact ⟨by rw [cell_of_row w g _ _ _ (0, 0) hg]; rfl, by rw [cell_of_row w g _ _ _ (0, 0) hg]; rfl, by rw [cell_of_row w g _ _ _ (0, 0) hg]; rfl, by rw [cell_of_row w g _ _ _ (0, 0) hg]; rfl⟩
  | j + 1, hx => simp at hx
theorem lbox_set1 {w : World} {b : Nat} {A : Option Addr} {n c : Nat} {K : Int} (h : LBox w b A n c K) (K' : Int) : LBox (w.setCell ⟨b, 1, none⟩ (.int .i64 K')) b A n c K' := by
  unfold LBox at h ⊢
  simp only [World.setCell]
  rw [Array.getElem?_modify, if_pos rfl, h]
  rfl
set_option maxHeartbeats 8000000 in
theorem ref_fix (D : Int) (A : Option Addr) (n c : Nat) (ps : List PEl) (i v : Int) (w : World) (h : PiecesAt w A n ps) (hC : ∀ p ∈ ps, PieceC p) :
    Calls Tryz.prog 23 #[setV D A n c, .int .i64 i, .int .i64 v] w fun e w' => GatherRet (D - 1).toNat w e w' (D - 1) (fixE D ps i v) := by
  have hB := below_step (below_alloc w (.cells #[.int .i64 D, .slice A n c] 24)) (below_alloc _ (.cells #[.int .i64 0, .slice none 0 0] 24))
  have X1 := (SetBox.new w D A n c).alloc (.cells #[.int .i64 0, .slice none 0 0] 24)
  have X4 := SetBox.new (w.alloc (.cells #[.int .i64 D, .slice A n c] 24)) 0 none 0 0
  simp only [World.size_alloc] at X4
  have P1 := h.step hB
  have x0 := X1.c0
  have x1 := X1.c1
  have HCC := Lib.hid hC
  clear h hC
  cases hv : validS D ps
  · have HV := Lib.hid hv
    have HR := Lib.hid (show fixE D ps i v = (1, []) by unfold fixE; rw [if_pos hv])
    rw [HR.out]
    clear hv
    go_enter Tryz.func23, Tryz.ntmps23
    go_wp2_with (first | (go_at_call 46; refine (ref_svalid D A n c ps _ P1).mono ?_; rintro e w1 ⟨rfl, hb1⟩; rw [HV.out]; replace hB := below_step hB hb1; have P2 := P1.step hb1; have Y1 := X1.step hb1; have Y4 := X4.step hb1; clear x0 x1; have c0 := Y1.c0; have c1 := Y1.c1; have z0 := Y4.c0; have z1 := Y4.c1; have f0 := Y4.f 0; have f1 := Y4.f 1))
    have X5 := Y4.put 0 none 0 0; have hb8 := below_put (w := w1) (N := w.heap.size) (b := w.heap.size + 1) (by omega) (.int .i64 0) (.slice none 0 0); generalize (w1.setCell ⟨w.heap.size + 1, 0, none⟩ (.int .i64 0)).setCell ⟨w.heap.size + 1, 1, none⟩ (.slice none 0 0) = w5 at *; have y0 := X5.c0; have y1 := X5.c1; try rw [Exit.noGoto_ret]
    refine bodyPost_ret (v := .tuple #[setV 0 none 0 0, .int .i64 1]) (by simp [results, Tryz.results23, go_sem, y0, y1]) rfl ?_
    exact gather_none (by decide) ⟨rfl, hB.trans hb8⟩
  · have HV := Lib.hid hv
    have hE := valid_els hv
    obtain ⟨hD0, hD1, hL⟩ := hE.1
    have HE := Lib.hid hE.2
    obtain ⟨cb, hcb⟩ : ∃ cb, coordB v = cb := ⟨_, rfl⟩
    have HCO := Lib.hid hcb
    by_cases hr : i < 0 ∨ D ≤ i ∨ cb = false
    · have HR := Lib.hid (show fixE D ps i v = (6, []) by unfold fixE; rw [if_neg (by rw [hv]; simp), hcb, if_pos hr])
      rw [HR.out]
      clear hv hE hL hcb
      go_enter Tryz.func23, Tryz.ntmps23
      by_cases hi : i < 0
      · clear hr
        go_wp2_with (first | (go_at_call 46; refine (ref_svalid D A n c ps _ P1).mono ?_; rintro e w1 ⟨rfl, hb1⟩; rw [HV.out]; replace hB := below_step hB hb1; have P2 := P1.step hb1; have Y1 := X1.step hb1; have Y4 := X4.step hb1; clear x0 x1; have c0 := Y1.c0; have c1 := Y1.c1; have z0 := Y4.c0; have z1 := Y4.c1; have f0 := Y4.f 0; have f1 := Y4.f 1) | (go_at_call 63; refine (coord_any v _).mono ?_; rintro e w2 ⟨rfl, rfl⟩; rw [HCO.out]))
        have X5 := Y4.put 0 none 0 0; have hb8 := below_put (w := w1) (N := w.heap.size) (b := w.heap.size + 1) (by omega) (.int .i64 0) (.slice none 0 0); generalize (w1.setCell ⟨w.heap.size + 1, 0, none⟩ (.int .i64 0)).setCell ⟨w.heap.size + 1, 1, none⟩ (.slice none 0 0) = w5 at *; have y0 := X5.c0; have y1 := X5.c1; try rw [Exit.noGoto_ret]
        (refine bodyPost_ret (v := .tuple #[setV 0 none 0 0, .int .i64 6]) (by simp [results, Tryz.results23, go_sem, y0, y1]) rfl ?_; exact gather_none (by decide) ⟨rfl, hB.trans hb8⟩)
      · by_cases hi2 : D ≤ i
        · clear hr
          go_wp2_with (first | (go_at_call 46; refine (ref_svalid D A n c ps _ P1).mono ?_; rintro e w1 ⟨rfl, hb1⟩; rw [HV.out]; replace hB := below_step hB hb1; have P2 := P1.step hb1; have Y1 := X1.step hb1; have Y4 := X4.step hb1; clear x0 x1; have c0 := Y1.c0; have c1 := Y1.c1; have z0 := Y4.c0; have z1 := Y4.c1; have f0 := Y4.f 0; have f1 := Y4.f 1) | (go_at_call 63; refine (coord_any v _).mono ?_; rintro e w2 ⟨rfl, rfl⟩; rw [HCO.out]))
          have X5 := Y4.put 0 none 0 0; have hb8 := below_put (w := w1) (N := w.heap.size) (b := w.heap.size + 1) (by omega) (.int .i64 0) (.slice none 0 0); generalize (w1.setCell ⟨w.heap.size + 1, 0, none⟩ (.int .i64 0)).setCell ⟨w.heap.size + 1, 1, none⟩ (.slice none 0 0) = w5 at *; have y0 := X5.c0; have y1 := X5.c1; try rw [Exit.noGoto_ret]
          (refine bodyPost_ret (v := .tuple #[setV 0 none 0 0, .int .i64 6]) (by simp [results, Tryz.results23, go_sem, y0, y1]) rfl ?_; exact gather_none (by decide) ⟨rfl, hB.trans hb8⟩)
        · obtain rfl : cb = false := by simpa [hi, hi2] using hr
          clear hr
          go_wp2_with (first | (go_at_call 46; refine (ref_svalid D A n c ps _ P1).mono ?_; rintro e w1 ⟨rfl, hb1⟩; rw [HV.out]; replace hB := below_step hB hb1; have P2 := P1.step hb1; have Y1 := X1.step hb1; have Y4 := X4.step hb1; clear x0 x1; have c0 := Y1.c0; have c1 := Y1.c1; have z0 := Y4.c0; have z1 := Y4.c1; have f0 := Y4.f 0; have f1 := Y4.f 1) | (go_at_call 63; refine (coord_any v _).mono ?_; rintro e w2 ⟨rfl, rfl⟩; rw [HCO.out]))
          have X5 := Y4.put 0 none 0 0; have hb8 := below_put (w := w1) (N := w.heap.size) (b := w.heap.size + 1) (by omega) (.int .i64 0) (.slice none 0 0); generalize (w1.setCell ⟨w.heap.size + 1, 0, none⟩ (.int .i64 0)).setCell ⟨w.heap.size + 1, 1, none⟩ (.slice none 0 0) = w5 at *; have y0 := X5.c0; have y1 := X5.c1; try rw [Exit.noGoto_ret]
          (refine bodyPost_ret (v := .tuple #[setV 0 none 0 0, .int .i64 6]) (by simp [results, Tryz.results23, go_sem, y0, y1]) rfl ?_; exact gather_none (by decide) ⟨rfl, hB.trans hb8⟩)
    · have hi0 : ¬ i < 0 := by omega
      have hi1 : ¬ D ≤ i := by omega
      obtain rfl : cb = true := by cases cb; exact absurd (.inr (.inr rfl)) hr; rfl
      have HR := Lib.hid (show fixE D ps i v = gatherD (D - 1).toNat ((ps.map PEl.dat).map fun d => d.map (chgD (fixL i.toNat v))) by unfold fixE; rw [if_neg (by rw [hv]; simp), hcb, if_neg hr])
      rw [HR.out]
      have s2 : IntKind.i64.wrap (D - 1) = D - 1 := IntWalk.i64_in _ (by omega)
      obtain ⟨i', rfl⟩ : ∃ m : Nat, i = m := ⟨i.toNat, by omega⟩
      have hn400 : n ≤ 400 := by have := P1.len; omega
      have HNL := Lib.hid P1.len
      have HPRE := Lib.hid (fun (w1 w3 : World) (P2 : PiecesAt w1 A n ps) (qs : List PEl) (hq : ∀ q ∈ qs, CondsAt w3 q.A q.n q.els) (hd : qs.map PEl.dat = ps.map fun p => p.dat.map (chgD (fixL i' v))) => fix_pre P2.conds HV.out HCO.out (by omega) hq hd)
      have HMM := Lib.hid (show ((ps.map PEl.dat).map fun d => d.map (chgD (fixL i' v))) = ps.map fun p => p.dat.map (chgD (fixL i' v)) by rw [List.map_map]; rfl)
      rw [show ((i' : Int)).toNat = i' from Int.toNat_natCast i', HMM.out]
      have hDN : (D - 1).toNat ≤ 12 := by omega
      obtain ⟨dn, hdn⟩ : ∃ dn, (D - 1).toNat = dn := ⟨_, rfl⟩
      rw [hdn] at HPRE hDN ⊢
      obtain ⟨L, hLL⟩ : ∃ L, (ps.map fun p => p.dat.map (chgD (fixL i' v))) = L := ⟨_, rfl⟩
      rw [hLL] at HPRE ⊢
      have HLL := Lib.hid hLL
      obtain ⟨gd, hgd⟩ : ∃ gd, gatherD dn L = gd := ⟨_, rfl⟩
      have HMD := Lib.hid (fun (A9 : Option Addr) (k c9 : Nat) (us : List PEl) (W : World) (P9 : PiecesAt W A9 k us) (hk : k ≤ 2000000000) (hpu : ∀ p ∈ us, (∀ e ∈ p.els, PreB dn e) ∧ p.n ≤ 1000) (hd : us.map PEl.dat = L) => hgd ▸ hd ▸ ref_mades (n := dn) hDN (D - 1) A9 k c9 us W P9 hk hpu)
      rw [hgd]
      obtain ⟨D', hD'⟩ : ∃ D', (if gd.1 ≠ 0 then (0 : Int) else D - 1) = D' := ⟨_, rfl⟩
      have HDD := Lib.hid hD'
      clear hgd hD' hLL hdn hDN
      clear hv hE hL hr hcb
      go_enter Tryz.func23, Tryz.ntmps23
      go_wp2_with (first | (go_at_call 46; refine (ref_svalid D A n c ps _ P1).mono ?_; rintro e w1 ⟨rfl, hb1⟩; rw [HV.out]; replace hB := below_step hB hb1; have P2 := P1.step hb1; have Y1 := X1.step hb1; have Y4 := X4.step hb1; clear x0 x1; have c0 := Y1.c0; have c1 := Y1.c1; have z0 := Y4.c0; have z1 := Y4.c1; have f0 := Y4.f 0; have f1 := Y4.f 1) | (go_at_call 63; refine (coord_any v _).mono ?_; rintro e w2 ⟨rfl, rfl⟩; rw [HCO.out]))
      clear c0 c1 z0 z1 f0 f1
      have HS1 := Lib.hid hB.size
      go_loopw [8, 36] (fun u k wr => ∃ (t : Nat) (vs : List PEl), t ≤ n ∧ k = .int .i64 t ∧ PL3 w1.heap.size wr u vs ∧ Hid (vs.map PEl.dat = L.take t) ∧ Below w1.heap.size w1 wr) (fun _ k _ => n - (intOf k).toNat)
      case atStart => exact ⟨0, [], Nat.zero_le _, rfl, PL3.nil _ _, Lib.hid (by simp), Below.refl _ _⟩
      case round =>
        obtain ⟨t, vs, ht, rfl, hU, HD, hbr⟩ := hrel
        obtain ⟨Au, cu, rfl⟩ := hU.slice
        by_cases hlt : t < n
        · obtain ⟨b, off, p, rfl, hblt, hpj, hmem, hcell, hCp⟩ := (P2.step hbr).at hlt
          have HPJ := Lib.hid hpj
          have HPM := Lib.hid hmem
          have HLJ := Lib.hid (show L[t]? = some (p.dat.map (chgD (fixL i' v))) by rw [← HLL.out, List.getElem?_map, hpj]; rfl)
          have HEP := Lib.hid (HE.out p hmem)
          have HCP := Lib.hid (HCC.out p hmem)
          obtain ⟨pA, pn, pc, pels⟩ := p
          simp only at hcell hCp HEP HCP
          have hq1 : (t : Int) < n := by omega
          have HPL := Lib.hid hCp.len
          have hpn : pn ≤ 96 := by have := HEP.out.1; have := HPL.out; omega
          clear hpj hmem hCp
          go_wp2
          generalize hwr : wr = wo at *
          clear hwr hcell
          go_loopw [11, 42] (fun u k wt => ∃ (j : Nat) (us : List CEl), j ≤ pn ∧ k = .int .i64 j ∧ CL2 w1.heap.size wo.heap.size wt u us ∧ Hid (us.map CEl.d = (pels.take j).map fun e => chgD (fixL i' v) e.d) ∧ Below wo.heap.size wo wt) (fun _ k _ => pn - (intOf k).toNat)
          case atStart => exact ⟨0, [], Nat.zero_le _, rfl, CL2.nil _ _ _, Lib.hid (by simp), Below.refl _ _⟩
          case round =>
            obtain ⟨j, us, hj, rfl, hQ, HUD, hbs⟩ := hrel
            obtain ⟨Aq, cq, rfl⟩ := hQ.slice
            by_cases hlt2 : j < pn
            · have hbw := hbr.trans (hbs.mono hbr.size)
              obtain ⟨b2, off2, e, hpA, hb2lt, hej, hem, hcs, hin⟩ := ((P2.conds _ HPM.out).step hbw).at hlt2
              have hpA : pA = some ⟨b2, off2, none⟩ := hpA
              subst hpA
              obtain ⟨x0, x1, x2, x3⟩ := hcs
              have HEJ := Lib.hid (show pels[j]? = some e from hej)
              obtain ⟨hvc, hen⟩ := HEP.out.2 e hem
              have hcap := HCP.out.2.2 e hem
              have hs := fix_small (i := i') (valid_lin hvc) HCO.out
              obtain ⟨eq, eM, eA, en, ec, eK, exs⟩ := e
              simp only at x0 x1 x2 x3 hin hvc hen hcap hs
              obtain ⟨be, offe, rfl, hbe, hce⟩ := hin.cells (by omega)
              have hxi := hce i' (by omega)
              have hen12 : en ≤ 12 := by omega
              have hien : i' < en := by omega
              have hq2 : (j : Int) < pn := by omega
              have b5 := below_alloc wr (.cells #[.int .i64 eq, .int .i64 eM, .slice (some ⟨be, offe, none⟩) en ec, .int .i64 eK] 56)
              have XC := CBox.new wr eq eM (some ⟨be, offe, none⟩) en ec eK
              have I5 := hin.step b5
              have Q5 := hQ.step b5
              have c2 := XC.c2
              have c3 := XC.c3
              have hcx := (b5.cell (p := ⟨be, offe + i', none⟩) hbe).trans hxi
              have hbe5 : be < (wr.alloc (.cells #[.int .i64 eq, .int .i64 eM, .slice (some ⟨be, offe, none⟩) en ec, .int .i64 eK] 56)).heap.size := by simp; omega
              clear hej hem hin hQ hxi hce hbe hlt2
              go_wp2_with (go_at_call 64; refine (own_without be offe en ec eK exs i' _ I5 hen12 hien).mono ?_; rintro x w3 ⟨A3, c3', rfl, I3, hb3, hf3⟩; have XC3 := XC.step hb3; have Q3 := Q5.step hb3; have b6 := below_alloc w3 (.cells #[.slice A3 (en - 1) c3', .int .i64 eK] 54); have XM := LBox.new w3 A3 (en - 1) c3' eK; have XC6 := XC3.step b6; have Q6 := Q3.step b6; have I6 := I3.step b6; have hcx6 := ((hb3.cell (p := ⟨be, offe + i', none⟩) hbe5).trans hcx); clear x0 x1 x2 x3 c2 c3)
              have hl3 := XC3.lt
              generalize hwm : w3.alloc (.cells #[.slice A3 (en - 1) c3', .int .i64 eK] 54) = w6 at *
              clear hwm
              have m0 := XM.c0
              have m1 := XM.c1
              have c2 := XC6.c2
              have hcx7 := (b6.cell (p := ⟨be, offe + i', none⟩) (by show be < _; have := hb3.size; omega)).trans hcx6
              have hf7 := XM.f 1
              have r1 : (i' : Int) < en := by omega
              have w1' : IntKind.i64.wrap (exs[i']?.getD 0 * v) = exs[i']?.getD 0 * v := IntWalk.i64_in _ (by omega)
              have w2' : IntKind.i64.wrap (eK + exs[i']?.getD 0 * v) = eK + exs[i']?.getD 0 * v := IntWalk.i64_in _ (by omega)
              go_region
              obtain ⟨K', hK'⟩ : ∃ K', eK + exs[i']?.getD 0 * v = K' := ⟨_, rfl⟩
              have HK' := Lib.hid hK'
              rw [hK']
              clear hK'
              have XM7 := (lbox_set1 XM K').step (Below.refl _ _).drew
              have hb67 : Below w3.heap.size w6 (w6.setCell ⟨w3.heap.size, 1, none⟩ (.int .i64 K')).drew := ((Below.refl _ w6).setCell (p := ⟨w3.heap.size, 1, none⟩) (Nat.le_refl _) _).drew
              have hb37 := b6.trans hb67
              have XC7 := XC6.below hb67 hl3
              generalize hw7 : (w6.setCell ⟨w3.heap.size, 1, none⟩ (.int .i64 K')).drew = w7 at *
              clear hw7 hb67 m0 m1 c2 hcx7 hf7 hcx hcx6
              have Q7 := Q3.step hb37
              have I7 := I3.step hb37
              have R3 : RowOk w1.heap.size w3 A3 (en - 1) := hf3.imp id fun ⟨g', hA, hg, cur, hc, hn⟩ => ⟨g', hA, Nat.le_trans (Nat.le_trans hbw.size b5.size) hg, cur, hc, hn⟩
              have R7 : RowOk w1.heap.size w7 A3 (en - 1) := RowOk.step R3 hb37
              have hbw7 := (hbs.trans (b5.mono hbs.size)).trans ((hb3.trans (hb37.mono hb3.size)).mono (by have := b5.size; have := hbs.size; omega))
              have b8 := below_alloc w7 (.cells #[.int .i64 eq, .int .i64 eM, .slice A3 (en - 1) c3', .int .i64 K'] 56)
              have C8 := conds_one (w := w7.alloc (.cells #[.int .i64 eq, .int .i64 eM, .slice A3 (en - 1) c3', .int .i64 K'] 56)) (g := w7.heap.size) (e := ⟨eq, eM, A3, en - 1, c3', K', exs.eraseIdx i'⟩) (heap_alloc_new w7 _) (I7.step b8)
              have R8 : ∀ e ∈ [(⟨eq, eM, A3, en - 1, c3', K', exs.eraseIdx i'⟩ : CEl)], RowOk w1.heap.size (w7.alloc (.cells #[.int .i64 eq, .int .i64 eM, .slice A3 (en - 1) c3', .int .i64 K'] 56)) e.A e.n := fun e he => by rw [List.mem_singleton.1 he]; exact R7.step b8
              have hul : us.length + 1 ≤ 100000 := by
                have h9 := congrArg List.length HUD.out
                rw [List.length_map, List.length_map, List.length_take] at h9
                have := HPL.out
                omega
              have hN8 : wo.heap.size ≤ (w7.alloc (.cells #[.int .i64 eq, .int .i64 eM, .slice A3 (en - 1) c3', .int .i64 K'] 56)).heap.size := Nat.le_trans hbw7.size b8.size
              have y0 := XC7.c0
              have y1 := XC7.c1
              have y2 := XM7.c0
              have y3 := XM7.c1
              go_wp2_with (at_builtin; refine wpList_append_view rfl _ _ 34 rfl rfl rfl (Q7.step b8) rfl C8 (fun h => nomatch h) (fun ad h => (by cases h; rfl)) R8 hul hN8 ?_; intro u9 w9 L9 hb9)
              have hb10 := (hbw7.trans (b8.mono hbw7.size)).trans hb9
              go_roundw
              case rel => exact ⟨j + 1, _, by omega, by go_num, L9, Lib.hid (by
                rw [List.map_append, HUD.out, List.take_add_one, HEJ.out, Option.toList_some, List.map_append]
                show _ ++ [(⟨eq, eM, exs.eraseIdx i', K'⟩ : CD)] = _ ++ [chgD (fixL i' v) ⟨eq, eM, exs, eK⟩]
                rw [← HK'.out]
                rfl), hb10⟩
              case measure => simp [intOf]; omega
            · obtain rfl : j = pn := by omega
              have hbw := hbr.trans (hbs.mono hbr.size)
              have hUs := hU.step hbs
              have HUA := Lib.hid (show us.map CEl.d = pels.map fun e => chgD (fixL i' v) e.d by rw [HUD.out, List.take_of_length_le (by rw [HPL.out]; exact Nat.le_refl _)])
              have b8 := below_alloc wr (.cells #[.slice Aq us.length cq] 34)
              have hPA := (PieceAny.of_cl3 (N := w1.heap.size) (CL3.of_cl hQ) (fun e he => .inr ((hQ.rows e he).mono (Nat.zero_le _)))).step b8
              have hPO := pieces_of_one (w := wr.alloc (.cells #[.slice Aq us.length cq] 34)) (p := ⟨Aq, us.length, cq, us⟩) (heap_alloc_new wr _) hPA.conds
              have hsz4 := (hbw.trans (b8.mono hbw.size)).size
              have hvl : vs.length + 1 ≤ 4000000000 := by
                have h9 := congrArg List.length HD.out
                rw [List.length_map, List.length_take] at h9
                have h8 := (List.getElem?_eq_some_iff.1 HLJ.out).1
                omega
              have HSN := Lib.hid (take_snoc HLJ.out)
              clear hQ hU
              go_wp2_with (at_builtin; refine wpList_append_pieces rfl _ _ 22 rfl rfl rfl (hUs.step b8) rfl hPO (fun h => nomatch h) (fun p hp => by rw [List.mem_singleton.1 hp]; exact hPA) hvl hsz4 ?_; intro u9 w9 hU9 hb9)
              have hb10 := (hbw.trans (b8.mono hbw.size)).trans hb9
              go_roundw
              case rel => exact ⟨t + 1, _, by omega, by go_num, hU9, Lib.hid (by
                rw [HSN.out, List.map_append, HD.out]
                show _ ++ [us.map CEl.d] = _ ++ [(pels.map CEl.d).map (chgD (fixL i' v))]
                rw [HUA.out, List.map_map]
                rfl), hb10⟩
              case measure => simp [intOf]; omega
        · obtain rfl : t = n := by omega
          obtain ⟨A9, c9, hu9, P9, hg9⟩ := hU.pieces
          cases hu9
          have HDU := Lib.hid (show vs.map PEl.dat = L by rw [HD.out, List.take_of_length_le (by rw [← HLL.out, List.length_map, HNL.out]; exact Nat.le_refl _)])
          have HPU := Lib.hid (HPRE.out w1 wr P2 vs (fun q hq => (hU.ok q hq).conds) HDU.out)
          have HLT := Lib.hid (show vs.length ≤ 2000000000 by
            have h9 := congrArg List.length HDU.out
            rw [List.length_map, ← HLL.out, List.length_map, HNL.out] at h9
            omega)
          have k0 := (Y1.step hbr).c0
          go_wp2_with (first | (go_at_call 47; refine (HMD.out _ vs.length _ vs _ P9 HLT.out HPU.out HDU.out).mono ?_; rintro e w3 ⟨A3, k3, c3, qs, rfl, hP3, hok3, hd3, hA3, hb3⟩; rw [HDD.out]; have hx3 := (hbr.trans (hb3.mono hbr.size) : Below w1.heap.size w1 w3); have hB3 := below_step hB hx3; have Z3 := Y4.step hx3; have r0 := Z3.c0; have r1 := Z3.c1; have f0 := Z3.f 0; have f1 := Z3.f 1; have hA3' := (fun (h0 : 0 < k3) => (let ⟨g, o, h1, h2⟩ := hA3 h0; ⟨g, o, h1, Nat.le_trans hbr.size h2⟩ : ∃ g o, A3 = some ⟨g, o, none⟩ ∧ w1.heap.size ≤ g))))
          have X4 := Z3.put D' A3 k3 c3
          have hku := Z3.keepU (.int .i64 D') (.slice A3 k3 c3)
          have hok4 := fun p hp => (hok3 p hp).keep hku
          have hz3 := Y4.lt
          have hP4 := pieces_move hP3 hok4 hku.size (fun h0 g o hA => by
            obtain ⟨g', o', h1, h2⟩ := hA3' h0
            rw [hA] at h1
            cases h1
            exact put_other (by omega) _ _)
          have hb4 := hB3.trans (below_put (w := w3) (N := w.heap.size) (b := w.heap.size + 1) (by omega) (.int .i64 D') (.slice A3 k3 c3))
          generalize (w3.setCell ⟨w.heap.size + 1, 0, none⟩ (.int .i64 D')).setCell ⟨w.heap.size + 1, 1, none⟩ (.slice A3 k3 c3) = w4 at *
          have v0 := X4.c0
          have v1 := X4.c1
          refine bodyPost_ret (v := .tuple #[setV D' A3 k3 c3, .int .i64 gd.1]) (by simp [results, Tryz.results23, go_sem, v0, v1]) rfl ?_
          exact ⟨A3, k3, c3, qs, by rw [HDD.out], hP4, hok4, hd3, (fun h => let ⟨g, o, h1, h2⟩ := hA3' h; ⟨g, o, h1, by have := HS1.out; omega⟩), hb4⟩
end Go.Proofs.YtkgnlloioaobiaaGreat
