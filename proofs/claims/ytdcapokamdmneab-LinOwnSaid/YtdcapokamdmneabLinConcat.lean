/-
  slices.Grow of nil, and slices.Concat.
-/
import Derived.Test.YtdcapokamdmneabProg
import Derived.Test.YtdcapokamdmneabLinKit
import Derived.Test.YtdcapokamdmneabLinClone
import Derived.OwnWalk
import Derived.Laws.OwnMore
import Derived.Laws.AppendOwnNone
import Derived.Lib.AppendZerosOnto
import Derived.Lib.Walk
import Derived.Lib.SliceRun
namespace Go.Proofs.Ytdcapokamdmneab
open Go.ChangeShapes Go.WideShapes Go.ChangeAt Go.RowKit
set_option linter.unusedVariables false
set_option linter.unusedSimpArgs false

theorem grow_zero (w : World) : Calls Try.prog 43 #[.slice none 0 0, .int .i64 0] w fun e w' => e = .returned (.slice none 0 0) ∧ w = w' := by
  go_enter Try.func43, Try.ntmps43
  go_wp2
  go_ret
  exact ⟨rfl, rfl⟩

set_option maxHeartbeats 2000000 in
theorem grow_some (n : Nat) (h0 : 0 < n) (hn : n ≤ 1000) (w : World) : Calls Try.prog 43 #[.slice none 0 0, .int .i64 n] w fun e w' =>
    ∃ cap, e = .returned (.slice (some ⟨w.heap.size, 0, none⟩) 0 cap) ∧ w'.ownsRow w.heap.size 3 1 (.slice (some ⟨w.heap.size, 0, none⟩) 0 cap) 0 [] ∧ Below w.heap.size w w' := by
  obtain ⟨i0, hi, hz0, hz1, hz2⟩ := info_parts infoInt
  have hg := fun ty => Lib.run_append_grow_zeros (P := Try.prog) w 22 3 ty 3 i0 (.int .i64 0) .i64 .i64 Try.underlying22 Try.underlying3 hi hz0 none 0 0 [] (run_firstCells_none _ _ _ _ _) n h0 (by omega) (by omega) (by omega) (by rw [hz2]; omega) (growslice_fits (by omega) (by rw [hz2]; omega))
  have hge := grownCap_ge w (0 + n) 0 3
  have hle := grownCap_le_maxLen w (0 + n) 0 3 (by unfold maxLen; omega)
  simp only [Nat.zero_add] at hg hge hle
  obtain ⟨G, hG⟩ : ∃ G, G = grownCap w n 0 3 := ⟨_, rfl⟩
  rw [← hG] at hg hge hle
  clear hG
  obtain ⟨cs, hcs⟩ : ∃ cs, cs = (([] : List Value).toArray ++ Builtin.zeroCells (Value.int .i64 0).cells n ++ Builtin.zeroCells (Value.int .i64 0).cells (G - n)) := ⟨_, rfl⟩
  have hsz : cs.size = G := by
    rw [hcs]
    simp [Builtin.zeroCells, Value.cells]
    omega
  rw [← hcs] at hg
  clear hcs
  have hn0 : (0 : Int) < (n : Int) := by omega
  have hG1 : (n : Int) ≤ (G : Int) := by omega
  have hfin : (w.drew.alloc (.cells cs 3)).ownsRow w.heap.size 3 1 (.slice (some ⟨w.heap.size, 0, none⟩) 0 G) 0 [] :=
    ⟨rfl, .inr ⟨w.heap.size, G, cs, rfl, Nat.le_refl _, heap_alloc_new w.drew _, by omega, hle, by omega, by simp⟩⟩
  have hB : Below w.heap.size w (w.drew.alloc (.cells cs 3)) := ((Below.refl _ w).drew).alloc (Nat.le_refl _) _
  go_enter Try.func43, Try.ntmps43
  go_wp2_with (at_builtin; refine Lib.wpList_append_run _ rfl _ _ _ _ rfl _ _ rfl rfl _ _ (hg _) ?_)
  all_goals
    go_ret
    exact ⟨G, rfl, hfin, hB⟩

/-- A part of a concatenation. -/
structure Part where
  A : Option Addr
  n : Nat
  c : Nat
  xs : List Int
def tot (P : Nat → Part) : Nat → Nat
  | 0 => 0
  | k + 1 => tot P k + (P k).n
def cat (P : Nat → Part) : Nat → List Int
  | 0 => []
  | k + 1 => cat P k ++ (P k).xs
theorem tot_mono (P : Nat → Part) {i m : Nat} (h : i ≤ m) : tot P i ≤ tot P m := by
  induction h with
  | refl => exact Nat.le_refl _
  | step _ ih => exact Nat.le_trans ih (by simp [tot])
/-- The cells of a slice of slices, and what these hold. -/
def PartsAt (w : World) (b off m : Nat) (P : Nat → Part) : Prop :=
  ∀ j, j < m → w.cell? ⟨b, off + j, none⟩ = some (.slice (P j).A (P j).n (P j).c) ∧ IntsAt w (P j).A (P j).n (P j).xs ∧ ((P j).A = none → (P j).n = 0 ∧ (P j).c = 0)
theorem cat_len {w : World} {b off m : Nat} {P : Nat → Part} (h : PartsAt w b off m P) : ∀ k, k ≤ m → (cat P k).length = tot P k
  | 0, _ => rfl
  | k + 1, hk => by
    have := (h k (by omega)).2.1.len
    simp only [cat, tot, List.length_append]
    rw [cat_len h k (by omega), this]

theorem own_base {w : World} {base : Nat} {e : TypeId} {size n k : Nat} {v : Value} {xs : List Value} (h : w.ownsRow base e size v n xs) (hk : v.ownBlock = some k) : base ≤ k := by
  obtain ⟨_, ⟨rfl, _⟩ | ⟨g, cap, cur, rfl, hb, _⟩⟩ := h
  · cases hk
  · cases hk; exact hb

theorem own_cap {w : World} {base : Nat} {e : TypeId} {size g n m cap : Nat} {xs : List Value} (h : w.ownsRow base e size (.slice (some ⟨g, 0, none⟩) m cap) n xs) : n ≤ cap ∧ cap ≤ 9223372036854775807 := by
  obtain ⟨_, ⟨h, _⟩ | ⟨g', cap', cur, h, _, _, h1, h2, _⟩⟩ := h
  · cases h
  · simp only [Value.slice.injEq] at h
    unfold maxLen at h2
    omega

set_option maxHeartbeats 4000000 in
theorem concat_in (b off m cm : Nat) (P : Nat → Part) (w : World) (hP : PartsAt w b off m P) (hb : b < w.heap.size) (hm : m ≤ 1000) (ht : tot P m ≤ 1000) :
    Calls Try.prog 31 #[.slice (some ⟨b, off, none⟩) m cm] w fun e w' =>
      ∃ v, e = .returned v ∧ ((v = .slice none 0 0 ∧ tot P m = 0) ∨ ∃ g cap, v = .slice (some ⟨g, 0, none⟩) (tot P m) cap ∧ w.heap.size ≤ g ∧ OwnRow w' g (tot P m) (cat P m) ∧ tot P m ≤ cap ∧ cap ≤ 9223372036854775807) ∧ Below w.heap.size w w' := by
  obtain ⟨i0, hi, hz0, hz1, hz2⟩ := info_parts infoInt
  go_enter Try.func31, Try.ntmps31
  go_wp2
  go_loop [3, 11] (fun u v => ∃ i : Nat, i ≤ m ∧ v = .int .i64 i ∧ u = .int .i64 (tot P i : Nat)) (fun _ v => m - (intOf v).toNat)
  case atStart => exact ⟨0, Nat.zero_le _, rfl, rfl⟩
  case round =>
    obtain ⟨i, hi', rfl, rfl⟩ := hrel
    by_cases hlt : i < m
    · obtain ⟨hcell, hI, hnil⟩ := hP i hlt
      have h1 := tot_mono P (show i + 1 ≤ m by omega)
      have HT := Lib.hid (show tot P (i + 1) = tot P i + (P i).n from rfl)
      have h2 : tot P i + (P i).n ≤ 1000 := by rw [← HT.out]; omega
      have hlt' : (i : Int) < m := by omega
      clear hI hnil h1
      go_wp2
      go_round
      case rel => exact ⟨i + 1, by omega, by go_num, by rw [HT.out]; go_num⟩
      case measure => simp [intOf]; omega
    · obtain rfl : i = m := by omega
      have hge : ¬ i < i := hlt
      by_cases h0 : tot P i = 0
      · have H0 := Lib.hid h0
        go_wp2_with (go_at_call 43; refine (grow_zero _).mono ?_; rintro e w' ⟨rfl, rfl⟩)
        go_loopw [6, 27] (fun u v wr => ∃ j : Nat, j ≤ i ∧ v = .int .i64 j ∧ wr.ownsRow w.heap.size 3 1 u (tot P j) ((cat P j).map (Value.int .i64)) ∧ Below w.heap.size w wr ∧ (tot P i = 0 → u = .slice none 0 0)) (fun _ v _ => i - (intOf v).toNat)
        case atStart => exact ⟨0, Nat.zero_le _, rfl, World.ownsRow_nil _ _ _ _, Below.refl _ _, fun _ => rfl⟩
        case round =>
          obtain ⟨j, hj, rfl, hown, hBr, hnilv⟩ := hrel
          have HNV := Lib.hid hnilv
          clear hnilv
          by_cases hlt : j < i
          · obtain ⟨hcell0, hI, hnil⟩ := hP j hlt
            have hcell := (hBr.cell (p := ⟨b, off + j, none⟩) hb).trans hcell0
            have h2 : tot P j + (P j).n ≤ 1000 := Nat.le_trans (tot_mono P (show j + 1 ≤ i by omega)) ht
            have hz : tot P i = 0 → (P j).n = 0 := fun h => by
              have h4 : tot P j + (P j).n ≤ tot P i := tot_mono P (show j + 1 ≤ i by omega)
              omega
            have HZ := Lib.hid hz
            have HS := Lib.hid (show tot P (j + 1) = tot P j + (P j).n ∧ cat P (j + 1) = cat P j ++ (P j).xs from ⟨rfl, rfl⟩)
            have hlt' : (j : Int) < i := by omega
            clear hcell0 hz
            generalize tot P j = tj at *
            generalize cat P j = cj at *
            generalize hpn : (P j).n = pn at *
            generalize (P j).c = pc at *
            generalize (P j).xs = px at *
            clear hpn
            have HI := Lib.hid hI
            cases hA : (P j).A with
            | none =>
              rw [hA] at hcell
              obtain ⟨rfl, rfl⟩ := hnil hA
              have HX := Lib.hid (show px = [] from List.eq_nil_of_length_eq_zero HI.out.len)
              clear hA hnil hI
              go_wp2_with (at_builtin; refine wpList_append_own_none rfl _ _ 22 rfl w.heap.size 3 i0 1 Try.underlying22 hi _ _ _ rfl hown rfl ?_)
              go_roundw
              case rel => exact ⟨j + 1, by omega, by go_num, (by rw [HS.out.1, HS.out.2, HX.out]; simpa using hown), hBr, HNV.out⟩
              case measure => simp [intOf]; omega
            | some ad =>
              rw [hA] at hcell
              have HC := Lib.hid (show ∀ q a, px[q]? = some a → wr.cell? (ad.add q) = some (.int .i64 a) from fun q a hq => by
                obtain ⟨hql, e⟩ := List.getElem?_eq_some_iff.1 hq
                have hpos : q < pn := by rw [← HI.out.len]; exact hql
                obtain ⟨b', off', e', hlt', hc'⟩ := HI.out.cells (by omega)
                rw [hA] at e'
                obtain rfl : ad = ⟨b', off', none⟩ := by simpa using e'
                rw [add_plain, (hBr.cell (p := ⟨b', off' + q, none⟩) hlt').trans (hc' q hpos)]
                simp [hq])
              clear hA hnil hI
              go_wp2_with (at_builtin; refine wpList_append_own _ rfl _ _ 22 rfl w.heap.size 3 i0 (.int .i64 0) 1 8 Try.underlying22 hi hz0 hz1 hz2 rfl (by decide) _ _ _ rfl hown ad pn pc (px.map (Value.int .i64)) rfl (by simpa using HI.out.len) (by intro q u hq; simp only [List.getElem?_map, Option.map_eq_some_iff] at hq; obtain ⟨a, ha, rfl⟩ := hq; exact HC.out q a ha) (by intro u hu; simp only [List.mem_map] at hu; obtain ⟨a, _, rfl⟩ := hu; rfl) (by unfold maxLen; omega) (by omega) hBr.size ?_; intro v' w2 hown' hgrow hv'; have hsz2 := hBr.size; have hB2 := hBr.grown hgrow hsz2 (fun k e => own_base hown e); have hnew := (show tot P i = 0 → v' = .slice none 0 0 from fun h => hv'.2 ⟨HNV.out h, HZ.out h⟩); have HN2 := Lib.hid hnew; clear hnew hv' hgrow)
              go_roundw
              case rel => exact ⟨j + 1, by omega, by go_num, (by rw [HS.out.1, HS.out.2, List.map_append]; exact hown'), hB2, HN2.out⟩
              case measure => simp [intOf]; omega
          · obtain rfl : j = i := by omega
            have hge : ¬ j < j := hlt
            go_wp2
            go_ret
            exact ⟨_, rfl, .inl ⟨HNV.out h0, h0⟩, hBr⟩
      · have h1 : 0 < tot P i := by omega
        go_wp2_with (go_at_call 43; refine (grow_some _ h1 ht _).mono ?_; rintro e w1 ⟨cap, rfl, hown, hB⟩)
        go_loopw [6, 27] (fun u v wr => ∃ j : Nat, j ≤ i ∧ v = .int .i64 j ∧ wr.ownsRow w.heap.size 3 1 u (tot P j) ((cat P j).map (Value.int .i64)) ∧ Below w.heap.size w wr ∧ (tot P i = 0 → u = .slice none 0 0)) (fun _ v _ => i - (intOf v).toNat)
        case atStart => exact ⟨0, Nat.zero_le _, rfl, hown, hB, fun h => absurd h (by omega)⟩
        case round =>
          obtain ⟨j, hj, rfl, hown, hBr, hnilv⟩ := hrel
          have HNV := Lib.hid hnilv
          clear hnilv
          by_cases hlt : j < i
          · obtain ⟨hcell0, hI, hnil⟩ := hP j hlt
            have hcell := (hBr.cell (p := ⟨b, off + j, none⟩) hb).trans hcell0
            have h2 : tot P j + (P j).n ≤ 1000 := Nat.le_trans (tot_mono P (show j + 1 ≤ i by omega)) ht
            have hz : tot P i = 0 → (P j).n = 0 := fun h => by
              have h4 : tot P j + (P j).n ≤ tot P i := tot_mono P (show j + 1 ≤ i by omega)
              omega
            have HZ := Lib.hid hz
            have HS := Lib.hid (show tot P (j + 1) = tot P j + (P j).n ∧ cat P (j + 1) = cat P j ++ (P j).xs from ⟨rfl, rfl⟩)
            have hlt' : (j : Int) < i := by omega
            clear hcell0 hz
            generalize tot P j = tj at *
            generalize cat P j = cj at *
            generalize hpn : (P j).n = pn at *
            generalize (P j).c = pc at *
            generalize (P j).xs = px at *
            clear hpn
            have HI := Lib.hid hI
            cases hA : (P j).A with
            | none =>
              rw [hA] at hcell
              obtain ⟨rfl, rfl⟩ := hnil hA
              have HX := Lib.hid (show px = [] from List.eq_nil_of_length_eq_zero HI.out.len)
              clear hA hnil hI
              go_wp2_with (at_builtin; refine wpList_append_own_none rfl _ _ 22 rfl w.heap.size 3 i0 1 Try.underlying22 hi _ _ _ rfl hown rfl ?_)
              go_roundw
              case rel => exact ⟨j + 1, by omega, by go_num, (by rw [HS.out.1, HS.out.2, HX.out]; simpa using hown), hBr, HNV.out⟩
              case measure => simp [intOf]; omega
            | some ad =>
              rw [hA] at hcell
              have HC := Lib.hid (show ∀ q a, px[q]? = some a → wr.cell? (ad.add q) = some (.int .i64 a) from fun q a hq => by
                obtain ⟨hql, e⟩ := List.getElem?_eq_some_iff.1 hq
                have hpos : q < pn := by rw [← HI.out.len]; exact hql
                obtain ⟨b', off', e', hlt', hc'⟩ := HI.out.cells (by omega)
                rw [hA] at e'
                obtain rfl : ad = ⟨b', off', none⟩ := by simpa using e'
                rw [add_plain, (hBr.cell (p := ⟨b', off' + q, none⟩) hlt').trans (hc' q hpos)]
                simp [hq])
              clear hA hnil hI
              go_wp2_with (at_builtin; refine wpList_append_own _ rfl _ _ 22 rfl w.heap.size 3 i0 (.int .i64 0) 1 8 Try.underlying22 hi hz0 hz1 hz2 rfl (by decide) _ _ _ rfl hown ad pn pc (px.map (Value.int .i64)) rfl (by simpa using HI.out.len) (by intro q u hq; simp only [List.getElem?_map, Option.map_eq_some_iff] at hq; obtain ⟨a, ha, rfl⟩ := hq; exact HC.out q a ha) (by intro u hu; simp only [List.mem_map] at hu; obtain ⟨a, _, rfl⟩ := hu; rfl) (by unfold maxLen; omega) (by omega) hBr.size ?_; intro v' w2 hown' hgrow hv'; have hsz2 := hBr.size; have hB2 := hBr.grown hgrow hsz2 (fun k e => own_base hown e); have hnew := (show tot P i = 0 → v' = .slice none 0 0 from fun h => hv'.2 ⟨HNV.out h, HZ.out h⟩); have HN2 := Lib.hid hnew; clear hnew hv' hgrow)
              go_roundw
              case rel => exact ⟨j + 1, by omega, by go_num, (by rw [HS.out.1, HS.out.2, List.map_append]; exact hown'), hB2, HN2.out⟩
              case measure => simp [intOf]; omega
          · obtain rfl : j = i := by omega
            have hge : ¬ j < j := hlt
            go_wp2
            go_ret
            obtain ⟨g, cap, rfl, hg, hr⟩ := ownRow_of_owns hown h1
            exact ⟨_, rfl, .inr ⟨g, cap, rfl, hg, hr, own_cap hown⟩, hBr⟩
end Go.Proofs.Ytdcapokamdmneab
