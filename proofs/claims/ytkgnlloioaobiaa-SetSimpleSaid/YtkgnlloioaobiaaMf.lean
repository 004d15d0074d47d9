/-
  Part 6 of the texts that the laws stand on, merged: what each part says stands at its own head.
-/
import Derived.Test.YtkgnlloioaobiaaProg
import Derived.OwnWalk
import Derived.Laws.OwnMore
import Derived.Laws.AppendOwnNone
import Derived.Lib.AppendZerosOnto
import Derived.Lib.Walk
import Derived.Lib.SliceRun
import Derived.Deep.RegionHeld3
import Derived.Test.YtkgnlloioaobiaaMe

/-
  Scale of the reference of package lin.
-/
namespace Go.Proofs.Ytkgnlloioaobiaa
open Go.RowKit
set_option linter.unusedVariables false
set_option linter.unusedSimpArgs false

def zB (xs : List Int) (K : Int) : Bool := sameB xs K (zeros xs.length) 0
def scL (n : Nat) (k : Int) (xs : List Int) : List Int := mixL n k xs 0 (zeros n)
def scK (k K : Int) : Int := k * K + 0 * 0
def kE (xs : List Int) (K k : Int) : Int := if validB xs K = true then (if zB xs K = true then 0 else if fitsB k = true then (if validB (scL xs.length k xs) (scK k K) = true then 0 else 3) else 3) else 1
def kX (xs : List Int) (K k : Int) : List Int := if validB xs K = true then (if zB xs K = true then zeros xs.length else if fitsB k = true then (if validB (scL xs.length k xs) (scK k K) = true then scL xs.length k xs else []) else []) else []
def kK (xs : List Int) (K k : Int) : Int := if validB xs K = true then (if zB xs K = true then 0 else if fitsB k = true then (if validB (scL xs.length k xs) (scK k K) = true then scK k K else 0) else 0) else 0
section
variable {xs : List Int} {K k : Int} {n : Nat}
theorem k_inv (h : validB xs K = false) : kE xs K k = 1 ∧ kX xs K k = [] ∧ kK xs K k = 0 := by unfold kE kX kK; rw [h]; exact ⟨rfl, rfl, rfl⟩
theorem k_zero (h : validB xs K = true) (hz : zB xs K = true) (hn : xs.length = n) : kE xs K k = 0 ∧ kX xs K k = zeros n ∧ kK xs K k = 0 := by unfold kE kX kK; rw [h, hz, hn]; exact ⟨rfl, rfl, rfl⟩
theorem k_fit (h : validB xs K = true) (hz : zB xs K = false) (hk : fitsB k = false) : kE xs K k = 3 ∧ kX xs K k = [] ∧ kK xs K k = 0 := by unfold kE kX kK; rw [h, hz, hk]; exact ⟨rfl, rfl, rfl⟩
theorem k_bad (h : validB xs K = true) (hz : zB xs K = false) (hk : fitsB k = true) (hn : xs.length = n) (hr : validB (scL n k xs) (scK k K) = false) : kE xs K k = 3 ∧ kX xs K k = [] ∧ kK xs K k = 0 := by
  unfold kE kX kK; rw [h, hz, hk, hn, hr]; exact ⟨rfl, rfl, rfl⟩
theorem k_ok (h : validB xs K = true) (hz : zB xs K = false) (hk : fitsB k = true) (hn : xs.length = n) (hr : validB (scL n k xs) (scK k K) = true) : kE xs K k = 0 ∧ kX xs K k = scL n k xs ∧ kK xs K k = scK k K := by
  unfold kE kX kK; rw [h, hz, hk, hn, hr]; exact ⟨rfl, rfl, rfl⟩
theorem zeros_tame (n : Nat) : Tame (zeros n) := fun j => by
  by_cases h : j < n <;> simp [zeros, h]
end

end Go.Proofs.Ytkgnlloioaobiaa

/-
  slices.Grow of nil, and slices.Concat.
-/
namespace Go.Proofs.Ytkgnlloioaobiaa
open Go.ChangeShapes Go.WideShapes Go.ChangeAt Go.RowKit
set_option linter.unusedVariables false
set_option maxRecDepth 100000
set_option linter.unusedSimpArgs false

theorem grow_zero (w : World) : Calls Try.prog 84 #[.slice none 0 0, .int .i64 0] w fun e w' => e = .returned (.slice none 0 0) ∧ w = w' := by
  go_enter Try.func84, Try.ntmps84
  go_wp2
  go_ret
  exact ⟨rfl, rfl⟩

set_option maxHeartbeats 2000000 in
theorem grow_some (n : Nat) (h0 : 0 < n) (hn : n ≤ 1000) (w : World) : Calls Try.prog 84 #[.slice none 0 0, .int .i64 n] w fun e w' =>
    ∃ cap, e = .returned (.slice (some ⟨w.heap.size, 0, none⟩) 0 cap) ∧ w'.ownsRow w.heap.size 3 1 (.slice (some ⟨w.heap.size, 0, none⟩) 0 cap) 0 [] ∧ Below w.heap.size w w' := by
  obtain ⟨i0, hi, hz0, hz1, hz2⟩ := info_parts infoInt
  have hg := fun ty => Lib.run_append_grow_zeros (P := Try.prog) w 33 3 ty 3 i0 (.int .i64 0) .i64 .i64 Try.underlying33 Try.underlying3 hi hz0 none 0 0 [] (run_firstCells_none _ _ _ _ _) n h0 (by omega) (by omega) (by omega) (by rw [hz2]; omega) (growslice_fits (by omega) (by rw [hz2]; omega))
  have hge := grownCap_ge w (0 + n) 0 3
  have hle := grownCap_le_maxLen w (0 + n) 0 3 (by unfold maxLen; omega)
  simp only [Nat.zero_add] at hg hge hle
  obtain ⟨G, hG⟩ : ∃ G, G = grownCap w n 0 3 := ⟨_, rfl⟩
  rw [← hG] at hg hge hle
  clear hG
  obtain ⟨cs, hcs⟩ : ∃ cs, cs = (([] : List Value).toArray ++ Builtin.zeroCells (Value.int .i64 0).cells n ++ Builtin.zeroCells (Value.int .i64 0).cells (G - n)) := ⟨_, rfl⟩
  have hsz : cs.size = G := by
    rw [hcs]
    simp [Builtin.zeroCells, Value.cells]
    omega
  rw [← hcs] at hg
  clear hcs
  have hn0 : (0 : Int) < (n : Int) := by omega
  have hG1 : (n : Int) ≤ (G : Int) := by omega
  have hfin : (w.drew.alloc (.cells cs 3)).ownsRow w.heap.size 3 1 (.slice (some ⟨w.heap.size, 0, none⟩) 0 G) 0 [] :=
    ⟨rfl, .inr ⟨w.heap.size, G, cs, rfl, Nat.le_refl _, heap_alloc_new w.drew _, by omega, hle, by omega, by simp⟩⟩
  have hB : Below w.heap.size w (w.drew.alloc (.cells cs 3)) := ((Below.refl _ w).drew).alloc (Nat.le_refl _) _
  go_enter Try.func84, Try.ntmps84
  go_wp2_with (at_builtin; refine Lib.wpList_append_run _ rfl _ _ _ _ rfl _ _ rfl rfl _ _ (hg _) ?_)
  all_goals
    go_ret
    exact ⟨G, rfl, hfin, hB⟩

/-- A part of a concatenation. -/
structure Part where
  A : Option Addr
  n : Nat
  c : Nat
  xs : List Int
def tot (P : Nat → Part) : Nat → Nat
  | 0 => 0
  | k + 1 => tot P k + (P k).n
def cat (P : Nat → Part) : Nat → List Int
  | 0 => []
  | k + 1 => cat P k ++ (P k).xs
theorem tot_mono (P : Nat → Part) {i m : Nat} (h : i ≤ m) : tot P i ≤ tot P m := by
  induction h with
  | refl => exact Nat.le_refl _
  | step _ ih => exact Nat.le_trans ih (by simp [tot])
/-- The cells of a slice of slices, and what these hold. -/
def PartsAt (w : World) (b off m : Nat) (P : Nat → Part) : Prop :=
  ∀ j, j < m → w.cell? ⟨b, off + j, none⟩ = some (.slice (P j).A (P j).n (P j).c) ∧ IntsAt w (P j).A (P j).n (P j).xs ∧ ((P j).A = none → (P j).n = 0 ∧ (P j).c = 0)
theorem cat_len {w : World} {b off m : Nat} {P : Nat → Part} (h : PartsAt w b off m P) : ∀ k, k ≤ m → (cat P k).length = tot P k
  | 0, _ => rfl
  | k + 1, hk => by
    have := (h k (by omega)).2.1.len
    simp only [cat, tot, List.length_append]
    rw [cat_len h k (by omega), this]

theorem own_base {w : World} {base : Nat} {e : TypeId} {size n k : Nat} {v : Value} {xs : List Value} (h : w.ownsRow base e size v n xs) (hk : v.ownBlock = some k) : base ≤ k := by
  obtain ⟨_, ⟨rfl, _⟩ | ⟨g, cap, cur, rfl, hb, _⟩⟩ := h
  · cases hk
  · cases hk; exact hb

theorem own_cap {w : World} {base : Nat} {e : TypeId} {size g n m cap : Nat} {xs : List Value} (h : w.ownsRow base e size (.slice (some ⟨g, 0, none⟩) m cap) n xs) : n ≤ cap ∧ cap ≤ 9223372036854775807 := by
  obtain ⟨_, ⟨h, _⟩ | ⟨g', cap', cur, h, _, _, h1, h2, _⟩⟩ := h
  · cases h
  · simp only [Value.slice.injEq] at h
    unfold maxLen at h2
    omega

set_option maxHeartbeats 4000000 in
theorem concat_in (b off m cm : Nat) (P : Nat → Part) (w : World) (hP : PartsAt w b off m P) (hb : b < w.heap.size) (hm : m ≤ 1000) (ht : tot P m ≤ 1000) :
    Calls Try.prog 60 #[.slice (some ⟨b, off, none⟩) m cm] w fun e w' =>
      ∃ v, e = .returned v ∧ ((v = .slice none 0 0 ∧ tot P m = 0) ∨ ∃ g cap, v = .slice (some ⟨g, 0, none⟩) (tot P m) cap ∧ w.heap.size ≤ g ∧ OwnRow w' g (tot P m) (cat P m) ∧ tot P m ≤ cap ∧ cap ≤ 9223372036854775807) ∧ Below w.heap.size w w' := by
  obtain ⟨i0, hi, hz0, hz1, hz2⟩ := info_parts infoInt
  go_enter Try.func60, Try.ntmps60
  go_wp2
  go_loop [3, 11] (fun u v => ∃ i : Nat, i ≤ m ∧ v = .int .i64 i ∧ u = .int .i64 (tot P i : Nat)) (fun _ v => m - (intOf v).toNat)
  case atStart => exact ⟨0, Nat.zero_le _, rfl, rfl⟩
  case round =>
    obtain ⟨i, hi', rfl, rfl⟩ := hrel
    by_cases hlt : i < m
    · obtain ⟨hcell, hI, hnil⟩ := hP i hlt
      have h1 := tot_mono P (show i + 1 ≤ m by omega)
      have HT := Lib.hid (show tot P (i + 1) = tot P i + (P i).n from rfl)
      have h2 : tot P i + (P i).n ≤ 1000 := by rw [← HT.out]; omega
      have hlt' : (i : Int) < m := by omega
      clear hI hnil h1
      go_wp2
      go_round
      case rel => exact ⟨i + 1, by omega, by go_num, by rw [HT.out]; go_num⟩
      case measure => simp [intOf]; omega
    · obtain rfl : i = m := by omega
      have hge : ¬ i < i := hlt
      by_cases h0 : tot P i = 0
      · have H0 := Lib.hid h0
        go_wp2_with (go_at_call 84; refine (grow_zero _).mono ?_; rintro e w' ⟨rfl, rfl⟩)
        go_loopw [6, 27] (fun u v wr => ∃ j : Nat, j ≤ i ∧ v = .int .i64 j ∧ wr.ownsRow w.heap.size 3 1 u (tot P j) ((cat P j).map (Value.int .i64)) ∧ Below w.heap.size w wr ∧ (tot P i = 0 → u = .slice none 0 0)) (fun _ v _ => i - (intOf v).toNat)
        case atStart => exact ⟨0, Nat.zero_le _, rfl, World.ownsRow_nil _ _ _ _, Below.refl _ _, fun _ => rfl⟩
        case round =>
          obtain ⟨j, hj, rfl, hown, hBr, hnilv⟩ := hrel
          have HNV := Lib.hid hnilv
          clear hnilv
          by_cases hlt : j < i
          · obtain ⟨hcell0, hI, hnil⟩ := hP j hlt
            have hcell := (hBr.cell (p := ⟨b, off + j, none⟩) hb).trans hcell0
            have h2 : tot P j + (P j).n ≤ 1000 := Nat.le_trans (tot_mono P (show j + 1 ≤ i by omega)) ht
            have hz : tot P i = 0 → (P j).n = 0 := fun h => by
              have h4 : tot P j + (P j).n ≤ tot P i := tot_mono P (show j + 1 ≤ i by omega)
              omega
            have HZ := Lib.hid hz
            have HS := Lib.hid (show tot P (j + 1) = tot P j + (P j).n ∧ cat P (j + 1) = cat P j ++ (P j).xs from ⟨rfl, rfl⟩)
            have hlt' : (j : Int) < i := by omega
            clear hcell0 hz
            generalize tot P j = tj at *
            generalize cat P j = cj at *
            generalize hpn : (P j).n = pn at *
            generalize (P j).c = pc at *
            generalize (P j).xs = px at *
            clear hpn
            have HI := Lib.hid hI
            cases hA : (P j).A with
            | none =>
              rw [hA] at hcell
              obtain ⟨rfl, rfl⟩ := hnil hA
              have HX := Lib.hid (show px = [] from List.eq_nil_of_length_eq_zero HI.out.len)
              clear hA hnil hI
              go_wp2_with (at_builtin; refine wpList_append_own_none rfl _ _ 33 rfl w.heap.size 3 i0 1 Try.underlying33 hi _ _ _ rfl hown rfl ?_)
              go_roundw
              case rel => exact ⟨j + 1, by omega, by go_num, (by rw [HS.out.1, HS.out.2, HX.out]; simpa using hown), hBr, HNV.out⟩
              case measure => simp [intOf]; omega
            | some ad =>
              rw [hA] at hcell
              have HC := Lib.hid (show ∀ q a, px[q]? = some a → wr.cell? (ad.add q) = some (.int .i64 a) from fun q a hq => by
                obtain ⟨hql, e⟩ := List.getElem?_eq_some_iff.1 hq
                have hpos : q < pn := by rw [← HI.out.len]; exact hql
                obtain ⟨b', off', e', hlt', hc'⟩ := HI.out.cells (by omega)
                rw [hA] at e'
                obtain rfl : ad = ⟨b', off', none⟩ := by simpa using e'
                rw [add_plain, (hBr.cell (p := ⟨b', off' + q, none⟩) hlt').trans (hc' q hpos)]
                simp [hq])
              clear hA hnil hI
              go_wp2_with (at_builtin; refine wpList_append_own _ rfl _ _ 33 rfl w.heap.size 3 i0 (.int .i64 0) 1 8 Try.underlying33 hi hz0 hz1 hz2 rfl (by decide) _ _ _ rfl hown ad pn pc (px.map (Value.int .i64)) rfl (by simpa using HI.out.len) (by intro q u hq; simp only [List.getElem?_map, Option.map_eq_some_iff] at hq; obtain ⟨a, ha, rfl⟩ := hq; exact HC.out q a ha) (by intro u hu; simp only [List.mem_map] at hu; obtain ⟨a, _, rfl⟩ := hu; rfl) (by unfold maxLen; omega) (by omega) hBr.size ?_; intro v' w2 hown' hgrow hv'; have hsz2 := hBr.size; have hB2 := hBr.grown hgrow hsz2 (fun k e => own_base hown e); have hnew := (show tot P i = 0 → v' = .slice none 0 0 from fun h => hv'.2 ⟨HNV.out h, HZ.out h⟩); have HN2 := Lib.hid hnew; clear hnew hv' hgrow)
              go_roundw
              case rel => exact ⟨j + 1, by omega, by go_num, (by rw [HS.out.1, HS.out.2, List.map_append]; exact hown'), hB2, HN2.out⟩
              case measure => simp [intOf]; omega
          · obtain rfl : j = i := by omega
            have hge : ¬ j < j := hlt
            go_wp2
            go_ret
            exact ⟨_, rfl, .inl ⟨HNV.out h0, h0⟩, hBr⟩
      · have h1 : 0 < tot P i := by omega
        go_wp2_with (go_at_call 84; refine (grow_some _ h1 ht _).mono ?_; rintro e w1 ⟨cap, rfl, hown, hB⟩)
        go_loopw [6, 27] (fun u v wr => ∃ j : Nat, j ≤ i ∧ v = .int .i64 j ∧ wr.ownsRow w.heap.size 3 1 u (tot P j) ((cat P j).map (Value.int .i64)) ∧ Below w.heap.size w wr ∧ (tot P i = 0 → u = .slice none 0 0)) (fun _ v _ => i - (intOf v).toNat)
        case atStart => exact ⟨0, Nat.zero_le _, rfl, hown, hB, fun h => absurd h (by omega)⟩
        case round =>
          obtain ⟨j, hj, rfl, hown, hBr, hnilv⟩ := hrel
          have HNV := Lib.hid hnilv
          clear hnilv
          by_cases hlt : j < i
          · obtain ⟨hcell0, hI, hnil⟩ := hP j hlt
            have hcell := (hBr.cell (p := ⟨b, off + j, none⟩) hb).trans hcell0
            have h2 : tot P j + (P j).n ≤ 1000 := Nat.le_trans (tot_mono P (show j + 1 ≤ i by omega)) ht
            have hz : tot P i = 0 → (P j).n = 0 := fun h => by
              have h4 : tot P j + (P j).n ≤ tot P i := tot_mono P (show j + 1 ≤ i by omega)
              omega
            have HZ := Lib.hid hz
            have HS := Lib.hid (show tot P (j + 1) = tot P j + (P j).n ∧ cat P (j + 1) = cat P j ++ (P j).xs from ⟨rfl, rfl⟩)
            have hlt' : (j : Int) < i := by omega
            clear hcell0 hz
            generalize tot P j = tj at *
            generalize cat P j = cj at *
            generalize hpn : (P j).n = pn at *
            generalize (P j).c = pc at *
            generalize (P j).xs = px at *
            clear hpn
            have HI := Lib.hid hI
            cases hA : (P j).A with
            | none =>
              rw [hA] at hcell
              obtain ⟨rfl, rfl⟩ := hnil hA
              have HX := Lib.hid (show px = [] from List.eq_nil_of_length_eq_zero HI.out.len)
              clear hA hnil hI
              go_wp2_with (at_builtin; refine wpList_append_own_none rfl _ _ 33 rfl w.heap.size 3 i0 1 Try.underlying33 hi _ _ _ rfl hown rfl ?_)
              go_roundw
              case rel => exact ⟨j + 1, by omega, by go_num, (by rw [HS.out.1, HS.out.2, HX.out]; simpa using hown), hBr, HNV.out⟩
              case measure => simp [intOf]; omega
            | some ad =>
              rw [hA] at hcell
              have HC := Lib.hid (show ∀ q a, px[q]? = some a → wr.cell? (ad.add q) = some (.int .i64 a) from fun q a hq => by
                obtain ⟨hql, e⟩ := List.getElem?_eq_some_iff.1 hq
                have hpos : q < pn := by rw [← HI.out.len]; exact hql
                obtain ⟨b', off', e', hlt', hc'⟩ := HI.out.cells (by omega)
                rw [hA] at e'
                obtain rfl : ad = ⟨b', off', none⟩ := by simpa using e'
                rw [add_plain, (hBr.cell (p := ⟨b', off' + q, none⟩) hlt').trans (hc' q hpos)]
                simp [hq])
              clear hA hnil hI
              go_wp2_with (at_builtin; refine wpList_append_own _ rfl _ _ 33 rfl w.heap.size 3 i0 (.int .i64 0) 1 8 Try.underlying33 hi hz0 hz1 hz2 rfl (by decide) _ _ _ rfl hown ad pn pc (px.map (Value.int .i64)) rfl (by simpa using HI.out.len) (by intro q u hq; simp only [List.getElem?_map, Option.map_eq_some_iff] at hq; obtain ⟨a, ha, rfl⟩ := hq; exact HC.out q a ha) (by intro u hu; simp only [List.mem_map] at hu; obtain ⟨a, _, rfl⟩ := hu; rfl) (by unfold maxLen; omega) (by omega) hBr.size ?_; intro v' w2 hown' hgrow hv'; have hsz2 := hBr.size; have hB2 := hBr.grown hgrow hsz2 (fun k e => own_base hown e); have hnew := (show tot P i = 0 → v' = .slice none 0 0 from fun h => hv'.2 ⟨HNV.out h, HZ.out h⟩); have HN2 := Lib.hid hnew; clear hnew hv' hgrow)
              go_roundw
              case rel => exact ⟨j + 1, by omega, by go_num, (by rw [HS.out.1, HS.out.2, List.map_append]; exact hown'), hB2, HN2.out⟩
              case measure => simp [intOf]; omega
          · obtain rfl : j = i := by omega
            have hge : ¬ j < j := hlt
            go_wp2
            go_ret
            obtain ⟨g, cap, rfl, hg, hr⟩ := ownRow_of_owns hown h1
            exact ⟨_, rfl, .inr ⟨g, cap, rfl, hg, hr, own_cap hown⟩, hBr⟩
end Go.Proofs.Ytkgnlloioaobiaa

/-
  lin.Cut.
-/
namespace Go.Proofs.Ytkgnlloioaobiaa
open Go.RowKit
set_option linter.unusedVariables false
set_option linter.unusedSimpArgs false

theorem below_step0 {w w' : World} {o : Obj} (h : Below w.heap.size (w.alloc o).drew w') : Below w.heap.size w w' := ((below_alloc w o).drew).trans h

/-- A piece of a slice of integers. -/
theorem ints_sub {w : World} {b off n d k : Nat} {xs : List Int} (hl : xs.length = n) (hs : n ≤ 17592186044416) (hw : ∀ x ∈ xs, -9223372036854775808 ≤ x ∧ x ≤ 9223372036854775807) (hb : b < w.heap.size)
    (hc : ∀ j, j < n → w.cell? ⟨b, off + j, none⟩ = some (.int .i64 (xs[j]?.getD 0))) (hdk : d + k ≤ n) : IntsAt w (some ⟨b, off + d, none⟩) k ((xs.drop d).take k) := by
  refine ⟨by simp [hl]; omega, by omega, fun x hx => hw x (List.mem_of_mem_drop (List.mem_of_mem_take hx)), fun _ => ⟨b, off + d, rfl, hb, fun j hj => ?_⟩⟩
  rw [show off + d + j = off + (d + j) by omega, hc (d + j) (by omega)]
  simp [hj, List.getElem?_take]

/-- The two parts that Cut joins. -/
def cutP (b off n c i : Nat) (xs : List Int) (j : Nat) : Part :=
  if j = 0 then ⟨some ⟨b, off, none⟩, i, c, xs.take i⟩ else ⟨(if c = i + 1 then some ⟨b, off, none⟩ else some ⟨b, off + (i + 1), none⟩), n - (i + 1), c - (i + 1), xs.drop (i + 1)⟩

theorem cut_parts {w : World} {b off n c i : Nat} {xs : List Int} (hl : xs.length = n) (hs : n ≤ 17592186044416) (hw : ∀ x ∈ xs, -9223372036854775808 ≤ x ∧ x ≤ 9223372036854775807) (hb : b < w.heap.size)
    (hc : ∀ j, j < n → w.cell? ⟨b, off + j, none⟩ = some (.int .i64 (xs[j]?.getD 0))) (hi : i < n) (hnc : n ≤ c) :
    PartsAt (w.alloc (.cells #[.slice (some ⟨b, off, none⟩) i c, .slice (if c = i + 1 then some ⟨b, off, none⟩ else some ⟨b, off + (i + 1), none⟩) (n - (i + 1)) (c - (i + 1))] 33)).drew w.heap.size 0 2 (cutP b off n c i xs) := by
  obtain ⟨o, ho⟩ : ∃ o, o = (Obj.cells #[.slice (some ⟨b, off, none⟩) i c, .slice (if c = i + 1 then some ⟨b, off, none⟩ else some ⟨b, off + (i + 1), none⟩) (n - (i + 1)) (c - (i + 1))] 33) := ⟨_, rfl⟩
  have hst : Below w.heap.size w (w.alloc o).drew := (below_alloc w o).drew
  intro j hj
  rcases (show j = 0 ∨ j = 1 by omega) with rfl | rfl
  · refine ⟨?_, ?_, fun h => by simp [cutP] at h⟩
    · rw [World.cell?_drew, World.cell?_alloc_at _ _ _ _ rfl]; rfl
    · rw [← ho]
      have h := ints_sub (d := 0) (k := i) hl hs hw hb hc (by omega)
      exact IntsAt.step (by simpa [cutP] using h) hst
  · refine ⟨?_, ?_, fun h => by
      have h' : (if c = i + 1 then some (⟨b, off, none⟩ : Addr) else some ⟨b, off + (i + 1), none⟩) = none := h
      split at h' <;> cases h'⟩
    · rw [World.cell?_drew, World.cell?_alloc_at _ _ _ _ rfl]; rfl
    · rw [← ho]
      refine IntsAt.step ?_ hst
      show IntsAt w (if c = i + 1 then some ⟨b, off, none⟩ else some ⟨b, off + (i + 1), none⟩) (n - (i + 1)) (xs.drop (i + 1))
      have h := ints_sub (d := i + 1) (k := n - (i + 1)) hl hs hw hb hc (by omega)
      have e : (xs.drop (i + 1)).take (n - (i + 1)) = xs.drop (i + 1) := List.take_of_length_le (by simp [hl])
      rw [e] at h
      by_cases h1 : c = i + 1
      · have h0 : n - (i + 1) = 0 := by omega
        rw [h0] at h ⊢
        exact ⟨h.len, h.small, h.wf, fun hn => absurd hn (by omega)⟩
      · rw [if_neg h1]; exact h

theorem cut_tot {b off n c i : Nat} {xs : List Int} (hi : i < n) : tot (cutP b off n c i xs) 2 = n - 1 := by simp [tot, cutP]; omega
theorem cut_cat {b off n c i : Nat} {xs : List Int} : cat (cutP b off n c i xs) 2 = xs.eraseIdx i := by simp [cat, cutP, List.eraseIdx_eq_take_drop_succ]

end Go.Proofs.Ytkgnlloioaobiaa

/-
  lin.Room, where the list is not nil.
-/
namespace Go.Proofs.Ytkgnlloioaobiaa
open Go.RowKit
set_option linter.unusedVariables false
set_option linter.unusedSimpArgs false

/-- As RetF, and the capacity is no less than the length. -/
def RetC (w : World) (e : Ending) (w' : World) (ys : List Int) (K err : Int) : Prop :=
  ∃ A n c, e = .returned (.tuple #[.agg #[.slice A n c, .int .i64 K], .int .i64 err]) ∧ IntsAt w' A n ys ∧ Below w.heap.size w w' ∧ (n = 0 ∨ ∃ g, A = some ⟨g, 0, none⟩ ∧ w.heap.size ≤ g ∧ OwnRow w' g n ys) ∧ n ≤ c ∧ c ≤ 9223372036854775807
theorem RetC.f {w : World} {e : Ending} {w' : World} {ys : List Int} {K err : Int} (h : RetC w e w' ys K err) : RetF w e w' ys K err := by
  obtain ⟨A, n, c, h1, h2, h3, h4, _⟩ := h
  exact ⟨A, n, c, h1, h2, h3, h4.imp id fun ⟨g, a, b, _⟩ => ⟨g, a, b⟩⟩
theorem RetC.o {w : World} {e : Ending} {w' : World} {ys : List Int} {K err : Int} (h : RetC w e w' ys K err) : RetO w e w' ys K err := by
  obtain ⟨A, n, c, h1, h2, h3, h4, _⟩ := h
  exact ⟨A, n, c, h1, h2, h3, h4⟩
theorem RetC.lin {w : World} {e : Ending} {w' : World} {ys : List Int} {K err : Int} (h : RetC w e w' ys K err) : LinRet w e w' ys K err := h.f.lin
theorem ret_c {A : Option Addr} {n c : Nat} {K err : Int} {w w' : World} {ys : List Int} {K' err' : Int} (hc : n ≤ c ∧ c ≤ 9223372036854775807) (h1 : err' = err) (h2 : K' = K) (hI : IntsAt w' A n ys) (hb : Below w.heap.size w w') (hf : n = 0 ∨ ∃ g, A = some ⟨g, 0, none⟩ ∧ w.heap.size ≤ g ∧ OwnRow w' g n ys) :
    RetC w (.returned (.tuple #[.agg #[.slice A n c, .int .i64 K], .int .i64 err])) w' ys K' err' := by
  subst h1; subst h2; exact ⟨A, n, c, rfl, hI, hb, hf, hc⟩

/-- The three parts that Room joins; g: the block of the new zeros. -/
def roomP (b off n c i k g : Nat) (xs : List Int) (j : Nat) : Part :=
  if j = 0 then ⟨some ⟨b, off, none⟩, i, c, xs.take i⟩ else if j = 1 then ⟨some ⟨g, 0, none⟩, k, k, zeros k⟩ else ⟨(if c = i then some ⟨b, off, none⟩ else some ⟨b, off + i, none⟩), n - i, c - i, xs.drop i⟩

theorem room_parts {w : World} {b off n c i k : Nat} {xs : List Int} (hl : xs.length = n) (hs : n ≤ 17592186044416) (hw : ∀ x ∈ xs, -9223372036854775808 ≤ x ∧ x ≤ 9223372036854775807) (hb : b < w.heap.size)
    (hc : ∀ j, j < n → w.cell? ⟨b, off + j, none⟩ = some (.int .i64 (xs[j]?.getD 0))) (hi : i ≤ n) (hnc : n ≤ c) (hk : k ≤ 12) :
    PartsAt ((w.alloc (.cells ((zeros k).map (Value.int .i64)).toArray 3)).alloc (.cells #[.slice (some ⟨b, off, none⟩) i c, .slice (some ⟨w.heap.size, 0, none⟩) k k, .slice (if c = i then some ⟨b, off, none⟩ else some ⟨b, off + i, none⟩) (n - i) (c - i)] 33)).drew (w.heap.size + 1) 0 3 (roomP b off n c i k w.heap.size xs) := by
  obtain ⟨o, ho⟩ : ∃ o, o = (Obj.cells #[.slice (some ⟨b, off, none⟩) i c, .slice (some ⟨w.heap.size, 0, none⟩) k k, .slice (if c = i then some ⟨b, off, none⟩ else some ⟨b, off + i, none⟩) (n - i) (c - i)] 33) := ⟨_, rfl⟩
  have h2 : Below (w.alloc (.cells ((zeros k).map (Value.int .i64)).toArray 3)).heap.size (w.alloc (.cells ((zeros k).map (Value.int .i64)).toArray 3)) ((w.alloc (.cells ((zeros k).map (Value.int .i64)).toArray 3)).alloc o).drew := (below_alloc _ o).drew
  have hst := below_step (below_alloc w (.cells ((zeros k).map (Value.int .i64)).toArray 3)) h2
  intro j hj
  rcases (show j = 0 ∨ j = 1 ∨ j = 2 by omega) with rfl | rfl | rfl
  · refine ⟨?_, ?_, fun h => by simp [roomP] at h⟩
    · rw [World.cell?_drew, World.cell?_alloc_at _ _ _ _ (by simp)]; rfl
    · rw [← ho]
      have h := ints_sub (d := 0) (k := i) hl hs hw hb hc (by omega)
      exact IntsAt.step (by simpa [roomP] using h) hst
  · refine ⟨?_, ?_, fun h => by simp [roomP] at h⟩
    · rw [World.cell?_drew, World.cell?_alloc_at _ _ _ _ (by simp)]; rfl
    · rw [← ho]
      exact IntsAt.step (new_ints w (zeros k) k (zeros_len k) (by omega) (zeros_wf k) w.heap.size rfl) h2
  · refine ⟨?_, ?_, fun h => by
      have h' : (if c = i then some (⟨b, off, none⟩ : Addr) else some ⟨b, off + i, none⟩) = none := h
      split at h' <;> cases h'⟩
    · rw [World.cell?_drew, World.cell?_alloc_at _ _ _ _ (by simp)]; rfl
    · rw [← ho]
      refine IntsAt.step ?_ hst
      show IntsAt w (if c = i then some ⟨b, off, none⟩ else some ⟨b, off + i, none⟩) (n - i) (xs.drop i)
      have h := ints_sub (d := i) (k := n - i) hl hs hw hb hc (by omega)
      have e : (xs.drop i).take (n - i) = xs.drop i := List.take_of_length_le (by simp [hl])
      rw [e] at h
      by_cases h1 : c = i
      · have h0 : n - i = 0 := by omega
        rw [h0] at h ⊢
        exact ⟨h.len, h.small, h.wf, fun hn => absurd hn (by omega)⟩
      · rw [if_neg h1]; exact h

def roomL (xs : List Int) (i k : Nat) : List Int := xs.take i ++ zeros k ++ xs.drop i
theorem room_tot {b off n c i k g : Nat} {xs : List Int} (hi : i ≤ n) : tot (roomP b off n c i k g xs) 3 = n + k := by simp [tot, roomP]; omega
theorem room_cat {b off n c i k g : Nat} {xs : List Int} : cat (roomP b off n c i k g xs) 3 = roomL xs i k := by simp [cat, roomP, roomL]
theorem room_len {n i k : Nat} {xs : List Int} (hl : xs.length = n) (hi : i ≤ n) : (roomL xs i k).length = n + k := by simp [roomL, hl, zeros_len]; omega
theorem room_wf {i k : Nat} {xs : List Int} (hw : ∀ x ∈ xs, -9223372036854775808 ≤ x ∧ x ≤ 9223372036854775807) : ∀ x ∈ roomL xs i k, -9223372036854775808 ≤ x ∧ x ≤ 9223372036854775807 := by
  intro x hx
  simp only [roomL, List.mem_append] at hx
  rcases hx with (hx | hx) | hx
  · exact hw x (List.mem_of_mem_take hx)
  · exact zeros_wf k x hx
  · exact hw x (List.mem_of_mem_drop hx)

set_option maxHeartbeats 2000000 in
theorem lin_room_ok (b off n c : Nat) (K : Int) (xs : List Int) (i k : Nat) (w : World) (hI : IntsAt w (some ⟨b, off, none⟩) n xs) (hbl : b < w.heap.size) (hcs : ∀ j, j < n → w.cell? ⟨b, off + j, none⟩ = some (.int .i64 (xs[j]?.getD 0))) (hnc : n ≤ c) (hc63 : c ≤ 9223372036854775807)
    (hv : validB xs K = true) (hi : i ≤ n) (hk : n + k ≤ 12) :
    Calls Try.prog 46 #[.agg #[.slice (some ⟨b, off, none⟩) n c, .int .i64 K], .int .i64 i, .int .i64 k] w fun e w' => RetC w e w' (roomL xs i k) K 0 := by
  have hsm := hI.small
  have hmk := make_ints k (by omega)
  have B1 := (LBox.new w (some ⟨b, off, none⟩) n c K).alloc (.cells #[.slice none 0 0, .int .i64 0] 53)
  have B2 := LBox.new (w.alloc (.cells #[.slice (some ⟨b, off, none⟩) n c, .int .i64 K] 53)) none 0 0 0
  have hB := below_step (below_alloc w (.cells #[.slice (some ⟨b, off, none⟩) n c, .int .i64 K] 53)) (below_alloc _ (.cells #[.slice none 0 0, .int .i64 0] 53))
  have h1 := hI.step hB
  rw [World.size_alloc] at B2
  have HC := Lib.hid hcs
  have hi1 : (i : Int) ≤ n := by omega
  have hi2 : (i : Int) ≤ c := by omega
  have hk1 : (k : Int) ≤ 12 - (n : Int) := by omega
  clear hcs hI
  go_enter Try.func46, Try.ntmps46
  go_wp2_with (go_at_call 68; refine (lin_valid _ _ _ _ xs _ h1).mono ?_; rintro e w1 ⟨rfl, hb⟩; replace h1 := h1.step hb; replace B1 := B1.step hb; replace B2 := B2.step hb; have c10 := B1.c0; have c11 := B1.c1; replace hB := below_step hB hb)
  have l2 := B2.lt
  have HA := Lib.hid (fun j (hj : j < n) => (hB.cell (p := ⟨b, off + j, none⟩) hbl).trans (HC.out j hj))
  have l0 : w.heap.size < w1.heap.size := by omega
  have n0 : w.heap.size + 1 ≠ w.heap.size := by omega
  have hbl1 : b < w1.heap.size := by omega
  obtain ⟨Q, hQ⟩ : ∃ Q, (if c = i then some (⟨b, off, none⟩ : Addr) else some ⟨b, off + i, none⟩) = Q := ⟨_, rfl⟩
  have ct := ((concat_in (w1.heap.size + 1) 0 3 3 (roomP b off n c i k w1.heap.size xs) _ (room_parts h1.len hsm h1.wf hbl1 HA.out hi hnc (by omega)) (by simp) (by omega) (by rw [room_tot hi]; omega)).mono
    (R' := fun e w2 => ∃ A5 c5, e = .returned (.slice A5 (n + k) c5) ∧ IntsAt w2 A5 (n + k) (roomL xs i k) ∧ Below w1.heap.size w1 w2 ∧ (n + k = 0 ∨ ∃ g, A5 = some ⟨g, 0, none⟩ ∧ w1.heap.size ≤ g ∧ OwnRow w2 g (n + k) (roomL xs i k)) ∧ n + k ≤ c5 ∧ c5 ≤ 9223372036854775807) (by
      rintro e w2 ⟨v, rfl, hv2, hb2⟩
      rw [room_tot hi, room_cat] at hv2
      have hb3 : Below w1.heap.size w1 w2 := ((below_alloc w1 (.cells ((zeros k).map (Value.int .i64)).toArray 3)).alloc (by simp) _).drew.trans (hb2.mono (show w1.heap.size ≤ ((w1.alloc _).alloc _).heap.size by simp; omega))
      rcases hv2 with ⟨rfl, h0⟩ | ⟨g, cap, rfl, hg, hr, hcap⟩
      · refine ⟨none, 0, by rw [h0], ?_, hb3, .inl h0, by omega, by omega⟩
        have h9 : (roomL xs i k).length = n + k := room_len h1.len hi
        rw [h0] at h9 ⊢
        rw [List.eq_nil_of_length_eq_zero h9]
        exact ints_nil _ _
      · refine ⟨some ⟨g, 0, none⟩, cap, rfl, hr.ints (by omega) (room_wf h1.wf), hb3, .inr ⟨g, rfl, ?_, hr⟩, hcap⟩
        have : ((w1.alloc _).alloc _).heap.size ≤ g := hg
        simp at this
        omega))
  rw [hQ] at ct
  have CT := Lib.hid ct
  clear ct
  have s6 : (n : Int) ≤ c := by omega
  go_region_held3 (fun W => W.cell? ⟨w.heap.size, 0, none⟩ = some (.slice (some ⟨b, off, none⟩) n c) ∧ W.cell? ⟨w.heap.size, 1, none⟩ = some (.int .i64 K)) (go_keep)
    (first | (go_at_call 60; refine CT.out.mono ?_; rintro e w2 ⟨A5, c5, rfl, I5, hb2', hf5, hcap⟩; have k0 := (hb2'.cell (p := ⟨w.heap.size, 0, none⟩) l0).trans c10; have k1 := (hb2'.cell (p := ⟨w.heap.size, 1, none⟩) l0).trans c11; have B4 := B2.step hb2'; have c40 := B4.c0; have c41 := B4.c1; have f40 := B4.f 0; have f41 := B4.f 1))
  have c50 := B4.s0 (.slice A5 (n + k) c5)
  have c51 := (B4.store A5 (n + k) c5 K).c1
  have hf6 : n + k = 0 ∨ ∃ g, A5 = some ⟨g, 0, none⟩ ∧ w.heap.size + 1 < g ∧ OwnRow w2 g (n + k) (roomL xs i k) := hf5.imp id (fun ⟨g, h, h', ho⟩ => ⟨g, h, by omega, ho⟩)
  have hEnd := below_step hB hb2'
  clear k0 k1 c10 c11 n0 hQ
  go_wp2
  refine bodyPost_ret (v := .tuple #[.agg #[.slice A5 (n + k) c5, .int .i64 K], .int .i64 0]) (by simp [results, Try.results46, go_sem, c50, c51]) rfl ?_
  exact ret_c hcap rfl rfl (ints_far I5 (hf6.imp id (fun ⟨g, h, h', _⟩ => ⟨g, h, by omega⟩)) _ _) (below_store2 hEnd (by omega) _ _) (hf6.imp id (fun ⟨g, h, h', ho⟩ => ⟨g, h, by omega, ho.store2 (by omega) _ _⟩))
end Go.Proofs.Ytkgnlloioaobiaa

/-
  What the values of sums, multiples, substitutions and insertions are.
-/
namespace Go.Proofs.Ytkgnlloioaobiaa
set_option linter.unusedVariables false

theorem mix_get {n : Nat} {a b : Int} {xs ys : List Int} {j : Nat} (hj : j < n) : (mixL n a xs b ys)[j]?.getD 0 = a * xs[j]?.getD 0 + b * ys[j]?.getD 0 := by
  unfold mixL; exact tab_get _ hj

theorem dot_mix {n : Nat} {a b : Int} {xs ys ps : List Int} : ∀ i, i ≤ n → dotSum (mixL n a xs b ys) ps i = a * dotSum xs ps i + b * dotSum ys ps i
  | 0, _ => by simp [dotSum]
  | i + 1, h => by
    simp only [dotSum]
    rw [dot_mix i (by omega), mix_get (show i < n by omega)]
    rw [Int.mul_add, Int.mul_add, Int.add_mul, Int.mul_assoc, Int.mul_assoc]
    omega

theorem dot_congr {xs ys ps qs : List Int} : ∀ i, (∀ j, j < i → xs[j]?.getD 0 * ps[j]?.getD 0 = ys[j]?.getD 0 * qs[j]?.getD 0) → dotSum xs ps i = dotSum ys qs i
  | 0, _ => rfl
  | i + 1, h => by
    simp only [dotSum]
    rw [dot_congr i (fun j hj => h j (by omega)), h i (by omega)]

/-- A coefficient struck out. -/
theorem dot_strike {xs ps : List Int} {j : Nat} : ∀ i, j < i → i ≤ xs.length → dotSum (xs.set j 0) ps i = dotSum xs ps i - xs[j]?.getD 0 * ps[j]?.getD 0
  | 0, h, _ => by omega
  | i + 1, h, hl => by
    simp only [dotSum]
    by_cases e : j = i
    · subst e
      have e1 : (xs.set j 0)[j]?.getD 0 = 0 := by simp [show j < xs.length by omega]
      have e2 : dotSum (xs.set j 0) ps j = dotSum xs ps j := dot_congr j fun m hm => by rw [List.getElem?_set_ne (by omega)]
      rw [e1, e2, Int.zero_mul]
      omega
    · rw [dot_strike i (by omega) (by omega), List.getElem?_set_ne e]
      omega

/-- A coordinate replaced. -/
theorem dot_point {xs ps : List Int} {j : Nat} (v : Int) : ∀ i, j < i → i ≤ ps.length → dotSum xs (ps.set j v) i = dotSum xs ps i - xs[j]?.getD 0 * ps[j]?.getD 0 + xs[j]?.getD 0 * v
  | 0, h, _ => by omega
  | i + 1, h, hl => by
    simp only [dotSum]
    by_cases e : j = i
    · subst e
      have e1 : (ps.set j v)[j]?.getD 0 = v := by simp [show j < ps.length by omega]
      have e2 : dotSum xs (ps.set j v) j = dotSum xs ps j := dot_congr j fun m hm => by rw [List.getElem?_set_ne (by omega)]
      rw [e1, e2]
      omega
    · rw [dot_point v i (by omega) (by omega), List.getElem?_set_ne e]
      omega

theorem put_mix {n i : Nat} {xs ys : List Int} (hl : xs.length = n) : mixL n 1 (xs.set i 0) (xs[i]?.getD 0) ys = putL n xs i ys := by
  apply List.map_congr_left
  intro j hj
  have hj := List.mem_range.1 hj
  rw [Int.one_mul]
  by_cases e : i = j
  · subst e
    simp [show i < xs.length by omega]
  · rw [List.getElem?_set_ne e, if_neg (fun e' => e e'.symm)]

/-- The value of what Put makes, at the point; at the point with the coordinate replaced, the value of the old expression. -/
theorem put_value {n i : Nat} {K L : Int} {xs ys ps : List Int} (hl : xs.length = n) (hp : ps.length = n) (hi : i < n) :
    (K + xs[i]?.getD 0 * L) + dotSum (putL n xs i ys) ps n = K + dotSum xs (ps.set i (L + dotSum ys ps n)) n := by
  rw [← put_mix hl, dot_mix n (Nat.le_refl _), dot_strike n hi (by omega), dot_point _ n hi (by omega), Int.mul_add]
  omega

/-- A place made: the value stays. -/
theorem dot_shift {xs ps X Y : List Int} {j : Nat} (hlow : ∀ m, m < j → X[m]?.getD 0 = xs[m]?.getD 0 ∧ Y[m]?.getD 0 = ps[m]?.getD 0) (h0 : X[j]?.getD 0 = 0) (hhigh : ∀ m, j ≤ m → X[m + 1]?.getD 0 = xs[m]?.getD 0 ∧ Y[m + 1]?.getD 0 = ps[m]?.getD 0) :
    ∀ t, dotSum X Y (j + t + 1) = dotSum xs ps (j + t)
  | 0 => by
    show dotSum X Y j + X[j]?.getD 0 * Y[j]?.getD 0 = _
    rw [h0, Int.zero_mul, Int.add_zero]
    exact dot_congr j fun m hm => by rw [(hlow m hm).1, (hlow m hm).2]
  | t + 1 => by
    show dotSum X Y (j + t + 1) + X[j + t + 1]?.getD 0 * Y[j + t + 1]?.getD 0 = dotSum xs ps (j + t) + xs[j + t]?.getD 0 * ps[j + t]?.getD 0
    rw [dot_shift hlow h0 hhigh t, (hhigh (j + t) (by omega)).1, (hhigh (j + t) (by omega)).2]

theorem ins_low {xs : List Int} {j m : Nat} {v : Int} (hj : j ≤ xs.length) (hm : m < j) : (xs.take j ++ [v] ++ xs.drop j)[m]?.getD 0 = xs[m]?.getD 0 := by
  rw [List.append_assoc, List.getElem?_append_left (by rw [List.length_take]; omega), List.getElem?_take, if_pos hm]
theorem ins_at {xs : List Int} {j : Nat} {v : Int} (hj : j ≤ xs.length) : (xs.take j ++ [v] ++ xs.drop j)[j]?.getD 0 = v := by
  have h : (xs.take j).length = j := by rw [List.length_take]; omega
  rw [List.append_assoc, List.getElem?_append_right (by omega), h]; simp
theorem ins_high {xs : List Int} {j m : Nat} {v : Int} (hj : j ≤ xs.length) (hm : j ≤ m) : (xs.take j ++ [v] ++ xs.drop j)[m + 1]?.getD 0 = xs[m]?.getD 0 := by
  have h : (xs.take j ++ [v]).length = j + 1 := by rw [List.length_append, List.length_take]; simp; omega
  rw [List.getElem?_append_right (by omega), h, List.getElem?_drop]
  congr 2
  omega

theorem room_value {n j : Nat} {xs ps : List Int} {v : Int} (hl : xs.length = n) (hp : ps.length = n) (hj : j ≤ n) :
    dotSum (roomL xs j 1) (ps.take j ++ [v] ++ ps.drop j) (n + 1) = dotSum xs ps n := by
  have hz : roomL xs j 1 = xs.take j ++ [0] ++ xs.drop j := rfl
  rw [hz]
  have := dot_shift (xs := xs) (ps := ps) (X := xs.take j ++ [0] ++ xs.drop j) (Y := ps.take j ++ [v] ++ ps.drop j) (j := j)
    (fun m hm => ⟨ins_low (by omega) hm, ins_low (by omega) hm⟩) (ins_at (by omega)) (fun m hm => ⟨ins_high (by omega) hm, ins_high (by omega) hm⟩) (n - j)
  rwa [show j + (n - j) = n by omega] at this

theorem room_back {n j : Nat} {xs : List Int} (hl : xs.length = n) (hj : j ≤ n) : (roomL xs j 1).eraseIdx j = xs := by
  have h : (xs.take j).length = j := by rw [List.length_take]; omega
  have hz : roomL xs j 1 = xs.take j ++ ([0] ++ xs.drop j) := by rw [← List.append_assoc]; rfl
  rw [hz, List.eraseIdx_append_of_length_le (by omega), h]
  simp

/-- The valid expressions are good at every point of valid coordinates. -/
theorem good_of {n : Nat} {X xs ps : List Int} {K : Int} (hv : validB X K = true) (hg : ∀ i, i < n → goodAt xs ps i) : ∀ i, i < n → goodAt X ps i := fun i hi => ⟨valid_at hv i, (hg i hi).2⟩

theorem room_valid {xs : List Int} {K : Int} {j : Nat} (hv : validB xs K = true) (h12 : xs.length + 1 ≤ 12) (hj : j ≤ xs.length) : validB (roomL xs j 1) K = true := by
  obtain ⟨h1, h2, h3⟩ := validB_true.1 hv
  refine validB_true.2 ⟨by rw [room_len rfl hj]; omega, h2, fun x hx => ?_⟩
  simp only [roomL, List.mem_append] at hx
  rcases hx with (hx | hx) | hx
  · exact h3 x (List.mem_of_mem_take hx)
  · have : x = 0 := by simpa [zeros] using hx
    subst this; decide
  · exact h3 x (List.mem_of_mem_drop hx)

theorem room_good {xs ps : List Int} {K : Int} {j n : Nat} (hv : validB (roomL xs j 1) K = true) (hl : xs.length = n) (hp : ps.length = n) (hj : j ≤ n) (hg : ∀ m, m < n → goodAt xs ps m) :
    ∀ m, m < n + 1 → goodAt (roomL xs j 1) (ps.take j ++ [7] ++ ps.drop j) m := fun m hm => by
  refine ⟨valid_at hv m, ?_⟩
  rcases Nat.lt_or_ge m j with h | h
  · rw [ins_low (by omega) h]; exact (hg m (by omega)).2
  · rcases Nat.lt_or_ge j m with h' | h'
    · obtain ⟨q, rfl⟩ : ∃ q, m = q + 1 := ⟨m - 1, by omega⟩
      rw [ins_high (by omega) (by omega)]
      exact (hg q (by omega)).2
    · obtain rfl : m = j := by omega
      rw [ins_at (by omega)]; omega

/-- The value of an expression at a point. -/
def valE (xs : List Int) (K : Int) (ps : List Int) : Int := K + dotSum xs ps xs.length
end Go.Proofs.Ytkgnlloioaobiaa

/-
  Negation as mathematics: at each point exactly one holds of a condition and what its negation answers.
-/
namespace Go.Proofs.Ytkgnlloioaobiaa
open Go.RowKit
set_option linter.unusedVariables false
set_option linter.unusedSimpArgs false

def holdD (n : Nat) (ps : List Int) (d : CD) : Bool := holdB d.q d.M (d.K + dotSum d.xs ps n)

theorem zeros_get (n j : Nat) : (zeros n)[j]?.getD 0 = 0 := by simp [zeros, List.getElem?_replicate]; split <;> rfl
theorem one_count {n : Nat} {ps : List Int} {d : CD} (h : OppOk n d) : (negOne n d).countP (holdD n ps) = [d].countP (holdD n ps) := by
  have hh := nf_holds (K := d.K) h.2.2.2 h.1 ps
  have hst := nf_state (K := d.K) h.2.2.2 h.1
  have hd : holdD n ps d = holdB d.q d.M (d.K + dotSum d.xs ps n) := rfl
  unfold negOne
  show List.countP _ (if (nf d.q d.M n d.xs d.K).2.2.2.2 = 0 then _ else if (nf d.q d.M n d.xs d.K).2.2.2.2 = 1 then _ else _) = _
  rw [List.countP_singleton, hd, hh]
  rcases hst with ⟨hs, _, _⟩ | hs | hs
  · rw [if_pos hs, if_pos hs, List.countP_singleton]
    rfl
  · have z : ¬ (nf d.q d.M n d.xs d.K).2.2.2.2 = 0 := by rw [hs]; decide
    rw [if_neg z, if_pos hs, if_neg z, hs, List.countP_singleton]
    have : holdD n ps ⟨0, 0, zeros n, 0⟩ = true := by
      show holdB 0 0 (0 + dotSum (zeros n) ps n) = true
      rw [dot_zero n fun j _ => zeros_get n j]
      rfl
    rw [this]; rfl
  · have z : ¬ (nf d.q d.M n d.xs d.K).2.2.2.2 = 0 := by rw [hs]; decide
    have z1 : ¬ (nf d.q d.M n d.xs d.K).2.2.2.2 = 1 := by rw [hs]; decide
    rw [if_neg z, if_neg z1, if_neg z, hs]
    rfl
theorem out_count {n : Nat} {ps : List Int} : ∀ ds : List CD, (∀ d ∈ ds, OppOk n d) → (negOut n ds).countP (holdD n ps) = ds.countP (holdD n ps)
  | [], _ => rfl
  | d :: ds, h => by
    have ih := out_count (ps := ps) ds fun d' hd' => h d' (List.mem_cons_of_mem _ hd')
    unfold negOut at ih ⊢
    rw [List.flatMap_cons, List.countP_append, ih, one_count (h d List.mem_cons_self)]
    simp only [List.countP_cons, List.countP_nil]
    omega

theorem count_shift (t : Int) : ∀ N : Nat, (List.range N).countP (fun (r : Nat) => decide ((r : Int) + 1 = t)) = if 1 ≤ t ∧ t ≤ N then 1 else 0
  | 0 => by rw [if_neg (by omega)]; rfl
  | N + 1 => by
    rw [List.range_succ, List.countP_append, count_shift t N, List.countP_singleton]
    by_cases h : (N : Int) + 1 = t
    · rw [if_neg (by omega), if_pos (by simpa using h), if_pos (by omega)]
    · rw [if_neg (show ¬ (decide ((N : Int) + 1 = t) = true) by simpa using h)]
      by_cases h2 : 1 ≤ t ∧ t ≤ N
      · rw [if_pos h2, if_pos (by omega)]
      · rw [if_neg h2, if_neg (by omega)]
theorem mul_dot {n : Nat} {s : Int} {xs ps : List Int} : dotSum (mulL n s xs) ps n = s * dotSum xs ps n :=
  dot_scale n fun j hj => by unfold mulL; rw [tab_get _ hj]

/-- Of a condition and the conditions of its negation exactly one holds. -/
theorem opp_count {q M : Int} {n : Nat} {xs : List Int} {K : Int} (hq : (q = 0 ∧ M = 0) ∨ (q = 1 ∧ M = 0) ∨ (q = 2 ∧ 1 ≤ M ∧ M ≤ 512)) (ps : List Int) :
    (oppL q M n xs K).countP (holdD n ps) + (if holdB q M (K + dotSum xs ps n) = true then 1 else 0) = 1 := by
  generalize hv : K + dotSum xs ps n = v
  have ev : ∀ k s : Int, s * K + k + dotSum (mulL n s xs) ps n = s * v + k := fun k s => by
    rw [mul_dot, ← hv, Int.mul_add]; omega
  unfold oppL
  rcases hq with ⟨rfl, rfl⟩ | ⟨rfl, rfl⟩ | ⟨rfl, hM⟩
  · rw [if_pos rfl, List.countP_singleton]
    have e : holdD n ps ⟨0, 0, mulL n (-1) xs, -1 * K + -1⟩ = decide (0 ≤ -1 * v + -1) := by
      show holdB 0 0 (-1 * K + -1 + dotSum (mulL n (-1) xs) ps n) = _
      rw [ev]; rfl
    have e2 : holdB 0 0 v = decide (0 ≤ v) := rfl
    rw [e, e2]
    by_cases h : 0 ≤ v
    · rw [if_neg (by simp; omega), if_pos (by simpa using h)]
    · rw [if_pos (by simp; omega), if_neg (by simpa using h)]
  · rw [if_neg (by decide), if_pos rfl, List.countP_cons, List.countP_singleton]
    have e : holdD n ps ⟨0, 0, mulL n (-1) xs, -1 * K + -1⟩ = decide (0 ≤ -1 * v + -1) := by
      show holdB 0 0 (-1 * K + -1 + dotSum (mulL n (-1) xs) ps n) = _
      rw [ev]; rfl
    have e' : holdD n ps ⟨0, 0, mulL n 1 xs, 1 * K + -1⟩ = decide (0 ≤ 1 * v + -1) := by
      show holdB 0 0 (1 * K + -1 + dotSum (mulL n 1 xs) ps n) = _
      rw [ev]; rfl
    have e2 : holdB 1 0 v = decide (v = 0) := rfl
    rw [e, e', e2]
    by_cases h0 : v = 0
    · rw [if_neg (by simp; omega), if_neg (by simp; omega), if_pos (by simpa using h0)]
    · by_cases h1 : 0 < v
      · rw [if_neg (by simp; omega), if_pos (by simp; omega), if_neg (by simpa using h0)]
      · rw [if_pos (by simp; omega), if_neg (by simp; omega), if_neg (by simpa using h0)]
  · rw [if_neg (by decide), if_neg (by decide), List.countP_map]
    have e2 : holdB 2 M v = decide (v % M = 0) := rfl
    have m0 := Int.emod_nonneg v (show M ≠ 0 by omega)
    have m1 := Int.emod_lt_of_pos v (show 0 < M by omega)
    have hcong : (List.range (M.toNat - 1)).countP (holdD n ps ∘ fun (r : Nat) => (⟨2, M, mulL n 1 xs, 1 * K + -((r : Int) + 1)⟩ : CD)) = (List.range (M.toNat - 1)).countP (fun (r : Nat) => decide ((r : Int) + 1 = v % M)) := by
      refine List.countP_congr fun r hr => ?_
      have hr := List.mem_range.1 hr
      show holdB 2 M (1 * K + -((r : Int) + 1) + dotSum (mulL n 1 xs) ps n) = true ↔ _
      rw [ev]
      show decide ((1 * v + -((r : Int) + 1)) % M = 0) = true ↔ decide ((r : Int) + 1 = v % M) = true
      rw [decide_eq_true_iff, decide_eq_true_iff]
      have e3 := Int.mul_ediv_add_emod v M
      constructor
      · intro h
        obtain ⟨y, hy⟩ := Int.dvd_of_emod_eq_zero h
        have h4 : M * (y - v / M) = v % M - ((r : Int) + 1) := by rw [Int.mul_sub]; omega
        rcases Int.lt_trichotomy (y - v / M) 0 with h5 | h5 | h5
        · have : M * (y - v / M) ≤ M * (-1) := Int.mul_le_mul_of_nonneg_left (by omega) (by omega)
          omega
        · rw [h5, Int.mul_zero] at h4; omega
        · have : M * 1 ≤ M * (y - v / M) := Int.mul_le_mul_of_nonneg_left (by omega) (by omega)
          omega
      · intro h
        rw [h, show 1 * v + -(v % M) = M * (v / M) by omega]
        exact Int.mul_emod_right _ _
    rw [hcong, count_shift, e2]
    by_cases h : v % M = 0
    · rw [if_neg (by omega), if_pos (by simpa using h)]
    · rw [if_pos (by omega), if_neg (by simpa using h)]

/-- What Negate answers is valid. -/
theorem out_valid {n : Nat} {ds : List CD} (hn : n ≤ 12) (h : ∀ d ∈ ds, OppOk n d) (hb : ds.any (negBad n) = false) : ∀ d ∈ negOut n ds, validC d.q d.M d.xs d.K = true ∧ d.xs.length = n := by
  intro d hd
  obtain ⟨d0, hd0, hd⟩ := List.mem_flatMap.1 hd
  obtain ⟨h1, h2, h3, h4⟩ := h d0 hd0
  have hbad : negBad n d0 = false := by
    rw [List.any_eq_false] at hb
    simpa using hb d0 hd0
  unfold negOne at hd
  split at hd
  · rename_i hs
    rw [List.mem_singleton.1 hd]
    have hs' : (nf d0.q d0.M n d0.xs d0.K).2.2.2.2 = 0 := hs
    have hi := (nf_idem h4 h1 hs').1
    have hvb : validB (nf d0.q d0.M n d0.xs d0.K).2.2.1 (nf d0.q d0.M n d0.xs d0.K).2.2.2.1 = true := by
      unfold negBad at hbad
      rw [show decide ((nfD n d0).2.2.2.2 = 0) = true by simpa using hs, Bool.true_and] at hbad
      simpa [nfD] using hbad
    refine ⟨?_, hi⟩
    show validC (nf d0.q d0.M n d0.xs d0.K).1 (nf d0.q d0.M n d0.xs d0.K).2.1 (nf d0.q d0.M n d0.xs d0.K).2.2.1 (nf d0.q d0.M n d0.xs d0.K).2.2.2.1 = true
    unfold validC
    rw [hvb, Bool.true_and]
    rcases nf_case (K := d0.K) h4 h1 with ⟨s, hs'', h, hh⟩ | ⟨g, _, hg, h, _, _⟩ | ⟨D, _, hD, h, _, _, _, _⟩ | ⟨h, hq, h0, hM, hne, e, _, _, _⟩
    · rw [h] at hs'; exfalso; rcases hs'' with rfl | rfl <;> cases hs'
    · rw [h]; rfl
    · rw [h]; rfl
    · rw [e]
      rcases h1 with h1 | h1 | ⟨_, h1, h2⟩
      · rw [hq] at h1; cases h1
      · rw [hq] at h1; cases h1
      · have hM' := Int.ediv_mul_cancel hM
        have m3 := Int.ediv_le_self (h : Int) (show 0 ≤ d0.M by omega)
        have hm : 1 ≤ d0.M / (h : Int) := by
          rcases Int.lt_or_le (d0.M / (h : Int)) 1 with hlt | hge
          · have m4 := Int.ediv_nonneg (show 0 ≤ d0.M by omega) (show (0 : Int) ≤ h by omega)
            have : d0.M / (h : Int) = 0 := by omega
            rw [this] at hM'; omega
          · exact hge
        simp; omega
  · split at hd
    · rw [List.mem_singleton.1 hd]
      refine ⟨?_, zeros_len n⟩
      show validC 0 0 (zeros n) 0 = true
      unfold validC
      rw [validB_true.2 ⟨by rw [zeros_len]; exact hn, by decide, fun x hx => by rw [List.eq_of_mem_replicate hx]; decide⟩]
      rfl
    · cases hd
end Go.Proofs.Ytkgnlloioaobiaa

/-
  What Piece leaves holds at the same points.
-/
namespace Go.Proofs.Ytkgnlloioaobiaa
open Go.RowKit
set_option linter.unusedVariables false
set_option linter.unusedSimpArgs false
set_option linter.unusedSectionVars false

/-- All conditions hold at the point. -/
def HoldsL (n : Nat) (x : List Int) (ds : List CD) : Prop := ∀ d ∈ ds, holdD n x d = true
def valD (n : Nat) (x : List Int) (d : CD) : Int := d.K + dotSum d.xs x n
theorem hold_ge {n : Nat} {x : List Int} {d : CD} (hq : d.q = 0) : holdD n x d = true ↔ 0 ≤ valD n x d := by
  unfold holdD holdB valD
  rw [if_pos hq]
  simp
theorem hold_eq {n : Nat} {x : List Int} {d : CD} (hq : d.q = 1) : holdD n x d = true ↔ valD n x d = 0 := by
  unfold holdD holdB valD
  rw [if_neg (by omega), if_pos hq]
  simp
theorem dot_sgn {n : Nat} {s : Int} {xs x : List Int} : dotSum (sgnL s xs) x n = s * dotSum xs x n :=
  dot_scale n fun j _ => by
    unfold sgnL
    rw [List.getElem?_map]
    cases xs[j]? <;> simp
theorem holds_app {n : Nat} {x : List Int} {l l' : List CD} : HoldsL n x (l ++ l') ↔ HoldsL n x l ∧ HoldsL n x l' := by
  unfold HoldsL
  constructor
  · exact fun h => ⟨fun d hd => h d (List.mem_append_left _ hd), fun d hd => h d (List.mem_append_right _ hd)⟩
  · rintro ⟨h, h'⟩ d hd
    rcases List.mem_append.1 hd with hd | hd
    · exact h d hd
    · exact h' d hd
theorem holds_mem {n : Nat} {x : List Int} {l l' : List CD} (h : ∀ d, d ∈ l ↔ d ∈ l') : HoldsL n x l ↔ HoldsL n x l' :=
  ⟨fun hl d hd => hl d ((h d).2 hd), fun hl d hd => hl d ((h d).1 hd)⟩

section
variable {α : Type} (R : α → α → Bool) (S : α → α → Prop)
theorem compG_cover (hrefl : ∀ a, S a a) (htr : ∀ a b c, S a b → S b c → S a c) : ∀ (l : List α) (p : α), (p :: l).Pairwise (fun a b => R b a = true → S a b) → ∀ d ∈ l, (∃ e ∈ compG R p l, S e d) ∨ S p d
  | [], _, _, d, hd => nomatch hd
  | a :: l, p, hs, d, hd => by
    have hp := List.pairwise_cons.1 hs
    have ih := compG_cover hrefl htr l a hp.2
    unfold compG
    by_cases hR : R a p = true
    · rw [if_pos hR]
      have hpa := hp.1 a (List.mem_cons_self ..) hR
      rcases List.mem_cons.1 hd with rfl | hd
      · exact .inr hpa
      · rcases ih d hd with h | h
        · exact .inl h
        · exact .inr (htr _ _ _ hpa h)
    · rw [if_neg hR]
      rcases List.mem_cons.1 hd with rfl | hd
      · exact .inl ⟨d, List.mem_cons_self .., hrefl d⟩
      · rcases ih d hd with ⟨e, he, h⟩ | h
        · exact .inl ⟨e, List.mem_cons_of_mem _ he, h⟩
        · exact .inl ⟨a, List.mem_cons_self .., h⟩
/-- Each element is covered by one that is kept. -/
theorem comp_cover (hrefl : ∀ a, S a a) (htr : ∀ a b c, S a b → S b c → S a c) {l : List α} (hs : l.Pairwise (fun a b => R b a = true → S a b)) : ∀ d ∈ l, ∃ e ∈ comp R l, S e d := by
  cases l with
  | nil => intro d hd; cases hd
  | cons a l =>
    intro d hd
    show ∃ e ∈ a :: compG R a l, S e d
    rcases List.mem_cons.1 hd with rfl | hd
    · exact ⟨d, List.mem_cons_self .., hrefl d⟩
    · rcases compG_cover R S hrefl htr l a hs d hd with ⟨e, he, h⟩ | h
      · exact ⟨e, List.mem_cons_of_mem _ he, h⟩
      · exact ⟨a, List.mem_cons_self .., h⟩
end
theorem norm_nd {n : Nat} {d e : CD} (hd : NormD n d) (he : NormD n e) (hq : d.q = e.q) (hq2 : d.q ≠ 2) (hx : d.xs = e.xs) (hk : d.K = e.K) : d = e := by
  obtain ⟨q, M, xs, K⟩ := d
  obtain ⟨q', M', xs', K'⟩ := e
  have h1 : M = 0 := hd.M hq2
  have hq : q = q' := hq
  have h2 : M' = 0 := he.M (by rw [← hq]; exact hq2)
  have hx : xs = xs' := hx
  have hk : K = K' := hk
  subst hq hx hk h1 h2
  rfl
/-- Of the Ges of one slope the one of the least constant is kept. -/
theorem ges_cover {n : Nat} {p : List CD} (hs : Sorted p) (hn : ∀ d ∈ p, NormD n d) : ∀ d ∈ kindGe p, ∃ e ∈ gesD p, e.xs = d.xs ∧ e.K ≤ d.K := by
  refine comp_cover slopeD (fun e d : CD => e.xs = d.xs ∧ e.K ≤ d.K) (fun a => ⟨rfl, Int.le_refl _⟩) (fun a b c h h' => ⟨h.1.trans h'.1, Int.le_trans h.2 h'.2⟩) ?_
  refine List.Pairwise.imp_of_mem (fun {a b} ha hb h hR => ?_) (hs.sublist (kind_ge_sub p))
  have na := hn a ((kind_ge_sub p).subset ha)
  have nb := hn b ((kind_ge_sub p).subset hb)
  have qa := kind_ge_q a ha
  have qb := kind_ge_q b hb
  have hx : b.xs = a.xs := by simpa [slopeD] using hR
  rw [ord_xs (by rw [qa, qb]) (by rw [na.M (by omega), nb.M (by omega)]) (by rw [na.len, nb.len]), hx, if_pos ((lex_zero _ _ rfl).2 rfl)] at h
  refine ⟨hx.symm, ?_⟩
  unfold cmpI at h
  split at h
  · omega
  · split at h <;> omega
/-- Cutting repetitions keeps every condition. -/
theorem equal_cover {n : Nat} {l : List CD} (hs : Sorted l) (hn : ∀ d ∈ l, NormD n d) : ∀ d ∈ l, d ∈ comp equalD l := by
  intro d hd
  obtain ⟨e, he, h⟩ := comp_cover equalD (fun e d : CD => e = d) (fun a => rfl) (fun a b c h h' => h.trans h') (l := l) (by
    refine List.Pairwise.imp_of_mem (fun {a b} ha hb _ hR => ?_) hs
    have na := hn a ha
    have nb := hn b hb
    exact (key_inj nb.q na.q ((equal_iff nb.len na.len).1 hR)).symm) d hd
  rw [← h]; exact he
theorem equal_mem {n : Nat} {l : List CD} (hs : Sorted l) (hn : ∀ d ∈ l, NormD n d) (d : CD) : d ∈ comp equalD l ↔ d ∈ l := ⟨comp_mem, equal_cover hs hn d⟩
theorem kinds_split (p : List CD) : kindEq p ++ (kindGe p ++ kindDv p) = p := by
  unfold kindEq kindGe kindDv
  rw [List.takeWhile_append_dropWhile, List.takeWhile_append_dropWhile]
theorem eqs_mem {p : List CD} (d : CD) : d ∈ eqsIn p ↔ d ∈ kindEq p ∨ d ∈ tightD (gesD p) := by
  unfold eqsIn
  split
  · rw [show sortD (kindEq p ++ tightD (gesD p)) = sortL leD (kindEq p ++ tightD (gesD p)) from rfl, (sortL_perm leD _).mem_iff, List.mem_append]
  · rename_i h
    have : tightD (gesD p) = [] := List.eq_nil_of_length_eq_zero (by omega)
    rw [this]
    simp
theorem slack_elim {l : List CD} {d : CD} {k : Int} (h : slackD l d = some k) : ∃ e ∈ l, e.xs = sgnL (-1) d.xs ∧ k = d.K + e.K := by
  unfold slackD at h
  split at h
  · cases h
  · cases hf : findD l (sgnL (-1) d.xs) with
    | none => rw [hf] at h; cases h
    | some e =>
      rw [hf] at h
      obtain ⟨ht, j, hj⟩ := find_elim hf
      exact ⟨e, List.mem_of_getElem? hj, ht, by simpa using h.symm⟩
theorem opp_val {n : Nat} {x : List Int} {d e : CD} (h : e.xs = sgnL (-1) d.xs) : valD n x d + valD n x e = d.K + e.K := by
  unfold valD
  rw [h, dot_sgn]
  omega
theorem tight_elim {l : List CD} {d : CD} (h : d ∈ tightD l) : d.q = 1 ∧ ∃ c ∈ l, slackD l c = some 0 ∧ d.xs = c.xs ∧ d.K = c.K := by
  unfold tightD at h
  obtain ⟨c, hc, h⟩ := List.mem_flatMap.1 h
  unfold tightOne at h
  cases hs : slackD l c with
  | none => rw [hs] at h; cases h
  | some k =>
    rw [hs] at h
    by_cases h0 : k = 0
    · subst h0
      simp only [if_true] at h
      rw [List.mem_singleton] at h
      subst h
      exact ⟨rfl, c, hc, hs, rfl, rfl⟩
    · simp only [if_neg h0] at h
      cases h
theorem tight_intro {l : List CD} {c : CD} (hc : c ∈ l) (h : slackD l c = some 0) : (⟨1, 0, c.xs, c.K⟩ : CD) ∈ tightD l := by
  unfold tightD
  refine List.mem_flatMap.2 ⟨c, hc, ?_⟩
  rw [tight_zero h]
  exact List.mem_singleton_self _

section
variable {n : Nat} {x : List Int} {p : List CD} (hs : Sorted p) (hn : ∀ d ∈ p, NormD n d)
include hs hn
theorem ges_hold (h : HoldsL n x p) : ∀ d ∈ gesD p, 0 ≤ valD n x d := fun d hd => by
  have hg := comp_mem hd
  exact (hold_ge (kind_ge_q d hg)).1 (h d ((kind_ge_sub p).subset hg))
theorem tight_hold (h : HoldsL n x p) : ∀ d ∈ tightD (gesD p), holdD n x d = true := fun d hd => by
  obtain ⟨hq, c, hc, hk, hx, hK⟩ := tight_elim hd
  obtain ⟨e, he, ht, h0⟩ := slack_elim hk
  have h1 := ges_hold hs hn h c hc
  have h2 := ges_hold hs hn h e he
  have h3 := opp_val (n := n) (x := x) ht
  rw [hold_eq hq]
  have : valD n x d = valD n x c := by unfold valD; rw [hx, hK]
  omega
theorem eqs_hold (h : HoldsL n x p) : ∀ d ∈ eqsD p, holdD n x d = true := fun d hd => by
  rcases (eqs_mem d).1 (comp_mem (l := eqsIn p) hd) with h1 | h1
  · exact h d ((kind_eq_sub p).subset h1)
  · exact tight_hold hs hn h d h1
theorem pair_void (h : pairVoid (gesD p) = true) : ¬ HoldsL n x p := fun hh => by
  unfold pairVoid at h
  obtain ⟨d, hd, h⟩ := List.any_eq_true.1 h
  cases hk : slackD (gesD p) d with
  | none => rw [hk] at h; cases h
  | some k =>
    rw [hk] at h
    have h0 : k < 0 := by simpa using h
    obtain ⟨e, he, ht, hke⟩ := slack_elim hk
    have h1 := ges_hold hs hn hh d hd
    have h2 := ges_hold hs hn hh e he
    have h3 := opp_val (n := n) (x := x) ht
    omega
theorem eqs_strict : (eqsD p).Pairwise (fun a b => ordL (keyD a) (keyD b) < 0) := by
  have hnorm := eqs_norm hn
  have h1 := eqs_sorted hs hn
  have : ∀ l : List CD, (∀ d ∈ l, NormD n d ∧ d.q = 1) → Sorted l → (comp equalD l).Pairwise (fun a b => ordL (keyD a) (keyD b) < 0) := fun l hl hsl => by
    have key := comp_strict (fun d : { d : CD // d.xs.length = n } => keyD d.1) (fun a b => equalD a.1 b.1) (n := n + 3) (fun a b => equal_iff a.2 b.2) (l.attachWith _ fun d hd => (hl d hd).1.len) (fun a _ => by rw [key_len, a.2]) (by
      have hsl' : l.Pairwise (fun a b => ordL (keyD a) (keyD b) ≤ 0) := hsl
      rw [List.pairwise_iff_getElem] at hsl' ⊢
      intro i j hi hj hij
      simpa using hsl' i j (by simpa using hi) (by simpa using hj) hij)
    have hm := comp_map (fun a b : { d : CD // d.xs.length = n } => equalD a.1 b.1) (fun a => a.1) equalD (fun _ _ => rfl) (l.attachWith _ fun d hd => (hl d hd).1.len)
    have hv : (l.attachWith _ fun d hd => (hl d hd).1.len).map (fun a : { d : CD // d.xs.length = n } => a.1) = l := by simp
    rw [hv] at hm
    rw [← hm, List.pairwise_map]
    exact key
  exact this _ hnorm h1
theorem clash_void (h : clashD (eqsD p) = true) : ¬ HoldsL n x p := fun hh => by
  unfold clashD at h
  obtain ⟨i, hi, h⟩ := List.any_eq_true.1 h
  rw [List.mem_range] at hi
  have h1 : i < (eqsD p).length := by omega
  have h2 : i + 1 < (eqsD p).length := by omega
  rw [List.getElem?_eq_getElem h1, List.getElem?_eq_getElem h2] at h
  have hx : (eqsD p)[i].xs = (eqsD p)[i + 1].xs := by simpa [slopeD] using h
  have na := eqs_norm hn _ (comp_mem (l := eqsIn p) (List.getElem_mem h1))
  have nb := eqs_norm hn _ (comp_mem (l := eqsIn p) (List.getElem_mem h2))
  have va := (hold_eq na.2).1 (eqs_hold hs hn hh _ (List.getElem_mem h1))
  have vb := (hold_eq nb.2).1 (eqs_hold hs hn hh _ (List.getElem_mem h2))
  have hK : (eqsD p)[i].K = (eqsD p)[i + 1].K := by
    unfold valD at va vb
    rw [hx] at va
    omega
  have e := norm_nd na.1 nb.1 (by rw [na.2, nb.2]) (by rw [na.2]; decide) hx hK
  have := List.pairwise_iff_getElem.1 (eqs_strict hs hn) i (i + 1) h1 h2 (by omega)
  rw [e, (lex_zero _ _ rfl).2 rfl] at this
  omega
theorem sign_one (xs : List Int) : signI xs * signI xs = 1 := by unfold signI; split <;> rfl
omit hs hn in
theorem imp_val {eqs : List CD} {c e : CD} (h : impD eqs c = some e) (he : valD n x e = 0) : e ∈ eqs ∧ c.K - signI c.xs * e.K = valD n x c := by
  unfold impD at h
  obtain ⟨ht, j, hj⟩ := find_elim h
  refine ⟨List.mem_of_getElem? hj, ?_⟩
  unfold valD at he ⊢
  rw [ht, dot_sgn] at he
  have h1 : signI c.xs = 1 ∨ signI c.xs = -1 := by unfold signI; split <;> simp
  rcases h1 with h1 | h1 <;> rw [h1] at he ⊢ <;> omega
theorem imp_void (h : impVoid (eqsD p) (restD (gesD p)) = true) : ¬ HoldsL n x p := fun hh => by
  unfold impVoid at h
  obtain ⟨c, hc, h⟩ := List.any_eq_true.1 h
  cases hk : impD (eqsD p) c with
  | none => rw [hk] at h; cases h
  | some e =>
    rw [hk] at h
    have h0 : c.K - signI c.xs * e.K < 0 := by simpa using h
    have hmem : e ∈ eqsD p := by
      unfold impD at hk
      obtain ⟨_, j, hj⟩ := find_elim hk
      exact List.mem_of_getElem? hj
    have ne := eqs_norm hn e (comp_mem (l := eqsIn p) hmem)
    have ve := (hold_eq ne.2).1 (eqs_hold hs hn hh e hmem)
    have := (imp_val (n := n) (x := x) hk ve).2
    have h1 := ges_hold hs hn hh c (List.mem_filter.1 hc).1
    omega
theorem settle_void (h : settleD p = none) : ¬ HoldsL n x p := by
  unfold settleD at h
  split at h
  · rename_i h1; exact pair_void hs hn h1
  · split at h
    · rename_i h1; exact clash_void hs hn h1
    · split at h
      · rename_i h1; exact imp_void hs hn h1
      · cases h
theorem dv_sorted : Sorted (kindDv p) := hs.sublist (((List.dropWhile_sublist _).trans (List.dropWhile_sublist _)))
theorem dv_norm : ∀ d ∈ kindDv p, NormD n d := fun d hd => hn d (((List.dropWhile_sublist _).trans (List.dropWhile_sublist _)).subset hd)
theorem settle_points {r : List CD} (h : settleD p = some r) : HoldsL n x p ↔ HoldsL n x r := by
  have hsl := ges_slopes hs hn
  unfold settleD at h
  split at h
  · cases h
  · split at h
    · cases h
    · split at h
      · cases h
      · rename_i hpv hcl hiv
        have hr : r = eqsD p ++ impRest (eqsD p) (restD (gesD p)) ++ comp equalD (kindDv p) := by
          simpa using h.symm
        subst hr
        have hrest : ∀ d ∈ impRest (eqsD p) (restD (gesD p)), d ∈ restD (gesD p) := fun d hd => by
          unfold impRest at hd
          split at hd
          · exact hd
          · exact (List.mem_filter.1 hd).1
        rw [holds_app, holds_app]
        constructor
        · intro hh
          refine ⟨⟨eqs_hold hs hn hh, fun d hd => ?_⟩, fun d hd => ?_⟩
          · have h1 := comp_mem (List.mem_filter.1 (hrest d hd)).1
            exact hh d ((kind_ge_sub p).subset h1)
          · exact hh d (((List.dropWhile_sublist _).trans (List.dropWhile_sublist _)).subset (comp_mem hd))
        · rintro ⟨⟨he, hg⟩, hd⟩
          have heq : ∀ d ∈ eqsIn p, holdD n x d = true := fun d hd' => he d (equal_cover (eqs_sorted hs hn) (fun d hd => (eqs_norm hn d hd).1) d hd')
          have htight : ∀ c ∈ gesD p, slackD (gesD p) c = some 0 → valD n x c = 0 := fun c hc hk => by
            have h1 := heq _ ((eqs_mem _).2 (.inr (tight_intro hc hk)))
            exact (hold_eq (d := ⟨1, 0, c.xs, c.K⟩) rfl).1 h1
          have hges : ∀ d ∈ gesD p, 0 ≤ valD n x d := fun d hdm => by
            by_cases hgo : goneD (gesD p) d = true
            · obtain ⟨j, hj, hdj⟩ := List.getElem_of_mem hdm
              obtain ⟨i, _, c, e, hc, he', hk, hie⟩ := (gone_mark hsl (by rw [List.getElem?_eq_getElem hj, hdj])).1 hgo
              have hcm := List.mem_of_getElem? hc
              have v0 := htight c hcm hk
              rw [List.getElem?_eq_getElem hj, hdj] at he'
              cases he'
              rcases hie with rfl | hx
              · rw [List.getElem?_eq_getElem hj, hdj] at hc
                cases hc
                omega
              · obtain ⟨e2, he2, ht2, h02⟩ := slack_elim hk
                obtain ⟨j2, hj2, hdj2⟩ := List.getElem_of_mem he2
                have : j = j2 := slope_one hsl (by rw [List.getElem?_eq_getElem hj, hdj]) (by rw [List.getElem?_eq_getElem hj2, hdj2]) (by rw [hx, ht2])
                subst this
                rw [hdj] at hdj2
                subst hdj2
                have := opp_val (n := n) (x := x) ht2
                omega
            · have hr : d ∈ restD (gesD p) := List.mem_filter.2 ⟨hdm, by simpa using hgo⟩
              have hq := kind_ge_q d (comp_mem hdm)
              by_cases hem : (eqsD p).isEmpty = true
              · have : d ∈ impRest (eqsD p) (restD (gesD p)) := by
                  unfold impRest
                  rw [if_pos hem]
                  exact hr
                exact (hold_ge hq).1 (hg d this)
              · cases hk : impD (eqsD p) d with
                | none =>
                  have : d ∈ impRest (eqsD p) (restD (gesD p)) := by
                    unfold impRest
                    rw [if_neg hem]
                    exact List.mem_filter.2 ⟨hr, by rw [hk]; rfl⟩
                  exact (hold_ge hq).1 (hg d this)
                | some e =>
                  have hmem : e ∈ eqsD p := by
                    unfold impD at hk
                    obtain ⟨_, j, hj⟩ := find_elim hk
                    exact List.mem_of_getElem? hj
                  have ne := eqs_norm hn e (comp_mem (l := eqsIn p) hmem)
                  have ve := (hold_eq ne.2).1 (he e hmem)
                  have h1 := (imp_val (n := n) (x := x) hk ve).2
                  have h2 : ¬ d.K - signI d.xs * e.K < 0 := fun hlt => by
                    apply hiv
                    unfold impVoid
                    refine List.any_eq_true.2 ⟨d, hr, ?_⟩
                    rw [hk]
                    simpa using hlt
                  omega
          intro d hdp
          rw [← kinds_split p] at hdp
          rcases List.mem_append.1 hdp with h1 | h1
          · exact heq d ((eqs_mem d).2 (.inl h1))
          · rcases List.mem_append.1 h1 with h1 | h1
            · obtain ⟨e, hem, hx, hK⟩ := ges_cover hs hn d h1
              rw [hold_ge (kind_ge_q d h1)]
              have := hges e hem
              have : valD n x d = valD n x e + (d.K - e.K) := by unfold valD; rw [hx]; omega
              omega
            · exact hd d (equal_cover (dv_sorted hs hn) (dv_norm hs hn) d h1)
end

/-- The conditions' normal forms. -/
theorem norm_void {n : Nat} {x : List Int} {ds : List CD} (hk : ∀ d ∈ ds, KindOk d.q d.M ∧ d.xs.length = n) (h : normVoid n ds = true) : ¬ HoldsL n x ds := fun hh => by
  unfold normVoid at h
  obtain ⟨d, hd, h⟩ := List.any_eq_true.1 h
  have hnv : (nf d.q d.M n d.xs d.K).2.2.2.2 = -1 := of_decide_eq_true (show decide ((nfD n d).2.2.2.2 = -1) = true from h)
  have := nf_holds (K := d.K) (hk d hd).2 (hk d hd).1 x
  rw [hnv] at this
  have h1 := hh d hd
  unfold holdD at h1
  rw [this] at h1
  simp at h1
theorem norm_points {n : Nat} {x : List Int} {ds : List CD} (hk : ∀ d ∈ ds, KindOk d.q d.M ∧ d.xs.length = n) (h : normVoid n ds = false) : HoldsL n x ds ↔ HoldsL n x (normOut n ds) := by
  have key : ∀ d ∈ ds, (holdD n x d = true ↔ HoldsL n x (openD n d)) := fun d hd => by
    have hh := nf_holds (K := d.K) (hk d hd).2 (hk d hd).1 x
    have hst := nf_state (K := d.K) (hk d hd).2 (hk d hd).1
    have hnn : (nf d.q d.M n d.xs d.K).2.2.2.2 ≠ -1 := fun e => by
      unfold normVoid at h
      rw [List.any_eq_false] at h
      exact h d hd (show decide ((nfD n d).2.2.2.2 = -1) = true from decide_eq_true e)
    unfold holdD at ⊢
    rw [hh]
    unfold openD nfD HoldsL
    rcases hst with ⟨h0, _⟩ | h1 | h1
    · rw [if_pos h0, if_pos h0]
      simp [holdD]
    · rw [if_neg (by omega), if_neg (by omega), h1]
      simp
    · exact absurd h1 hnn
  unfold normOut
  constructor
  · intro hh e he
    obtain ⟨d, hd, he⟩ := List.mem_flatMap.1 he
    exact (key d hd).1 (hh d hd) e he
  · intro hh d hd
    exact (key d hd).2 fun e he => hh e (List.mem_flatMap.2 ⟨d, hd, he⟩)
theorem valid_norm {n : Nat} {ds : List CD} (h : ∀ d ∈ ds, ValidD n d) : ∀ z ∈ normOut n ds, NormD n z := fun z hz => by
  obtain ⟨d, hd, hz⟩ := List.mem_flatMap.1 hz
  have hv := (h d hd).1
  obtain ⟨_, hK, hx⟩ := validB_true.1 (validC_kind hv).1
  have hK := fitsB_true.1 hK
  exact norm_one (h d hd).2 (validC_ok hv) (by omega) (fun y hy => by have := fitsB_true.1 (hx y hy); omega) z hz
theorem valid_kind {n : Nat} {ds : List CD} (h : ∀ d ∈ ds, ValidD n d) : ∀ d ∈ ds, KindOk d.q d.M ∧ d.xs.length = n := fun d hd => ⟨validC_ok (h d hd).1, (h d hd).2⟩
/-- A piece and what Piece leaves of it hold at the same points; a void one nowhere. -/
theorem piece_void {n : Nat} {x : List Int} {ds : List CD} (h : ∀ d ∈ ds, ValidD n d) (hv : (pieceD n ds).2.1 = true) : ¬ HoldsL n x ds := by
  have hk := valid_kind h
  have hN := valid_norm h
  unfold pieceD at hv
  split at hv
  · rename_i h1; exact norm_void hk h1
  · rename_i h1
    have h1 : normVoid n ds = false := by simpa using h1
    rw [norm_points hk h1]
    split at hv
    · rename_i h2
      have hm := fun d => (sortL_perm leD (normOut n ds)).mem_iff (a := d)
      rw [← holds_mem (l := sortD (normOut n ds)) (fun d => hm d)]
      exact settle_void (sorted_sort fun d hd => (hN d hd).len) (fun d hd => hN d ((hm d).1 hd)) h2
    · split at hv <;> cases hv
theorem piece_points {n : Nat} {x : List Int} {ds : List CD} (h : ∀ d ∈ ds, ValidD n d) (he : (pieceD n ds).2.2 = 0) (hv : (pieceD n ds).2.1 = false) : HoldsL n x ds ↔ HoldsL n x (pieceD n ds).1 := by
  have hk := valid_kind h
  have hN := valid_norm h
  unfold pieceD at he hv ⊢
  split at hv
  · cases hv
  · rename_i h1
    rw [if_neg h1] at he ⊢
    have h1 : normVoid n ds = false := by simpa using h1
    rw [norm_points hk h1]
    have hm := fun d => (sortL_perm leD (normOut n ds)).mem_iff (a := d)
    cases hst : settleD (sortD (normOut n ds)) with
    | none => rw [hst] at hv; cases hv
    | some r =>
      rw [hst] at he
      simp only at he ⊢
      split at he
      · cases he
      · rename_i h3
        rw [if_neg h3, ← holds_mem (l := sortD (normOut n ds)) (fun d => hm d)]
        exact settle_points (sorted_sort fun d hd => (hN d hd).len) (fun d hd => hN d ((hm d).1 hd)) hst
end Go.Proofs.Ytkgnlloioaobiaa

/-
  The points of what gathering and Minus come to.
-/
namespace Go.Proofs.Ytkgnlloioaobiaa
open Go.RowKit
set_option linter.unusedVariables false
set_option linter.unusedSimpArgs false
set_option linter.unusedSectionVars false

theorem byte_inj {a b : Int} (ha : 0 ≤ a ∧ a ≤ 255) (hb : 0 ≤ b ∧ b ≤ 255) (h : UInt8.ofNat a.toNat = UInt8.ofNat b.toNat) : a = b := by
  have := congrArg UInt8.toNat h
  simp only [UInt8.toNat_ofNat'] at this
  omega
theorem map_byte : ∀ l l' : List Int, (∀ x ∈ l, 0 ≤ x ∧ x ≤ 255) → (∀ x ∈ l', 0 ≤ x ∧ x ≤ 255) → l.map (fun x => UInt8.ofNat x.toNat) = l'.map (fun x => UInt8.ofNat x.toNat) → l = l'
  | [], [], _, _, _ => rfl
  | [], _ :: _, _, _, h => by simp at h
  | _ :: _, [], _, _, h => by simp at h
  | a :: l, b :: l', h1, h2, h => by
    simp only [List.map_cons, List.cons.injEq] at h
    rw [byte_inj (h1 a (List.mem_cons_self ..)) (h2 b (List.mem_cons_self ..)) h.1, map_byte l l' (fun x hx => h1 x (List.mem_cons_of_mem _ hx)) (fun x hx => h2 x (List.mem_cons_of_mem _ hx)) h.2]
theorem key_bytes {l : List CD} (hq : ∀ d ∈ l, d.q = 0 ∨ d.q = 1 ∨ d.q = 2) : ∀ x ∈ keyB l, 0 ≤ x ∧ x ≤ 255 := fun x hx => by
  unfold keyB at hx
  obtain ⟨d, hd, hx⟩ := List.mem_flatMap.1 hx
  unfold keyC at hx
  rcases List.mem_cons.1 hx with rfl | hx
  · rcases hq d hd with h | h | h <;> omega
  · rcases List.mem_append.1 hx with hx | hx
    · exact num_byte _ x hx
    · rcases List.mem_append.1 hx with hx | hx
      · unfold numsB at hx
        obtain ⟨y, _, hx⟩ := List.mem_flatMap.1 hx
        exact num_byte _ x hx
      · exact num_byte _ x hx
theorem valid_q {n : Nat} {d : CD} (h : ValidD n d) : d.q = 0 ∨ d.q = 1 ∨ d.q = 2 := by
  rcases (validC_kind h.1).2 with h | h | h
  · exact .inl h.1
  · exact .inr (.inl h.1)
  · exact .inr (.inr h.1)
theorem keyU_inj {n : Nat} {l l' : List CD} (h : ∀ d ∈ l, ValidD n d) (h' : ∀ d ∈ l', ValidD n d) (e : keyU l = keyU l') : l = l' :=
  key_inj2 l l' (fun d hd => (h d hd).2) (fun d hd => (h' d hd).2) (map_byte _ _ (key_bytes fun d hd => valid_q (h d hd)) (key_bytes fun d hd => valid_q (h' d hd)) e)

/-- The point is in one of the pieces. -/
def SetH (n : Nat) (x : List Int) (us : List (List CD)) : Prop := ∃ u ∈ us, HoldsL n x u
theorem setH_app {n : Nat} {x : List Int} {us : List (List CD)} {d : List CD} : SetH n x (us ++ [d]) ↔ SetH n x us ∨ HoldsL n x d := by
  unfold SetH
  constructor
  · rintro ⟨u, hu, h⟩
    rcases List.mem_append.1 hu with hu | hu
    · exact .inl ⟨u, hu, h⟩
    · rw [List.mem_singleton.1 hu] at h; exact .inr h
  · rintro (⟨u, hu, h⟩ | h)
    · exact ⟨u, List.mem_append_left _ hu, h⟩
    · exact ⟨d, List.mem_append_right _ (List.mem_singleton_self _), h⟩
section
variable {n : Nat} {x : List Int}
theorem keep_points {us us' : List (List CD)} {d : List CD} (hu : GoodU n us) (hd : ∀ z ∈ d, ValidD n z) (h : keepD us d = (0, us')) : SetH n x us' ↔ SetH n x us ∨ HoldsL n x d := by
  unfold keepD at h
  split at h
  · rename_i hq
    obtain ⟨q, hq, e⟩ := hq
    cases h
    have := keyU_inj (hu.1 q hq).1 hd e
    subst this
    exact ⟨.inl, fun h => h.elim id fun h => ⟨q, hq, h⟩⟩
  · split at h
    · cases h
    · cases h
      exact setH_app
theorem add_points {us us' : List (List CD)} {ds : List CD} (hu : GoodU n us) (hd : ∀ z ∈ ds, ValidD n z) (h : addD n us ds = (0, us')) : SetH n x us' ↔ SetH n x us ∨ HoldsL n x ds := by
  unfold addD at h
  split at h
  · rename_i hb
    simp only [Prod.mk.injEq] at h
    obtain ⟨h0, rfl⟩ := h
    have hv : (pieceD n ds).2.1 = true := hb.resolve_left fun h => h h0
    exact ⟨.inl, fun h => h.elim id fun h => absurd h (piece_void hd hv)⟩
  · rename_i hb
    have h0 : (pieceD n ds).2.2 = 0 := by
      by_cases h9 : (pieceD n ds).2.2 = 0
      · exact h9
      · exact absurd (.inl h9) hb
    have hv : (pieceD n ds).2.1 = false := by
      cases h9 : (pieceD n ds).2.1
      · rfl
      · exact absurd (.inr h9) hb
    rw [keep_points hu (piece_valid (valid_kind hd)).1 h, ← piece_points hd h0 hv]
theorem stick_zero {α : Type} (f : List (List CD) → α → Int × List (List CD)) (us : List (List CD)) (a : α) : stick f (0, us) a = f us a := if_neg (show ¬ ((0 : Int) ≠ 0) by decide)
theorem fold_cons {α : Type} {f : List (List CD) → α → Int × List (List CD)} {a : α} {l : List α} {us us' : List (List CD)} (h : foldE f (a :: l) us = (0, us')) : ∃ u1, f us a = (0, u1) ∧ foldE f l u1 = (0, us') := by
  unfold foldE at h
  rw [List.foldl_cons, stick_zero] at h
  obtain ⟨g, hf⟩ : ∃ g, f us a = g := ⟨_, rfl⟩
  obtain ⟨e, u1⟩ := g
  rw [hf] at h
  by_cases h0 : e = 0
  · subst h0
    exact ⟨u1, hf, h⟩
  · rw [stick_stuck (f := f) (show ((e, u1) : Int × List (List CD)).1 ≠ 0 from h0)] at h
    simp only [Prod.mk.injEq] at h
    exact absurd h.1 h0
theorem fold_points {α : Type} {f : List (List CD) → α → Int × List (List CD)} {Q : α → Prop} : ∀ (l : List α), (∀ a ∈ l, ∀ us us', GoodU n us → f us a = (0, us') → GoodU n us' ∧ (SetH n x us' ↔ SetH n x us ∨ Q a)) → ∀ us us', GoodU n us → foldE f l us = (0, us') → GoodU n us' ∧ (SetH n x us' ↔ SetH n x us ∨ ∃ a ∈ l, Q a)
  | [], _, us, us', hu, h => by
    cases h
    exact ⟨hu, by simp⟩
  | a :: l, hf, us, us', hu, h => by
    obtain ⟨u1, h1, h2⟩ := fold_cons h
    obtain ⟨g1, p1⟩ := hf a (List.mem_cons_self ..) us u1 hu h1
    obtain ⟨g2, p2⟩ := fold_points l (fun b hb => hf b (List.mem_cons_of_mem _ hb)) u1 us' g1 h2
    refine ⟨g2, ?_⟩
    rw [p2, p1, or_assoc]
    simp
/-- Of a condition and the conditions of its negation exactly one holds. -/
theorem neg_points {d : CD} (hv : ValidD n d) (h0 : negE d.q d.M n d.xs d.K = 0) : (∃ z ∈ negL d.q d.M n d.xs d.K, holdD n x z = true) ↔ ¬ holdD n x d = true := by
  unfold negE at h0
  rw [if_pos hv.1] at h0
  have hf : ¬ negFull n (oppL d.q d.M n d.xs d.K) = true := fun hf => by
    rw [if_pos hf] at h0
    cases h0
  unfold negL
  rw [if_pos hv.1, if_neg hf]
  have hok := (opp_ok (q := d.q) (M := d.M) (n := n) (xs := d.xs) (K := d.K) hv.1).1
  have h1 := out_count (ps := x) (oppL d.q d.M n d.xs d.K) hok
  have h2 := opp_count (n := n) (xs := d.xs) (K := d.K) (validC_kind hv.1).2 x
  rw [← List.countP_pos_iff, h1]
  show _ ↔ ¬ holdB d.q d.M (d.K + dotSum d.xs x n) = true
  by_cases hh : holdB d.q d.M (d.K + dotSum d.xs x n) = true
  · rw [if_pos hh] at h2
    exact ⟨fun h => by omega, fun h => absurd hh h⟩
  · rw [if_neg hh] at h2
    exact ⟨fun _ => hh, fun _ => by omega⟩
theorem valid_app {l l' : List CD} (h : ∀ d ∈ l, ValidD n d) (h' : ∀ d ∈ l', ValidD n d) : ∀ d ∈ l ++ l', ValidD n d := fun d hd => by
  rcases List.mem_append.1 hd with hd | hd
  · exact h d hd
  · exact h' d hd
theorem cut_points (hn : n ≤ 12) {p c : List CD} (hp : ∀ d ∈ p, ValidD n d) (hc : ∀ d ∈ c, ValidD n d) {i : Nat} {d : CD} (hi : c[i]? = some d) {us us' : List (List CD)} (hu : GoodU n us) (h : cutOne n p c us i = (0, us')) :
    GoodU n us' ∧ (SetH n x us' ↔ SetH n x us ∨ (HoldsL n x p ∧ HoldsL n x (c.take i) ∧ ¬ holdD n x d = true)) := by
  unfold cutOne at h
  rw [hi] at h
  simp only at h
  have hv := hc d (List.mem_of_getElem? hi)
  split at h
  · rename_i h0
    simp only [Prod.mk.injEq] at h
    exact absurd h.1 h0
  · rename_i h0
    have h0 : negE d.q d.M n d.xs d.K = 0 := by
      by_cases h9 : negE d.q d.M n d.xs d.K = 0
      · exact h9
      · exact absurd h9 h0
    have hz : ∀ z ∈ negL d.q d.M n d.xs d.K, ∀ y ∈ p ++ (c.take i ++ [z]), ValidD n y := fun z hz => valid_app hp (valid_app (fun y hy => hc y (List.mem_of_mem_take hy)) fun y hy => by
      rw [List.mem_singleton.1 hy]; exact neg_valid hn hv.1 hv.2 z hz)
    obtain ⟨g, e⟩ := fold_points (n := n) (x := x) (f := fun us z => addD n us (p ++ (c.take i ++ [z]))) (Q := fun z => HoldsL n x (p ++ (c.take i ++ [z]))) (negL d.q d.M n d.xs d.K) (fun z hzm us us' hu h => ⟨by
      have := add_good (ds := p ++ (c.take i ++ [z])) hu (valid_kind (hz z hzm))
      rw [show addD n us (p ++ (c.take i ++ [z])) = (0, us') from h] at this
      exact this, add_points hu (hz z hzm) h⟩) us us' hu h
    refine ⟨g, ?_⟩
    rw [e, ← neg_points (x := x) hv h0]
    refine or_congr_right ⟨?_, ?_⟩
    · rintro ⟨z, hzm, hh⟩
      rw [holds_app, holds_app] at hh
      exact ⟨hh.1, hh.2.1, z, hzm, hh.2.2 z (List.mem_singleton_self _)⟩
    · rintro ⟨h1, h2, z, hzm, hh⟩
      refine ⟨z, hzm, ?_⟩
      rw [holds_app, holds_app]
      exact ⟨h1, h2, fun y hy => by rw [List.mem_singleton.1 hy]; exact hh⟩
theorem first_fail : ∀ c : List CD, ¬ HoldsL n x c → ∃ (i : Nat) (d : CD), c[i]? = some d ∧ HoldsL n x (c.take i) ∧ ¬ holdD n x d = true
  | [], h => absurd (fun d hd => nomatch hd) h
  | a :: c, h => by
    by_cases ha : holdD n x a = true
    · obtain ⟨i, d, h1, h2, h3⟩ := first_fail c fun hc => h fun d hd => by
        rcases List.mem_cons.1 hd with rfl | hd
        · exact ha
        · exact hc d hd
      refine ⟨i + 1, d, by simpa using h1, ?_, h3⟩
      rw [List.take_succ_cons]
      intro d hd
      rcases List.mem_cons.1 hd with rfl | hd
      · exact ha
      · exact h2 d hd
    · exact ⟨0, a, rfl, (fun d hd => by simp at hd), ha⟩
theorem with_points (hn : n ≤ 12) {p c : List CD} (hp : (∀ d ∈ p, ValidD n d) ∧ p.length ≤ 96) (hc : ∀ d ∈ c, ValidD n d) {us us' : List (List CD)} (hu : GoodU n us) (h : withOne n c us p = (0, us')) :
    GoodU n us' ∧ (SetH n x us' ↔ SetH n x us ∨ (HoldsL n x p ∧ ¬ HoldsL n x c)) := by
  unfold withOne at h
  split at h
  · rename_i h0
    simp only [Prod.mk.injEq] at h
    exact absurd h.1 h0
  · split at h
    · rename_i hv
      have h1 := piece_void (x := x) (valid_app hp.1 hc) hv
      rw [holds_app] at h1
      refine ⟨by have := keep_good hu hp; rw [h] at this; exact this, ?_⟩
      rw [keep_points hu hp.1 h]
      exact or_congr_right ⟨fun a => ⟨a, fun b => h1 ⟨a, b⟩⟩, fun a => a.1⟩
    · obtain ⟨g, e⟩ := fold_points (n := n) (x := x) (f := cutOne n p c) (Q := fun i => ∃ d, c[i]? = some d ∧ HoldsL n x p ∧ HoldsL n x (c.take i) ∧ ¬ holdD n x d = true) (List.range c.length) (fun i hi us us' hu h => by
        obtain ⟨d, hd⟩ : ∃ d, c[i]? = some d := ⟨_, List.getElem?_eq_getElem (List.mem_range.1 hi)⟩
        obtain ⟨g, e⟩ := cut_points (x := x) hn hp.1 hc hd hu h
        refine ⟨g, e.trans (or_congr_right ⟨fun a => ⟨d, hd, a⟩, ?_⟩)⟩
        rintro ⟨d', hd', a⟩
        rw [hd] at hd'
        cases hd'
        exact a) us us' hu h
      refine ⟨g, e.trans (or_congr_right ⟨?_, ?_⟩)⟩
      · rintro ⟨i, _, d, hd, h1, _, h3⟩
        exact ⟨h1, fun hh => h3 (hh d (List.mem_of_getElem? hd))⟩
      · rintro ⟨h1, h2⟩
        obtain ⟨i, d, hd, h3, h4⟩ := first_fail c h2
        exact ⟨i, List.mem_range.2 (List.getElem?_eq_some_iff.1 hd).1, d, hd, h1, h3, h4⟩
theorem good_nil : GoodU n [] := ⟨(fun u h => nomatch h), by simp⟩
theorem without_points (hn : n ≤ 12) {ps : List (List CD)} {c : List CD} (hp : GoodU n ps) (hc : ∀ d ∈ c, ValidD n d) {us' : List (List CD)} (h : withoutD n ps c = (0, us')) : GoodU n us' ∧ (SetH n x us' ↔ SetH n x ps ∧ ¬ HoldsL n x c) := by
  obtain ⟨g, e⟩ := fold_points (n := n) (x := x) (f := withOne n c) (Q := fun p => HoldsL n x p ∧ ¬ HoldsL n x c) ps (fun p hpm us us' hu h => with_points hn (hp.1 p hpm) hc hu h) [] us' good_nil h
  refine ⟨g, e.trans ⟨?_, ?_⟩⟩
  · rintro (⟨u, hu, _⟩ | ⟨p, hpm, h1, h2⟩)
    · cases hu
    · exact ⟨⟨p, hpm, h1⟩, h2⟩
  · rintro ⟨⟨p, hpm, h1⟩, h2⟩
    exact .inr ⟨p, hpm, h1, h2⟩
theorem minus_fold (hn : n ≤ 12) : ∀ (qs : List (List CD)), (∀ q ∈ qs, ∀ d ∈ q, ValidD n d) → ∀ ps us', GoodU n ps → foldE (withoutD n) qs ps = (0, us') → GoodU n us' ∧ (SetH n x us' ↔ SetH n x ps ∧ ¬ SetH n x qs)
  | [], _, ps, us', hp, h => by
    cases h
    exact ⟨hp, by simp [SetH]⟩
  | q :: qs, hq, ps, us', hp, h => by
    obtain ⟨u1, h1, h2⟩ := fold_cons h
    obtain ⟨g1, e1⟩ := without_points (x := x) hn hp (hq q (List.mem_cons_self ..)) h1
    obtain ⟨g2, e2⟩ := minus_fold hn qs (fun q hqm => hq q (List.mem_cons_of_mem _ hqm)) u1 us' g1 h2
    refine ⟨g2, ?_⟩
    rw [e2, e1, and_assoc]
    refine and_congr_right fun _ => ⟨?_, ?_⟩
    · rintro ⟨a, b⟩ ⟨u, hu, hh⟩
      rcases List.mem_cons.1 hu with rfl | hu
      · exact a hh
      · exact b ⟨u, hu, hh⟩
    · intro a
      exact ⟨fun hh => a ⟨q, List.mem_cons_self .., hh⟩, fun ⟨u, hu, hh⟩ => a ⟨u, List.mem_cons_of_mem _ hu, hh⟩⟩
/-- A point is in what gathering leaves if and only if it is in one of the pieces. -/
theorem gather_points {l us' : List (List CD)} (hl : ∀ ds ∈ l, ∀ d ∈ ds, ValidD n d) (h : gatherD n l = (0, us')) : GoodU n us' ∧ (SetH n x us' ↔ SetH n x l) := by
  rw [gather_fold] at h
  obtain ⟨g, e⟩ := fold_points (n := n) (x := x) (f := addD n) (Q := fun ds => HoldsL n x ds) l (fun ds hds us us' hu h => ⟨by
    have := add_good hu (valid_kind (hl ds hds))
    rw [h] at this
    exact this, add_points hu (hl ds hds) h⟩) [] us' good_nil h
  refine ⟨g, e.trans ⟨?_, fun h => .inr h⟩⟩
  rintro (⟨u, hu, _⟩ | h)
  · cases hu
  · exact h
/-- A point is in a difference if and only if it is in the first set and not in the second. -/
theorem minus_points (hn : n ≤ 12) {ps qs r : List (List CD)} (hp : ∀ ds ∈ ps, ∀ d ∈ ds, ValidD n d) (hq : ∀ ds ∈ qs, ∀ d ∈ ds, ValidD n d) (h : minusD n ps qs = (0, r)) : GoodU n r ∧ (SetH n x r ↔ SetH n x ps ∧ ¬ SetH n x qs) := by
  obtain ⟨g1, h1⟩ : ∃ g, gatherD n ps = g := ⟨_, rfl⟩
  obtain ⟨g2, h2⟩ : ∃ g, gatherD n qs = g := ⟨_, rfl⟩
  obtain ⟨e1, l1⟩ := g1
  obtain ⟨e2, l2⟩ := g2
  unfold minusD at h
  rw [h1, h2] at h
  split at h
  · rename_i h0
    simp only [Prod.mk.injEq] at h
    exact absurd h.1 h0
  · rename_i h0
    split at h
    · rename_i h9
      simp only [Prod.mk.injEq] at h
      exact absurd h.1 h9
    · rename_i h9
      obtain rfl : e1 = 0 := by
        by_cases h8 : e1 = 0
        · exact h8
        · exact absurd h8 h0
      obtain rfl : e2 = 0 := by
        by_cases h8 : e2 = 0
        · exact h8
        · exact absurd h8 h9
      obtain ⟨ga, ea⟩ := gather_points (x := x) hp h1
      obtain ⟨gb, eb⟩ := gather_points (x := x) hq h2
      obtain ⟨g, e⟩ := minus_fold (x := x) hn l2 (fun q hqm => (gb.1 q hqm).1) l1 r ga h
      exact ⟨g, by rw [e, ea, eb]⟩
end
end Go.Proofs.Ytkgnlloioaobiaa

/-
  A point of a set, by the conditions' data.
-/
namespace Go.Proofs.Ytkgnlloioaobiaa
open Go.RowKit
set_option linter.unusedVariables false
set_option linter.unusedSimpArgs false

theorem hasP_holds {nn : Nat} {xs : List Int} {els : List CEl} (hc : condsE nn els = 0) (hl : xs.length = nn) (hp : pointB xs = true) (hlen : ∀ e ∈ els, e.xs.length = e.n) : hasP xs els = true ↔ HoldsL nn xs (els.map CEl.d) := by
  unfold hasP HoldsL
  rw [List.all_eq_true]
  have key : ∀ e ∈ els, hVal e.q e.M e.xs e.K xs = holdD nn xs e.d := fun e he => by
    obtain ⟨h1, h2⟩ := conds_elim hc e he
    have hx : e.xs.length = nn := by have := hlen e he; omega
    obtain ⟨hh, _⟩ := has_cond (show validC e.q e.M e.xs e.K = true from h1) (show e.xs.length = xs.length by omega) hp
    rw [hx] at hh
    exact hh.symm
  constructor
  · intro h d hd
    obtain ⟨e, he, rfl⟩ := List.mem_map.1 hd
    rw [← key e he]
    exact h e he
  · intro h e he
    rw [key e he]
    exact h e.d (List.mem_map.2 ⟨e, he, rfl⟩)
theorem hasS_set {nn : Nat} {xs : List Int} {us : List PEl} (hc : ∀ p ∈ us, condsE nn p.els = 0) (hl : xs.length = nn) (hp : pointB xs = true) (hlen : ∀ p ∈ us, ∀ e ∈ p.els, e.xs.length = e.n) : hasS xs us = true ↔ SetH nn xs (us.map PEl.dat) := by
  unfold hasS SetH
  rw [List.any_eq_true]
  constructor
  · rintro ⟨p, hpm, h⟩
    exact ⟨p.dat, List.mem_map.2 ⟨p, hpm, rfl⟩, (hasP_holds (hc p hpm) hl hp (hlen p hpm)).1 h⟩
  · rintro ⟨u, hu, h⟩
    obtain ⟨p, hpm, rfl⟩ := List.mem_map.1 hu
    exact ⟨p, hpm, (hasP_holds (hc p hpm) hl hp (hlen p hpm)).2 h⟩
theorem pieces_lens {w : World} {A : Option Addr} {k : Nat} {us : List PEl} (P : PiecesAt w A k us) : ∀ p ∈ us, ∀ e ∈ p.els, e.xs.length = e.n := fun p hp e he => ((P.conds p hp).ints e he).len
theorem conds_good {nn : Nat} {us : List PEl} (hlen : ∀ p ∈ us, ∀ e ∈ p.els, e.xs.length = e.n) (hg : GoodU nn (us.map PEl.dat)) : ∀ p ∈ us, condsE nn p.els = 0 := fun p hp => by
  have h1 := (hg.1 p.dat (List.mem_map.2 ⟨p, hp, rfl⟩)).1
  have hv : ∀ e ∈ p.els, ValidD nn e.d := fun e he => h1 e.d (List.mem_map.2 ⟨e, he, rfl⟩)
  unfold condsE
  rw [if_pos (show p.els.all CEl.ok = true from List.all_eq_true.2 fun e he => (hv e he).1), if_pos (List.all_eq_true.2 fun e he => by
    have h2 : e.xs.length = nn := (hv e he).2
    have h3 := hlen p hp e he
    have : (e.n : Int) = nn := by omega
    simpa using this)]
theorem valid_good {nn : Nat} {us : List PEl} (hn : nn ≤ 12) (hlen : ∀ p ∈ us, ∀ e ∈ p.els, e.xs.length = e.n) (hg : GoodU nn (us.map PEl.dat)) : validS nn us = true := by
  unfold validS
  rw [Bool.and_eq_true]
  have hl := hg.2
  rw [List.length_map] at hl
  refine ⟨decide_eq_true ⟨by omega, by omega, hl⟩, List.all_eq_true.2 fun p hp => ?_⟩
  unfold pieceOk
  have h1 := (hg.1 p.dat (List.mem_map.2 ⟨p, hp, rfl⟩)).2
  rw [PEl.dat, List.length_map] at h1
  rw [decide_eq_true h1, decide_eq_true (conds_good hlen hg p hp)]
  rfl
/-- The data of a valid set. -/
theorem valid_data {nn : Nat} {ps : List PEl} (hlen : ∀ p ∈ ps, ∀ e ∈ p.els, e.xs.length = e.n) (hv : validS nn ps = true) : ∀ ds ∈ ps.map PEl.dat, ∀ d ∈ ds, ValidD nn d := fun ds hds d hd => by
  obtain ⟨p, hp, rfl⟩ := List.mem_map.1 hds
  obtain ⟨e, he, rfl⟩ := List.mem_map.1 hd
  obtain ⟨h1, h2⟩ := conds_elim ((valid_elim hv).2 p hp).2 e he
  exact ⟨h1, by have := hlen p hp e he; show e.xs.length = nn; omega⟩
/-- The difference of two valid sets, at a point. -/
theorem minus_has {nn : Nat} (hn : nn ≤ 12) {xs : List Int} (hl : xs.length = nn) (hp : pointB xs = true) {ps qs us : List PEl} (hlp : ∀ p ∈ ps, ∀ e ∈ p.els, e.xs.length = e.n) (hlq : ∀ p ∈ qs, ∀ e ∈ p.els, e.xs.length = e.n) (hlu : ∀ p ∈ us, ∀ e ∈ p.els, e.xs.length = e.n) (hvp : validS nn ps = true) (hvq : validS nn qs = true) (h : minusD nn (ps.map PEl.dat) (qs.map PEl.dat) = (0, us.map PEl.dat)) :
    GoodU nn (us.map PEl.dat) ∧ hasS xs us = (hasS xs ps && !hasS xs qs) := by
  obtain ⟨g, e⟩ := minus_points (x := xs) hn (valid_data hlp hvp) (valid_data hlq hvq) h
  refine ⟨g, ?_⟩
  have h1 := hasS_set (conds_good hlu g) hl hp hlu
  have h2 := hasS_set (fun p hp => ((valid_elim hvp).2 p hp).2) hl hp hlp
  have h3 := hasS_set (fun p hp => ((valid_elim hvq).2 p hp).2) hl hp hlq
  rw [Bool.eq_iff_iff, h1, e, ← h2, ← h3, Bool.and_eq_true, Bool.not_eq_true']
  simp
end Go.Proofs.Ytkgnlloioaobiaa
