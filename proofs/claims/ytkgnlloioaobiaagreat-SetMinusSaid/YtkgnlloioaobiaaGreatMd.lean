/-
  Part 4 of the texts that the laws stand on, merged: what each part says stands at its own head.
-/
import Derived.Test.YtkgnlloioaobiaaGreatProg
import Derived.Deep.RegionHeld3
import Derived.RangeFuncNested
import Derived.RangeFuncBound
import Derived.RangeFuncCalls
import Derived.RangeFuncLeaves
import Derived.Shelf.Abstract
import Derived.Shelf.RegionOpen
import Derived.WalkKit
import Derived.OwnWalkIn
import Derived.TacticsInMore
import Derived.LoopNIn
import Derived.LoopIn
import Derived.Lib.Hide
import Derived.Test.YtkgnlloioaobiaaGreatMc

/-
  slices.SortFunc at conditions, with wide.Order.
-/
namespace Go.Proofs.YtkgnlloioaobiaaGreat
open Go.Shelf Go.RowKit Go.Lib Go.Sort
set_option linter.unusedVariables false
set_option linter.unusedSectionVars false
set_option maxRecDepth 100000
set_option linter.unusedSimpArgs false

/-- A condition of n coefficients whose row can be read and is no part of block blk. -/
def Good (w : World) (blk n : Nat) (e : CEl) : Prop := e.n = n ∧ IntsAt w e.A e.n e.xs ∧ ∀ b off s, 0 < e.n → e.A = some ⟨b, off, s⟩ → b ≠ blk
abbrev GEl (w : World) (blk n : Nat) := { e : CEl // Good w blk n e }
def encG {w : World} {blk n : Nat} (x : GEl w blk n) : List Value := x.1.cells
def ordG {w : World} {blk n : Nat} (x y : GEl w blk n) : Int := ordC x.1.q x.1.M x.1.xs x.1.K y.1.q y.1.M y.1.xs y.1.K

section
variable {w : World} {blk n : Nat} [Inhabited (GEl w blk n)]
theorem ints_sort {e : CEl} (h : Good w blk n e) (off m : Nat) (dk : Array (GEl w blk n)) (os : Array Obj) : IntsAt (sortWorldK encG 4 w blk off m dk os) e.A e.n e.xs := by
  obtain ⟨_, hI, hne⟩ := h
  refine ⟨hI.len, hI.small, hI.wf, fun hn => ?_⟩
  obtain ⟨b, o, hA, hlt, hc⟩ := hI.cells hn
  exact ⟨b, o, hA, Nat.lt_of_lt_of_le hlt (size_sortWorldK_c ..), fun j hj => (cell?_sortWorldK_other encG 4 w blk off m dk os ⟨b, o + j, none⟩ (hne b o _ hn hA) hlt).trans (hc j hj)⟩

omit [Inhabited (GEl w blk n)] in
theorem order_els (W : World) (a b : CEl) (e : a.n = b.n) (h1 : IntsAt W a.A a.n a.xs) (h2 : IntsAt W b.A b.n b.xs) :
    Calls Tryz.prog 94 (#[.agg a.cells.toArray, .agg b.cells.toArray] ++ #[]) W fun e w' => e = .returned (.int .i64 (ordC a.q a.M a.xs a.K b.q b.M b.xs b.K)) ∧ ∃ q os', w' = grow (W.drewN q) os' := by
  obtain ⟨q, M, A, n1, c, K, xs⟩ := a
  obtain ⟨q', M', A', n2, c', K', ys⟩ := b
  have e : n1 = n2 := e
  subst e
  exact wide_order q M A n1 c K xs q' M' A' c' K' ys W h1 h2

theorem cond_lays (off size : Nat) : CmpLays Tryz.prog 94 #[] (encG (w := w) (blk := blk) (n := n)) 4 ordG blk off size w := by
  intro m os dk hs x y
  exact order_els _ x.1 y.1 (x.2.1.trans y.2.1.symm) (ints_sort x.2 off m dk os) (ints_sort y.2 off m dk os)

theorem key_ord (x y : GEl w blk n) : ordG x y = ordL (keyD x.1.d) (keyD y.1.d) ∧ (keyD x.1.d).length = n + 3 := by
  have hx : x.1.xs.length = n := x.2.2.1.len.trans x.2.1
  have hy : y.1.xs.length = n := y.2.2.1.len.trans y.2.1
  refine ⟨?_, (key_len _).trans (by show x.1.xs.length + 3 = _; rw [hx])⟩
  rw [← ordD_key (a := x.1.d) (b := y.1.d) (by show x.1.xs.length = y.1.xs.length; rw [hx, hy])]
  rfl
theorem ordG_swo : SWO (ltOf (ordG (w := w) (blk := blk) (n := n))) where
  irrefl x := by
    unfold ltOf
    rw [(key_ord x x).1, (lex_zero _ _ rfl).2 rfl]; rfl
  trans x y z h1 h2 := by
    unfold ltOf at *
    rw [(key_ord _ _).1] at *
    have lx := (key_ord x x).2
    have ly := (key_ord y y).2
    have lz := (key_ord z z).2
    generalize keyD x.1.d = a at *
    generalize keyD y.1.d = b at *
    generalize keyD z.1.d = c at *
    have h1 : ordL a b < 0 := of_decide_eq_true h1
    have h2 : ordL b c < 0 := of_decide_eq_true h2
    have h3 := lex_le a b c (by omega) (by omega) (by omega) (by omega)
    refine decide_eq_true ?_
    by_cases h0 : ordL a c = 0
    · have e := (lex_zero a c (by omega)).1 h0
      subst e
      have := lex_swap a b
      omega
    · omega
  ntrans x y z h1 h2 := by
    unfold ltOf at *
    rw [(key_ord _ _).1] at *
    have lx := (key_ord x x).2
    have ly := (key_ord y y).2
    have lz := (key_ord z z).2
    generalize keyD x.1.d = a at *
    generalize keyD y.1.d = b at *
    generalize keyD z.1.d = c at *
    have h1 : ¬ ordL a b < 0 := of_decide_eq_false h1
    have h2 : ¬ ordL b c < 0 := of_decide_eq_false h2
    have s1 := lex_swap a b
    have s2 := lex_swap b c
    have s3 := lex_swap a c
    have h3 := lex_le c b a (by omega) (by omega) (by omega) (by omega)
    exact decide_eq_false (by omega)

/-- slices.SortFunc with wide.Order, at conditions of n coefficients whose rows lie outside of the list's block. -/
theorem cond_sort (off cap : Nat) (d : Array (GEl w blk n)) (hH : HoldsK encG 4 w blk off d) (hblk : blk < w.heap.size) (hsz : d.size < 4611686018427387904) :
    Calls Tryz.prog 93 #[.slice (some ⟨blk, off, none⟩) d.size cap, .func (.func 94) #[] #[]] w fun e w' => e = .returned (.tuple #[]) ∧ ∃ d' k os, PermIn 0 d.size d d' ∧ SortedIn (ltOf ordG) 0 d.size d' ∧ w' = sortWorldK encG 4 w blk off k d' os := by
  have eg : ∀ args w, (callFunc 94 args).run Tryz.prog w = .ok (.enter 94 args) w := enters_of Tryz.func94 (by kernel_rfl) rfl
  exact AnyQ.slices_SortFunc sortCond 4 (fun w => rfl) (fun w => rfl) encG (fun _ => rfl) (fun x v hv => by simp [encG, CEl.cells] at hv; rcases hv with rfl | rfl | rfl | rfl <;> rfl) ordG ordG_swo 94 #[] blk off cap d w eg (cond_lays off d.size) hH hblk hsz
end
end Go.Proofs.YtkgnlloioaobiaaGreat

/-
  What slices.SortFunc leaves: the one sorted list.
-/
namespace Go.Proofs.YtkgnlloioaobiaaGreat
open Go.Shelf Go.RowKit Go.Lib Go.Sort
set_option linter.unusedVariables false
set_option linter.unusedSectionVars false

section
variable {w : World} {blk n : Nat} [Inhabited (GEl w blk n)]
/-- A permuted and sorted row: the same elements, and their data are the sorted list. -/
theorem sort_data {d d' : Array (GEl w blk n)} (hq : ∀ x ∈ d.toList, x.1.q = 0 ∨ x.1.q = 1 ∨ x.1.q = 2) (hp : PermIn 0 d.size d d') (hs : SortedIn (ltOf ordG) 0 d.size d') :
    d'.size = d.size ∧ d'.toList.Perm d.toList ∧ d'.toList.map (fun x => x.1.d) = sortD (d.toList.map fun x => x.1.d) := by
  obtain ⟨hz, _, hp⟩ := hp
  have hp : d'.toList.Perm d.toList := by
    have e : d'.extract 0 d.size = d' := by rw [← hz]; exact Array.extract_size
    rwa [e, Array.extract_size] at hp
  refine ⟨hz, hp, ?_⟩
  refine sortD_eq (n := n) (fun c hc => ?_) (fun c hc => ?_) (hp.map _) ?_
  · obtain ⟨x, hx, rfl⟩ := List.mem_map.1 hc
    exact hq x hx
  · obtain ⟨x, hx, rfl⟩ := List.mem_map.1 hc
    exact x.2.2.1.len.trans x.2.1
  · rw [List.pairwise_map, List.pairwise_iff_getElem]
    intro i j hi hj hij
    have h := hs i j (Nat.zero_le _) hij (by rw [← hz]; simpa using hj)
    have h1 : d'[j]! = d'.toList[j] := by rw [getElem!_pos d' j (by simpa using hj)]; rfl
    have h2 : d'[i]! = d'.toList[i] := by rw [getElem!_pos d' i (by simpa using hi)]; rfl
    rw [h1, h2] at h
    generalize d'.toList[j] = y at h ⊢
    generalize d'.toList[i] = x at h ⊢
    have h3 : ¬ ordG y x < 0 := of_decide_eq_false h
    rw [(key_ord y x).1] at h3
    have h4 : ordD x.1.d y.1.d = ordG x y := rfl
    rw [h4, (key_ord x y).1]
    have := lex_swap (keyD x.1.d) (keyD y.1.d)
    omega
end
end Go.Proofs.YtkgnlloioaobiaaGreat

/-
  The sort of a list of conditions that a call owns.
-/
namespace Go.Proofs.YtkgnlloioaobiaaGreat
open Go.Shelf Go.RowKit Go.Lib Go.Sort
set_option linter.unusedVariables false
set_option linter.unusedSectionVars false
set_option linter.unusedSimpArgs false

theorem heap_sort {w : World} {g : Nat} {cur : Array Value} {e : TypeId} {fr : Nat × Nat} (h : w.heap[g]? = some (.cells cur e fr)) (F : Array Value) (q : Nat) (os : Array Obj) :
    (grow (putRow id (Sort.ahead w q) g 0 F) os).heap[g]? = some (.cells (putCells id 0 F cur) e fr) := by
  have hlt := (Array.getElem?_eq_some_iff.1 h).1
  show ((w.heap.modify g (onCells (putCells id 0 F))) ++ os)[g]? = _
  rw [Array.getElem?_append_left (by simpa using hlt), Array.getElem?_modify, if_pos rfl, h]
  rfl
theorem take_put {cur F : Array Value} (h : F.size ≤ cur.size) : (putCells id 0 F cur).toList.take F.size = F.toList := by
  apply List.ext_getElem?
  intro i
  rw [List.getElem?_take]
  by_cases hi : i < F.size
  · rw [if_pos hi, Array.getElem?_toList, Array.getElem?_toList]
    unfold putCells
    rw [Array.getElem?_mapIdx, Array.getElem?_eq_getElem (by omega), Array.getElem?_eq_getElem hi, Option.map_some, if_pos ⟨Nat.zero_le _, by omega⟩, Nat.sub_zero, getElem!_pos F i hi]
    rfl
  · rw [if_neg hi, Array.getElem?_toList, Array.getElem?_eq_none (by omega)]

section
variable {w : World} {blk n : Nat} [Inhabited (GEl w blk n)]
theorem flat_cells (d : Array (GEl w blk n)) : (flatK encG 4 d).toList = ccells (d.toList.map (·.1)) := by
  apply List.ext_getElem?
  intro t
  by_cases ht : t < d.size * 4
  · obtain ⟨q, r, rfl, hr⟩ : ∃ q r, t = q * 4 + r ∧ r < 4 := ⟨t / 4, t % 4, by omega, by omega⟩
    have hq : q < d.size := by omega
    have ha := ccells_at (d.toList.map (·.1)) q d[q].1 (by simp [hq])
    have hg := get_flatK encG 4 d (q * 4 + r) ht
    rw [show (q * 4 + r) / 4 = q by omega, show (q * 4 + r) % 4 = r by omega, getElem!_pos d q hq, getElem!_pos _ (q * 4 + r) (by rw [size_flatK]; exact ht)] at hg
    rw [Array.getElem?_toList, Array.getElem?_eq_getElem (by rw [size_flatK]; exact ht), hg]
    have hr : r = 0 ∨ r = 1 ∨ r = 2 ∨ r = 3 := by omega
    rcases hr with rfl | rfl | rfl | rfl
    · exact ha.1.symm
    · exact ha.2.1.symm
    · exact ha.2.2.1.symm
    · exact ha.2.2.2.symm
  · rw [Array.getElem?_toList, Array.getElem?_eq_none (by rw [size_flatK]; omega), List.getElem?_eq_none (by rw [ccells_len]; simp; omega)]

/-- The row as the sort reads it. -/
theorem holds_own {N cap : Nat} {d : Array (GEl w blk n)} (h : w.ownsRow N 56 4 (.slice (some ⟨blk, 0, none⟩) d.size cap) d.size (ccells (d.toList.map (·.1)))) (h0 : 0 < d.size) : HoldsK encG 4 w blk 0 d := by
  intro j hj
  rw [size_flatK] at hj
  have hc := World.ownsRow.cellAt h j hj
  rw [← flat_cells d, Array.getElem?_toList, Array.getElem?_eq_getElem (by rw [size_flatK]; exact hj)] at hc
  refine ⟨?_, ?_⟩
  · rw [getElem!_pos _ j (by rw [size_flatK]; exact hj)]
    simpa using hc
  · rcases h.2 with ⟨_, h1⟩ | ⟨g, c, cur, hv, hb, hh, _⟩
    · omega
    · cases hv
      simp [World.frozen?, hh]
/-- The row as the sort leaves it. -/
theorem own_sort {N cap : Nat} {d d' : Array (GEl w blk n)} (h : w.ownsRow N 56 4 (.slice (some ⟨blk, 0, none⟩) d.size cap) d.size (ccells (d.toList.map (·.1)))) (h0 : 0 < d.size) (hz : d'.size = d.size) (q : Nat) (os : Array Obj) :
    (sortWorldK encG 4 w blk 0 q d' os).ownsRow N 56 4 (.slice (some ⟨blk, 0, none⟩) d.size cap) d.size (ccells (d'.toList.map (·.1))) := by
  refine ⟨by rw [ccells_len]; simp [hz], .inr ?_⟩
  rcases h.2 with ⟨_, h1⟩ | ⟨g, c, cur, hv, hb, hh, h1, h2, h3, h4⟩
  · omega
  · cases hv
    refine ⟨blk, cap, _, rfl, hb, heap_sort hh (flatK encG 4 d') q os, h1, h2, by simpa [putCells] using h3, ?_⟩
    have hF : (flatK encG 4 d').size = d.size * 4 := by rw [size_flatK, hz]
    rw [← flat_cells d', ← hF]
    exact take_put (by rw [hF, h3]; exact Nat.mul_le_mul_right 4 h1)
end
end Go.Proofs.YtkgnlloioaobiaaGreat

/-
  slices.SortFunc with wide.Order at a list of conditions that a call owns.
-/
namespace Go.Proofs.YtkgnlloioaobiaaGreat
open Go.Shelf Go.RowKit Go.Lib Go.Sort
set_option linter.unusedVariables false
set_option linter.unusedSectionVars false
set_option linter.unusedSimpArgs false

theorem other_sort {w : World} {g b : Nat} (hne : g ≠ b) (hb : b < w.heap.size) (F : Array Value) (q : Nat) (os : Array Obj) :
    (grow (putRow id (Sort.ahead w q) g 0 F) os).heap[b]? = w.heap[b]? := by
  show ((w.heap.modify g (onCells (putCells id 0 F))) ++ os)[b]? = _
  rw [Array.getElem?_append_left (by simpa using hb), Array.getElem?_modify, if_neg hne]
theorem below_sort {w : World} {g N : Nat} (hg : N ≤ g) (hN : N ≤ w.heap.size) (F : Array Value) (q : Nat) (os : Array Obj) : RowKit.Below N w (grow (putRow id (Sort.ahead w q) g 0 F) os) := by
  refine ⟨rfl, rfl, rfl, ?_, fun k hk => other_sort (by omega) (by omega) F q os⟩
  show w.heap.size ≤ ((w.heap.modify g (onCells (putCells id 0 F))) ++ os).size
  simp

set_option maxHeartbeats 1000000 in
theorem sort_owned {N0 N : Nat} {w : World} {g m cap n : Nat} {els : List CEl} (h : CL2 N0 N w (.slice (some ⟨g, 0, none⟩) m cap) els) (h0 : 0 < els.length) (hn : ∀ e ∈ els, e.n = n) (hq : ∀ e ∈ els, e.q = 0 ∨ e.q = 1 ∨ e.q = 2) (hN : N ≤ w.heap.size) :
    Calls Tryz.prog 93 #[.slice (some ⟨g, 0, none⟩) m cap, .func (.func 94) #[] #[]] w fun e w' => e = .returned (.tuple #[]) ∧
      ∃ els', CL2 N0 N w' (.slice (some ⟨g, 0, none⟩) m cap) els' ∧ els'.Perm els ∧ els'.map CEl.d = sortD (els.map CEl.d) ∧ RowKit.Below N w w' := by
  obtain ⟨hm, _⟩ := h.conds
  subst hm
  obtain ⟨cur, hgb, hcur⟩ : ∃ cur, N ≤ g ∧ w.heap[g]? = some (.cells cur 56 (0, 0)) := by
    rcases h.own.2 with ⟨hv, _⟩ | ⟨g', c, cur, hv, hb, hh, _⟩
    · cases hv
    · cases hv; exact ⟨cur, hb, hh⟩
  have hlt : g < w.heap.size := (Array.getElem?_eq_some_iff.1 hcur).1
  have hne : ∀ b cur', w.heap[b]? = some (.cells cur' 3 (0, 0)) → g ≠ b := fun b cur' hb e => by
    subst e
    rw [hcur] at hb
    simp at hb
  have H : ∀ e ∈ els, Good w g n e := fun e he => ⟨hn e he, h.ints e he, fun b off s hpos hA => by
    rcases h.rows e he with hz | ⟨b', hA', _, cur', hb', _⟩
    · omega
    · rw [hA'] at hA
      cases hA
      exact (hne _ cur' hb').symm⟩
  obtain ⟨d, hd⟩ : ∃ d : Array (GEl w g n), d.toList.map (·.1) = els := ⟨(els.attachWith _ H).toArray, by simp⟩
  have hds : d.size = els.length := by rw [← hd]; simp
  haveI : Inhabited (GEl w g n) := ⟨d[0]'(by omega)⟩
  have hown := h.own
  rw [← hds] at hown ⊢
  rw [← hd] at hown
  have hf := h.few
  refine (cond_sort 0 cap d (holds_own hown (by omega)) hlt (by omega)).mono ?_
  rintro e w' ⟨rfl, d', k, os, hp, hs, rfl⟩
  obtain ⟨hz, hperm, hdata⟩ := sort_data (fun x hx => hq x.1 (by rw [← hd]; exact List.mem_map.2 ⟨x, hx, rfl⟩)) hp hs
  have hlen : (d'.toList.map (·.1)).length = d.size := by simp [hz]
  refine ⟨rfl, d'.toList.map (·.1), ⟨?_, ?_, ?_, ?_⟩, ?_, ?_, ?_⟩
  · have := own_sort hown (by omega) hz k os
    rw [hlen]
    exact this
  · rw [hlen]; omega
  · intro e he
    obtain ⟨x, _, rfl⟩ := List.mem_map.1 he
    exact ints_sort x.2 0 k d' os
  · intro e he
    have he' : e ∈ els := by rw [← hd]; exact (hperm.map (·.1)).mem_iff.1 he
    rcases h.rows e he' with hz0 | ⟨b, hA, hN0, cur', hb, hsz⟩
    · exact .inl hz0
    · exact .inr ⟨b, hA, hN0, cur', (other_sort (hne b cur' hb) (Array.getElem?_eq_some_iff.1 hb).1 _ k os).trans hb, hsz⟩
  · rw [← hd]; exact hperm.map _
  · rw [List.map_map, ← hd, List.map_map]
    exact hdata
  · exact below_sort hgb hN _ k os
end Go.Proofs.YtkgnlloioaobiaaGreat

/-
  wide.settled.
-/
namespace Go.Proofs.YtkgnlloioaobiaaGreat
open Go.RowKit
set_option linter.unusedVariables false
set_option maxRecDepth 100000
set_option linter.unusedSimpArgs false

/-- The answer of settled. -/
def SettleRet (N0 N : Nat) (w : World) (e : Ending) (w' : World) (n : Nat) (o : Option (List CD)) : Prop :=
  ((o = none ∧ e = .returned (.tuple #[.slice none 0 0, .bool true])) ∨
    ∃ out A l c, o = some out ∧ e = .returned (.tuple #[.slice A l.length c, .bool false]) ∧ CL2 N0 N w' (.slice A l.length c) l ∧ l.map CEl.d = out ∧ ∀ e ∈ l, e.n = n) ∧ Below N w w'
theorem settle_pv {p : List CD} (h : pairVoid (gesD p) = true) : settleD p = none := by unfold settleD; rw [if_pos h]
theorem settle_cl {p : List CD} (h0 : pairVoid (gesD p) = false) (h : clashD (eqsD p) = true) : settleD p = none := by unfold settleD; rw [if_neg (by rw [h0]; decide), if_pos h]
theorem settle_im {p : List CD} (h0 : pairVoid (gesD p) = false) (h1 : clashD (eqsD p) = false) (h : impVoid (eqsD p) (restD (gesD p)) = true) : settleD p = none := by unfold settleD; rw [if_neg (by rw [h0]; decide), if_neg (by rw [h1]; decide), if_pos h]
theorem settle_ok {p : List CD} (h0 : pairVoid (gesD p) = false) (h1 : clashD (eqsD p) = false) (h : impVoid (eqsD p) (restD (gesD p)) = false) : settleD p = some (eqsD p ++ impRest (eqsD p) (restD (gesD p)) ++ comp equalD (kindDv p)) := by unfold settleD; rw [if_neg (by rw [h0]; decide), if_neg (by rw [h1]; decide), if_neg (by rw [h]; decide)]



set_option maxHeartbeats 16000000 in
theorem wide_settled {N0 N n g m c : Nat} {els : List CEl} (w : World) (hL : CL2 N0 N w (.slice (some ⟨g, 0, none⟩) m c) els) (hl : els.length ≤ 1000) (hn : ∀ e ∈ els, e.n = n ∧ NormD n e.d) (hs : Sorted (els.map CEl.d)) (hN : N ≤ w.heap.size) :
    Calls Tryz.prog 95 #[.slice (some ⟨g, 0, none⟩) m c] w fun e w' => SettleRet N0 N w e w' n (settleD (els.map CEl.d)) := by
  have hm := hL.conds.1
  subst hm
  obtain ⟨hmc, hc⟩ := own_capC hL
  have V0 := CV.of_cl hL
  have HN := Lib.hid hn
  have HS := Lib.hid hs
  have HL := Lib.hid hl
  clear hL hn hs
  cases hpv : pairVoid (gesD (els.map CEl.d))
  · have HPV := Lib.hid hpv
    clear hpv
    rcases Nat.eq_zero_or_pos (tightD (gesD (els.map CEl.d))).length with hz | hz
    all_goals have HZ := Lib.hid hz
    all_goals clear hz
    all_goals go_enter Tryz.func95, Tryz.ntmps95
    · go_wp2_with (first | (go_at_call 118; refine (kinds_all _ V0 hmc hc).mono ?_; rintro e w1 ⟨E, G, D, o1, o2, o3, c3, rfl, hc3, ⟨V1, V2, V3⟩, ⟨D21, D23, D13⟩, hdat, hmem, hlen, hb1⟩; have HKP := Lib.hid (kp_of HN.out HS.out HL.out hdat hmem hlen); have hB1 : Below N w w1 := hb1.mono hN; clear hdat hmem hlen hb1; have hg1 : G.length ≤ 9223372036854775807 := (by have := HKP.out.len; omega)) | (go_at_call 119; (with_reducible (show Calls _ _ #[_, .func (.func 120) #[] #[]] _ _)); refine (slope_all _ V2 (Nat.le_refl _) hg1 HKP.out.gN).mono ?_; rintro e w2 ⟨rfl, W2, T2, hk2⟩; have U1 := V1.touch V2 T2 D21; have U3 := V3.touch V2 T2 D23; have hB2 := hB1.trans (T2.below V2.addr (Nat.le_trans hN hB1.size)); have hk9 : (comp sameE G).length ≤ 1000 := (by have := HKP.out.len; omega); clear V1 V2 V3 T2) | (go_at_call 121; refine (paired_no _ W2.conds W2.rows hk9 HKP.out.calm (by rw [HKP.out.g]; exact HPV.out)).mono ?_; rintro e w3 ⟨⟨A5, t, c5, A6, r, c6, rfl, hLt, htd, hLr, hrd, htn, hrn⟩, hb3⟩; have HT := Lib.hid (kp_tight HKP.out htd hrd htn hrn); have HTD := Lib.hid (And.intro htd (And.intro hrd htn)); have htl : t.length = 0 := (by have h := congrArg List.length htd; rw [List.length_map, HKP.out.g] at h; rw [h]; exact HZ.out); have X1 := U1.step hb3; have X3 := U3.step hb3; have VR := CV.of_cl hLr; have VT := CV.of_cl hLt; have DER := Lib.hid (Dis.of_blocks U1 VR); have HGD := Lib.hid (fun (k : Nat) (F : List CEl) (A : Option Addr) (W' : World) (h : CV N0 w2.heap.size W' A k F) => Dis.of_blocks U3 h); have HRD := Lib.hid (show r.map CEl.d = restD (gesD (els.map CEl.d)) by rw [hrd, HKP.out.g]); have hB3 := hB2.trans (hb3.mono (Nat.le_trans hN hB2.size)); have SR := Lib.hid (own_sane hLr); have ST := Lib.hid (own_sane hLt); have CR6 := Lib.hid (own_capC hLr); have hN2 := hb3.size; have HW2 := Lib.hid (Nat.le_trans hN hB2.size); clear hb3 U1 U3 W2 hLr hLt htd hrd htn hrn) | (go_at_call 119; (with_reducible (show Calls _ _ #[_, .func (.func 122) #[] #[]] _ _)); refine (equal_all _ X1 (Nat.le_refl _) (by have := HKP.out.len; omega) (fun e he => (HKP.out.eN e he).1)).mono ?_; rintro e w6 ⟨rfl, CQ, T4, hk4⟩; have CR := VR.touch X1 T4 DER.out; have CD := X3.touch X1 T4 D13; have hB6 := hB3.trans (T4.below X1.addr (Nat.le_trans hN hB3.size)); have DQD := Lib.hid (D13.less hk4 (Nat.le_refl _)); have DQR := Lib.hid (DER.out.less hk4 (Nat.le_refl _)); have HQ := Lib.hid (ep_comp (ep_less HKP.out HZ.out) HN.out HS.out); have SQ := Lib.hid (sane_some (b := g) (o := o1) (c := E.length)); have hcQ : (comp equalE E).length ≤ E.length ∧ E.length ≤ 9223372036854775807 := ⟨hk4, by have := HKP.out.len; omega⟩; have hz2 := Nat.le_trans hN2 T4.size))
      clear X1 X3 VR VT T4 hk4 hB3 htl D21 D23 DER D13 hB1 hB2 hk2 hk9 hg1
      generalize comp equalE E = Q at *
      generalize hA4 : (some ⟨g, o1, none⟩ : Option Addr) = A4 at *
      clear hA4
      generalize hc4 : E.length = c4 at *
      clear hc4
      have hQ5 : Q.length ≤ 1000 := HQ.out.2.2.1
      go_loopw [38] (fun v wr => ∃ i : Nat, i ≤ Q.length ∧ v = .int .i64 i ∧ (∀ j x y, j < i → Q[j]? = some x → Q[j + 1]? = some y → x.xs ≠ y.xs) ∧ Below w6.heap.size w6 wr) (fun v _ => Q.length - (intOf v).toNat)
      case atStart => exact ⟨0, Nat.zero_le _, rfl, (fun j x y h => absurd h (by omega)), Below.refl _ _⟩
      case round =>
        obtain ⟨i, hi, rfl, hnc, hbr⟩ := hrel
        have HNC := Lib.hid hnc
        clear hnc
        have C1 := (CQ.step hbr).conds
        by_cases hlt : i + 1 < Q.length
        · obtain ⟨b, off, x, hA, hblt, hej, hmem, hcs, hin⟩ := C1.at (show i < Q.length by omega)
          obtain ⟨b2, off2, y, hA2, _, hej2, hmem2, hcs2, hin'⟩ := C1.at hlt
          rw [hA] at hA2
          cases hA2
          subst hA
          obtain ⟨x0, x1, x2, x3⟩ := hcs
          obtain ⟨y0, y1, y2, y3⟩ := hcs2
          have na := (HQ.out.2.1 x hmem).1
          have nb := (HQ.out.2.1 y hmem2).1
          obtain ⟨eq, eM, eA, en, ec, eK, exs⟩ := x
          obtain ⟨fq, fM, fA, fn, fc, fK, fxs⟩ := y
          simp only at na nb x0 x1 x2 x3 y0 y1 y2 y3 hin hin'
          obtain rfl : en = fn := na.trans nb.symm
          have HEJ := Lib.hid hej
          have HEJ2 := Lib.hid hej2
          have hq1 : (i : Int) < (Q.length : Int) - 1 := by omega
          have hq2 : (i : Int) < (Q.length : Int) := by omega
          have hq3 : (i : Int) + 1 < (Q.length : Int) := by omega
          have hp0 : (0 : Int) ≤ (i : Int) := by omega
          have hp1 : (0 : Int) ≤ (i : Int) + 1 := by omega
          have hnt : ((i : Int) + 1).toNat = i + 1 := by omega
          have hwr : IntKind.i64.wrap ((i : Int) + 1) = (i : Int) + 1 := IntWalk.i64_in _ (by omega)
          replace hin := hin.step (Below.refl _ wr).drew
          replace hin' := hin'.step (Below.refl _ wr).drew
          have hbd := hbr.drew
          clear hej hej2 hmem hmem2 na nb hbr C1
          by_cases hv : exs = fxs
          · have HV := Lib.hid (show decide (exs = fxs) = true from decide_eq_true hv)
            have HCY := Lib.hid (show clashD (eqsD (els.map CEl.d)) = true from by
              rw [← HQ.out.1]
              exact clash_yes (i := i) (a := ⟨eq, eM, exs, eK⟩) (b := ⟨fq, fM, fxs, fK⟩) (by rw [List.getElem?_map, HEJ.out]; rfl) (by rw [List.getElem?_map, HEJ2.out]; rfl) hv)
            clear hv
            go_wp2
            go_region_held3 (fun W => W.cell? ⟨b, off + i * 4, none⟩ = some (.int .i64 eq) ∧ W.cell? ⟨b, off + i * 4 + 1, none⟩ = some (.int .i64 eM) ∧ W.cell? ⟨b, off + i * 4 + 2, none⟩ = some (.slice eA en ec) ∧ W.cell? ⟨b, off + i * 4 + 3, none⟩ = some (.int .i64 eK) ∧ W.cell? ⟨b, off + (i + 1) * 4, none⟩ = some (.int .i64 fq) ∧ W.cell? ⟨b, off + (i + 1) * 4 + 1, none⟩ = some (.int .i64 fM) ∧ W.cell? ⟨b, off + (i + 1) * 4 + 2, none⟩ = some (.slice fA en fc) ∧ W.cell? ⟨b, off + (i + 1) * 4 + 3, none⟩ = some (.int .i64 fK)) (first | with_reducible exact ⟨x0, x1, x2, x3, y0, y1, y2, y3⟩ | with_reducible exact ⟨z0, z1, z2, z3, z4, z5, z6, z7⟩ | go_keep) (first | (go_at_call 120; refine (same_slope _ _ _ _ _ _ exs _ _ _ _ _ fxs _ hin hin').mono ?_; rintro e w9 ⟨rfl, q9, os9, hw9⟩; have hb : Below wr.drew.heap.size wr.drew w9 := (by rw [hw9]; exact below_grow q9 os9); clear hw9; rw [HV.out]; have hbe := (Below.refl wr.heap.size wr).drew.trans hb; have z0 := (hbe.cell (p := ⟨b, off + i * 4, none⟩) hblt).trans x0; have z1 := (hbe.cell (p := ⟨b, off + i * 4 + 1, none⟩) hblt).trans x1; have z2 := (hbe.cell (p := ⟨b, off + i * 4 + 2, none⟩) hblt).trans x2; have z3 := (hbe.cell (p := ⟨b, off + i * 4 + 3, none⟩) hblt).trans x3; have z4 := (hbe.cell (p := ⟨b, off + (i + 1) * 4, none⟩) hblt).trans y0; have z5 := (hbe.cell (p := ⟨b, off + (i + 1) * 4 + 1, none⟩) hblt).trans y1; have z6 := (hbe.cell (p := ⟨b, off + (i + 1) * 4 + 2, none⟩) hblt).trans y2; have z7 := (hbe.cell (p := ⟨b, off + (i + 1) * 4 + 3, none⟩) hblt).trans y3; replace hbd := hbd.trans (hb.mono hbd.size)))
            all_goals
              go_wp2
              go_ret2
              exact ⟨.inl ⟨settle_cl HPV.out HCY.out, rfl⟩, hB6.trans (hbd.mono (Nat.le_trans hN hB6.size))⟩
          · have HV := Lib.hid (show decide (exs = fxs) = false from decide_eq_false hv)
            have HNV := Lib.hid hv
            clear hv
            go_wp2
            go_region_held3 (fun W => W.cell? ⟨b, off + i * 4, none⟩ = some (.int .i64 eq) ∧ W.cell? ⟨b, off + i * 4 + 1, none⟩ = some (.int .i64 eM) ∧ W.cell? ⟨b, off + i * 4 + 2, none⟩ = some (.slice eA en ec) ∧ W.cell? ⟨b, off + i * 4 + 3, none⟩ = some (.int .i64 eK) ∧ W.cell? ⟨b, off + (i + 1) * 4, none⟩ = some (.int .i64 fq) ∧ W.cell? ⟨b, off + (i + 1) * 4 + 1, none⟩ = some (.int .i64 fM) ∧ W.cell? ⟨b, off + (i + 1) * 4 + 2, none⟩ = some (.slice fA en fc) ∧ W.cell? ⟨b, off + (i + 1) * 4 + 3, none⟩ = some (.int .i64 fK)) (first | with_reducible exact ⟨x0, x1, x2, x3, y0, y1, y2, y3⟩ | with_reducible exact ⟨z0, z1, z2, z3, z4, z5, z6, z7⟩ | go_keep) (first | (go_at_call 120; refine (same_slope _ _ _ _ _ _ exs _ _ _ _ _ fxs _ hin hin').mono ?_; rintro e w9 ⟨rfl, q9, os9, hw9⟩; have hb : Below wr.drew.heap.size wr.drew w9 := (by rw [hw9]; exact below_grow q9 os9); clear hw9; rw [HV.out]; have hbe := (Below.refl wr.heap.size wr).drew.trans hb; have z0 := (hbe.cell (p := ⟨b, off + i * 4, none⟩) hblt).trans x0; have z1 := (hbe.cell (p := ⟨b, off + i * 4 + 1, none⟩) hblt).trans x1; have z2 := (hbe.cell (p := ⟨b, off + i * 4 + 2, none⟩) hblt).trans x2; have z3 := (hbe.cell (p := ⟨b, off + i * 4 + 3, none⟩) hblt).trans x3; have z4 := (hbe.cell (p := ⟨b, off + (i + 1) * 4, none⟩) hblt).trans y0; have z5 := (hbe.cell (p := ⟨b, off + (i + 1) * 4 + 1, none⟩) hblt).trans y1; have z6 := (hbe.cell (p := ⟨b, off + (i + 1) * 4 + 2, none⟩) hblt).trans y2; have z7 := (hbe.cell (p := ⟨b, off + (i + 1) * 4 + 3, none⟩) hblt).trans y3; replace hbd := hbd.trans (hb.mono hbd.size)))
            all_goals
              go_wp2
              go_roundw
              case rel => exact ⟨i + 1, by omega, by go_num, (fun j x y hj hx hy => by
                rcases Nat.lt_or_eq_of_le (Nat.le_of_lt_succ hj) with h | rfl
                · exact HNC.out j x y h hx hy
                · rw [HEJ.out] at hx; rw [HEJ2.out] at hy; cases hx; cases hy; exact HNV.out), hbd⟩
              case measure => simp [intOf]; omega
        · have hcl : clashD (eqsD (els.map CEl.d)) = false := by
            rw [← HQ.out.1]
            refine clash_none fun j a b hj ha hb => ?_
            rw [List.length_map] at hj
            rw [List.getElem?_map] at ha hb
            obtain ⟨x, hx, rfl⟩ := Option.map_eq_some_iff.1 ha
            obtain ⟨y, hy, rfl⟩ := Option.map_eq_some_iff.1 hb
            exact HNC.out j x y (by omega) hx hy
          have HCL := Lib.hid hcl
          have HCA := Lib.hid (HQ.out.2.2.2 hcl)
          have hge : ¬ ((i : Int) < (Q.length : Int) - 1) := by omega
          have CR8 := CR.step hbr
          have CD8 := CD.step hbr
          have CQ8 := CQ.step hbr
          have hB8 := hB6.trans (hbr.mono (Nat.le_trans hN hB6.size))
          have hz8 := Nat.le_trans hz2 hbr.size
          have hrl : r.length ≤ 1000 := by have := HT.out.1.2; have := HKP.out.len; omega
          clear hcl C1 HNC hbr
          cases him : impVoid (eqsD (els.map CEl.d)) (restD (gesD (els.map CEl.d)))
          · have HIM := Lib.hid (show impVoid (Q.map CEl.d) (r.map CEl.d) = false by rw [HQ.out.1, HRD.out]; exact him)
            have HIV := Lib.hid him
            clear him
            go_wp2_with (first
              | (go_at_call 123; refine (unimp_no _ CQ8.conds HCA.out hQ5 CR8 HT.out.2.2 hz8 hrl CR6.out.1 CR6.out.2 SR.out HIM.out).mono ?_; rintro e w9 ⟨⟨A7, c7, r7, rfl, C7, S7, hd7, hn7⟩, hb9⟩; have HD7 := Lib.hid (And.intro hd7 hn7); have HS7 := Lib.hid S7; have CQ9 := CQ8.step hb9; have CD9 := CD8.step hb9; have hB9 := hB8.trans (hb9.mono (Nat.le_trans hN hB8.size)); have hr7 : r7.length ≤ 1000 := (by have h := congrArg List.length hd7; have h2 := imp_len (Q.map CEl.d) (r.map CEl.d); simp only [List.length_map] at h h2; omega); clear hd7 hn7 S7 hb9)
              | (go_at_call 119; refine (equal_all _ CD9 hc3.1 hc3.2 HKP.out.dN).mono ?_; rintro e w10 ⟨rfl, CD10, T10, hk10⟩; have CQ10 := CQ9.touch CD9 T10 DQD.out.symm; have C10 := C7.touch CD9 T10 (HGD.out _ _ _ _ C7); have hB10 := hB9.trans (T10.below CD9.addr (Nat.le_trans hN hB9.size)); have hd10 : (comp equalE D).length ≤ 1000 := (by have := HKP.out.len; omega); clear CQ9 CD9 T10 C7)
              | (go_at_call 52; refine (concat_three w10 CQ10 SQ.out C10 HS7.out CD10 sane_some (by omega)).mono ?_; rintro e w11 ⟨A11, n11, c11, l11, rfl, hL11, hl11, hb11⟩; have HL11 := Lib.hid (And.intro hL11 hl11); have hn11 := Lib.hid hL11.conds.1; have hB11 := hB10.trans (hb11.mono (Nat.le_trans hN hB10.size)); have hz11 := Nat.le_trans hN hB10.size; clear hL11 hl11))
            go_ret2
            refine ⟨.inr ⟨_, A11, l11, c11, settle_ok HPV.out HCL.out HIV.out, by rw [hn11.out]; rfl, by have := HL11.out.1.mono (Nat.le_refl N0) hz11; rwa [hn11.out] at this, ?_, ?_⟩, hB11⟩
            · rw [HL11.out.2, List.map_append, List.map_append, HQ.out.1, HD7.out.1, HQ.out.1, HRD.out, comp_map equalE CEl.d equalD (fun a b => rfl), HKP.out.v]
            · intro e he
              rw [HL11.out.2] at he
              rcases List.mem_append.1 he with h | h
              · rcases List.mem_append.1 h with h | h
                · exact (HQ.out.2.1 e h).1
                · exact HD7.out.2 e h
              · exact HKP.out.dN e (comp_mem h)
          · have HIM := Lib.hid (show impVoid (Q.map CEl.d) (r.map CEl.d) = true by rw [HQ.out.1, HRD.out]; exact him)
            have HIV := Lib.hid him
            clear him
            go_wp2_with (go_at_call 123; refine (unimp_yes _ CQ8.conds HCA.out hQ5 CR8 HT.out.2.2 hz8 hrl CR6.out.1 CR6.out.2 SR.out HIM.out).mono ?_; rintro e w9 ⟨rfl, hb9⟩)
            go_ret2
            exact ⟨.inl ⟨settle_im HPV.out HCL.out HIV.out, rfl⟩, hB8.trans (hb9.mono (Nat.le_trans hN hB8.size))⟩
    · go_wp2_with (first | (go_at_call 118; refine (kinds_all _ V0 hmc hc).mono ?_; rintro e w1 ⟨E, G, D, o1, o2, o3, c3, rfl, hc3, ⟨V1, V2, V3⟩, ⟨D21, D23, D13⟩, hdat, hmem, hlen, hb1⟩; have HKP := Lib.hid (kp_of HN.out HS.out HL.out hdat hmem hlen); have hB1 : Below N w w1 := hb1.mono hN; clear hdat hmem hlen hb1; have hg1 : G.length ≤ 9223372036854775807 := (by have := HKP.out.len; omega)) | (go_at_call 119; (with_reducible (show Calls _ _ #[_, .func (.func 120) #[] #[]] _ _)); refine (slope_all _ V2 (Nat.le_refl _) hg1 HKP.out.gN).mono ?_; rintro e w2 ⟨rfl, W2, T2, hk2⟩; have U1 := V1.touch V2 T2 D21; have U3 := V3.touch V2 T2 D23; have hB2 := hB1.trans (T2.below V2.addr (Nat.le_trans hN hB1.size)); have hk9 : (comp sameE G).length ≤ 1000 := (by have := HKP.out.len; omega); clear V1 V2 V3 T2) | (go_at_call 121; refine (paired_no _ W2.conds W2.rows hk9 HKP.out.calm (by rw [HKP.out.g]; exact HPV.out)).mono ?_; rintro e w3 ⟨⟨A5, t, c5, A6, r, c6, rfl, hLt, htd, hLr, hrd, htn, hrn⟩, hb3⟩; have HT := Lib.hid (kp_tight HKP.out htd hrd htn hrn); have HTD := Lib.hid (And.intro htd (And.intro hrd htn)); have htl : 0 < t.length := (by have h := congrArg List.length htd; rw [List.length_map, HKP.out.g] at h; rw [h]; exact HZ.out); have X1 := U1.step hb3; have X3 := U3.step hb3; have VR := CV.of_cl hLr; have VT := CV.of_cl hLt; have DER := Lib.hid (Dis.of_blocks U1 VR); have HGD := Lib.hid (fun (k : Nat) (F : List CEl) (A : Option Addr) (W' : World) (h : CV N0 w2.heap.size W' A k F) => Dis.of_blocks U3 h); have HRD := Lib.hid (show r.map CEl.d = restD (gesD (els.map CEl.d)) by rw [hrd, HKP.out.g]); have hB3 := hB2.trans (hb3.mono (Nat.le_trans hN hB2.size)); have SR := Lib.hid (own_sane hLr); have ST := Lib.hid (own_sane hLt); have CR6 := Lib.hid (own_capC hLr); have hN2 := hb3.size; have HW2 := Lib.hid (Nat.le_trans hN hB2.size); clear hb3 U1 U3 W2 hLr hLt htd hrd htn hrn) | (go_at_call 52; refine (concat_two (n1 := E.length) (c1 := E.length) w3 X1 sane_some VT ST.out (by have := HKP.out.len; have := HT.out.1.1; omega)).mono ?_; rintro e w4 ⟨A4, n4, c4, l4, rfl, hL4, hl4, hb4⟩; have HL4 := Lib.hid hl4; have HNL4 := Lib.hid hL4.conds.1; clear hl4; have HP4 := Lib.hid (show 0 < l4.length by rw [HL4.out, List.length_append]; omega); obtain ⟨g4, rfl⟩ := own_addr hL4 (by have := HP4.out; have := HNL4.out; omega); have HMQ := Lib.hid (show ∀ e ∈ l4, (e.q = 0 ∨ e.q = 1 ∨ e.q = 2) ∧ e.n = n from fun e he => (by rw [HL4.out] at he; rcases List.mem_append.1 he with h | h; exact ⟨(HKP.out.eN e h).2.q, (HKP.out.eN e h).1⟩; exact ⟨(HT.out.2.1 e h).2.q, (HT.out.2.1 e h).1⟩))) | (go_at_call 93; refine (sort_owned hL4 HP4.out (fun e he => (HMQ.out e he).2) (fun e he => (HMQ.out e he).1) hb4.size).mono ?_; rintro e w5 ⟨rfl, E2, hL5, hperm, hdat5, hb5⟩; have hb35 := hb4.trans hb5; have HN5 := Lib.hid hL5.conds.1; have hcap5 := own_capC hL5; have V5 := CV.of_cl hL5; have Z1 := VR.step hb35; have Z3 := X3.step hb35; have D5D := Lib.hid (Dis.of_blocks X3 V5).symm; have D5R := Lib.hid (Dis.of_blocks VR V5).symm; have hB5 := hB3.trans (hb35.mono (Nat.le_trans hN hB3.size)); have HEP := Lib.hid (ep_more (E2 := E2) HKP.out HTD.out.1 HTD.out.2.2 (by rw [← HL4.out]; exact hperm) (by rw [← HL4.out]; exact hdat5) HZ.out); have S5 := Lib.hid (sane_some (b := g4) (o := 0) (c := c4)); have hz5 := Nat.le_trans hN2 hb35.size; have V5N : CV N0 N w5 (some ⟨g4, 0, none⟩) n4 E2 := V5.mono (Nat.le_refl _) (Nat.le_trans hN hB3.size); clear hL4 hL5 hb4 hb5 hb35 hperm hdat5 X1 X3 VR VT V5 hB3) | (go_at_call 119; (with_reducible (show Calls _ _ #[_, .func (.func 122) #[] #[]] _ _)); refine (equal_all _ V5N (by have := HN5.out; omega) hcap5.2 HEP.out.n).mono ?_; rintro e w6 ⟨rfl, CQ, T4, hk4⟩; have CR := Z1.touch V5N T4 D5R.out; have CD := Z3.touch V5N T4 D5D.out; have hB6 := hB5.trans (T4.below V5N.addr (Nat.le_trans hN hB5.size)); have DQD := Lib.hid (D5D.out.less hk4 (Nat.le_refl _)); have DQR := Lib.hid (D5R.out.less hk4 (Nat.le_refl _)); have HQ := Lib.hid (ep_comp HEP.out HN.out HS.out); have SQ := S5; have hcQ : (comp equalE E2).length ≤ c4 ∧ c4 ≤ 9223372036854775807 := ⟨by have := HN5.out; omega, hcap5.2⟩; have hz2 := Nat.le_trans hz5 T4.size))
      clear V5N Z1 Z3 T4 hk4 htl D21 D23 DER D13 hB1 hB2 hB5 hk2 hk9 hg1 D5D D5R
      generalize comp equalE E2 = Q at *
      generalize hA4 : (some ⟨g4, 0, none⟩ : Option Addr) = A4 at *
      clear hA4
      have hQ5 : Q.length ≤ 1000 := HQ.out.2.2.1
      go_loopw [38] (fun v wr => ∃ i : Nat, i ≤ Q.length ∧ v = .int .i64 i ∧ (∀ j x y, j < i → Q[j]? = some x → Q[j + 1]? = some y → x.xs ≠ y.xs) ∧ Below w6.heap.size w6 wr) (fun v _ => Q.length - (intOf v).toNat)
      case atStart => exact ⟨0, Nat.zero_le _, rfl, (fun j x y h => absurd h (by omega)), Below.refl _ _⟩
      case round =>
        obtain ⟨i, hi, rfl, hnc, hbr⟩ := hrel
        have HNC := Lib.hid hnc
        clear hnc
        have C1 := (CQ.step hbr).conds
        by_cases hlt : i + 1 < Q.length
        · obtain ⟨b, off, x, hA, hblt, hej, hmem, hcs, hin⟩ := C1.at (show i < Q.length by omega)
          obtain ⟨b2, off2, y, hA2, _, hej2, hmem2, hcs2, hin'⟩ := C1.at hlt
          rw [hA] at hA2
          cases hA2
          subst hA
          obtain ⟨x0, x1, x2, x3⟩ := hcs
          obtain ⟨y0, y1, y2, y3⟩ := hcs2
          have na := (HQ.out.2.1 x hmem).1
          have nb := (HQ.out.2.1 y hmem2).1
          obtain ⟨eq, eM, eA, en, ec, eK, exs⟩ := x
          obtain ⟨fq, fM, fA, fn, fc, fK, fxs⟩ := y
          simp only at na nb x0 x1 x2 x3 y0 y1 y2 y3 hin hin'
          obtain rfl : en = fn := na.trans nb.symm
          have HEJ := Lib.hid hej
          have HEJ2 := Lib.hid hej2
          have hq1 : (i : Int) < (Q.length : Int) - 1 := by omega
          have hq2 : (i : Int) < (Q.length : Int) := by omega
          have hq3 : (i : Int) + 1 < (Q.length : Int) := by omega
          have hp0 : (0 : Int) ≤ (i : Int) := by omega
          have hp1 : (0 : Int) ≤ (i : Int) + 1 := by omega
          have hnt : ((i : Int) + 1).toNat = i + 1 := by omega
          have hwr : IntKind.i64.wrap ((i : Int) + 1) = (i : Int) + 1 := IntWalk.i64_in _ (by omega)
          replace hin := hin.step (Below.refl _ wr).drew
          replace hin' := hin'.step (Below.refl _ wr).drew
          have hbd := hbr.drew
          clear hej hej2 hmem hmem2 na nb hbr C1
          by_cases hv : exs = fxs
          · have HV := Lib.hid (show decide (exs = fxs) = true from decide_eq_true hv)
            have HCY := Lib.hid (show clashD (eqsD (els.map CEl.d)) = true from by
              rw [← HQ.out.1]
              exact clash_yes (i := i) (a := ⟨eq, eM, exs, eK⟩) (b := ⟨fq, fM, fxs, fK⟩) (by rw [List.getElem?_map, HEJ.out]; rfl) (by rw [List.getElem?_map, HEJ2.out]; rfl) hv)
            clear hv
            go_wp2
            go_region_held3 (fun W => W.cell? ⟨b, off + i * 4, none⟩ = some (.int .i64 eq) ∧ W.cell? ⟨b, off + i * 4 + 1, none⟩ = some (.int .i64 eM) ∧ W.cell? ⟨b, off + i * 4 + 2, none⟩ = some (.slice eA en ec) ∧ W.cell? ⟨b, off + i * 4 + 3, none⟩ = some (.int .i64 eK) ∧ W.cell? ⟨b, off + (i + 1) * 4, none⟩ = some (.int .i64 fq) ∧ W.cell? ⟨b, off + (i + 1) * 4 + 1, none⟩ = some (.int .i64 fM) ∧ W.cell? ⟨b, off + (i + 1) * 4 + 2, none⟩ = some (.slice fA en fc) ∧ W.cell? ⟨b, off + (i + 1) * 4 + 3, none⟩ = some (.int .i64 fK)) (first | with_reducible exact ⟨x0, x1, x2, x3, y0, y1, y2, y3⟩ | with_reducible exact ⟨z0, z1, z2, z3, z4, z5, z6, z7⟩ | go_keep) (first | (go_at_call 120; refine (same_slope _ _ _ _ _ _ exs _ _ _ _ _ fxs _ hin hin').mono ?_; rintro e w9 ⟨rfl, q9, os9, hw9⟩; have hb : Below wr.drew.heap.size wr.drew w9 := (by rw [hw9]; exact below_grow q9 os9); clear hw9; rw [HV.out]; have hbe := (Below.refl wr.heap.size wr).drew.trans hb; have z0 := (hbe.cell (p := ⟨b, off + i * 4, none⟩) hblt).trans x0; have z1 := (hbe.cell (p := ⟨b, off + i * 4 + 1, none⟩) hblt).trans x1; have z2 := (hbe.cell (p := ⟨b, off + i * 4 + 2, none⟩) hblt).trans x2; have z3 := (hbe.cell (p := ⟨b, off + i * 4 + 3, none⟩) hblt).trans x3; have z4 := (hbe.cell (p := ⟨b, off + (i + 1) * 4, none⟩) hblt).trans y0; have z5 := (hbe.cell (p := ⟨b, off + (i + 1) * 4 + 1, none⟩) hblt).trans y1; have z6 := (hbe.cell (p := ⟨b, off + (i + 1) * 4 + 2, none⟩) hblt).trans y2; have z7 := (hbe.cell (p := ⟨b, off + (i + 1) * 4 + 3, none⟩) hblt).trans y3; replace hbd := hbd.trans (hb.mono hbd.size)))
            all_goals
              go_wp2
              go_ret2
              exact ⟨.inl ⟨settle_cl HPV.out HCY.out, rfl⟩, hB6.trans (hbd.mono (Nat.le_trans hN hB6.size))⟩
          · have HV := Lib.hid (show decide (exs = fxs) = false from decide_eq_false hv)
            have HNV := Lib.hid hv
            clear hv
            go_wp2
            go_region_held3 (fun W => W.cell? ⟨b, off + i * 4, none⟩ = some (.int .i64 eq) ∧ W.cell? ⟨b, off + i * 4 + 1, none⟩ = some (.int .i64 eM) ∧ W.cell? ⟨b, off + i * 4 + 2, none⟩ = some (.slice eA en ec) ∧ W.cell? ⟨b, off + i * 4 + 3, none⟩ = some (.int .i64 eK) ∧ W.cell? ⟨b, off + (i + 1) * 4, none⟩ = some (.int .i64 fq) ∧ W.cell? ⟨b, off + (i + 1) * 4 + 1, none⟩ = some (.int .i64 fM) ∧ W.cell? ⟨b, off + (i + 1) * 4 + 2, none⟩ = some (.slice fA en fc) ∧ W.cell? ⟨b, off + (i + 1) * 4 + 3, none⟩ = some (.int .i64 fK)) (first | with_reducible exact ⟨x0, x1, x2, x3, y0, y1, y2, y3⟩ | with_reducible exact ⟨z0, z1, z2, z3, z4, z5, z6, z7⟩ | go_keep) (first | (go_at_call 120; refine (same_slope _ _ _ _ _ _ exs _ _ _ _ _ fxs _ hin hin').mono ?_; rintro e w9 ⟨rfl, q9, os9, hw9⟩; have hb : Below wr.drew.heap.size wr.drew w9 := (by rw [hw9]; exact below_grow q9 os9); clear hw9; rw [HV.out]; have hbe := (Below.refl wr.heap.size wr).drew.trans hb; have z0 := (hbe.cell (p := ⟨b, off + i * 4, none⟩) hblt).trans x0; have z1 := (hbe.cell (p := ⟨b, off + i * 4 + 1, none⟩) hblt).trans x1; have z2 := (hbe.cell (p := ⟨b, off + i * 4 + 2, none⟩) hblt).trans x2; have z3 := (hbe.cell (p := ⟨b, off + i * 4 + 3, none⟩) hblt).trans x3; have z4 := (hbe.cell (p := ⟨b, off + (i + 1) * 4, none⟩) hblt).trans y0; have z5 := (hbe.cell (p := ⟨b, off + (i + 1) * 4 + 1, none⟩) hblt).trans y1; have z6 := (hbe.cell (p := ⟨b, off + (i + 1) * 4 + 2, none⟩) hblt).trans y2; have z7 := (hbe.cell (p := ⟨b, off + (i + 1) * 4 + 3, none⟩) hblt).trans y3; replace hbd := hbd.trans (hb.mono hbd.size)))
            all_goals
              go_wp2
              go_roundw
              case rel => exact ⟨i + 1, by omega, by go_num, (fun j x y hj hx hy => by
                rcases Nat.lt_or_eq_of_le (Nat.le_of_lt_succ hj) with h | rfl
                · exact HNC.out j x y h hx hy
                · rw [HEJ.out] at hx; rw [HEJ2.out] at hy; cases hx; cases hy; exact HNV.out), hbd⟩
              case measure => simp [intOf]; omega
        · have hcl : clashD (eqsD (els.map CEl.d)) = false := by
            rw [← HQ.out.1]
            refine clash_none fun j a b hj ha hb => ?_
            rw [List.length_map] at hj
            rw [List.getElem?_map] at ha hb
            obtain ⟨x, hx, rfl⟩ := Option.map_eq_some_iff.1 ha
            obtain ⟨y, hy, rfl⟩ := Option.map_eq_some_iff.1 hb
            exact HNC.out j x y (by omega) hx hy
          have HCL := Lib.hid hcl
          have HCA := Lib.hid (HQ.out.2.2.2 hcl)
          have hge : ¬ ((i : Int) < (Q.length : Int) - 1) := by omega
          have CR8 := CR.step hbr
          have CD8 := CD.step hbr
          have CQ8 := CQ.step hbr
          have hB8 := hB6.trans (hbr.mono (Nat.le_trans hN hB6.size))
          have hz8 := Nat.le_trans hz2 hbr.size
          have hrl : r.length ≤ 1000 := by have := HT.out.1.2; have := HKP.out.len; omega
          clear hcl C1 HNC hbr
          cases him : impVoid (eqsD (els.map CEl.d)) (restD (gesD (els.map CEl.d)))
          · have HIM := Lib.hid (show impVoid (Q.map CEl.d) (r.map CEl.d) = false by rw [HQ.out.1, HRD.out]; exact him)
            have HIV := Lib.hid him
            clear him
            go_wp2_with (first
              | (go_at_call 123; refine (unimp_no _ CQ8.conds HCA.out hQ5 CR8 HT.out.2.2 hz8 hrl CR6.out.1 CR6.out.2 SR.out HIM.out).mono ?_; rintro e w9 ⟨⟨A7, c7, r7, rfl, C7, S7, hd7, hn7⟩, hb9⟩; have HD7 := Lib.hid (And.intro hd7 hn7); have HS7 := Lib.hid S7; have CQ9 := CQ8.step hb9; have CD9 := CD8.step hb9; have hB9 := hB8.trans (hb9.mono (Nat.le_trans hN hB8.size)); have hr7 : r7.length ≤ 1000 := (by have h := congrArg List.length hd7; have h2 := imp_len (Q.map CEl.d) (r.map CEl.d); simp only [List.length_map] at h h2; omega); clear hd7 hn7 S7 hb9)
              | (go_at_call 119; refine (equal_all _ CD9 hc3.1 hc3.2 HKP.out.dN).mono ?_; rintro e w10 ⟨rfl, CD10, T10, hk10⟩; have CQ10 := CQ9.touch CD9 T10 DQD.out.symm; have C10 := C7.touch CD9 T10 (HGD.out _ _ _ _ C7); have hB10 := hB9.trans (T10.below CD9.addr (Nat.le_trans hN hB9.size)); have hd10 : (comp equalE D).length ≤ 1000 := (by have := HKP.out.len; omega); clear CQ9 CD9 T10 C7)
              | (go_at_call 52; refine (concat_three w10 CQ10 SQ.out C10 HS7.out CD10 sane_some (by omega)).mono ?_; rintro e w11 ⟨A11, n11, c11, l11, rfl, hL11, hl11, hb11⟩; have HL11 := Lib.hid (And.intro hL11 hl11); have hn11 := Lib.hid hL11.conds.1; have hB11 := hB10.trans (hb11.mono (Nat.le_trans hN hB10.size)); have hz11 := Nat.le_trans hN hB10.size; clear hL11 hl11))
            go_ret2
            refine ⟨.inr ⟨_, A11, l11, c11, settle_ok HPV.out HCL.out HIV.out, by rw [hn11.out]; rfl, by have := HL11.out.1.mono (Nat.le_refl N0) hz11; rwa [hn11.out] at this, ?_, ?_⟩, hB11⟩
            · rw [HL11.out.2, List.map_append, List.map_append, HQ.out.1, HD7.out.1, HQ.out.1, HRD.out, comp_map equalE CEl.d equalD (fun a b => rfl), HKP.out.v]
            · intro e he
              rw [HL11.out.2] at he
              rcases List.mem_append.1 he with h | h
              · rcases List.mem_append.1 h with h | h
                · exact (HQ.out.2.1 e h).1
                · exact HD7.out.2 e h
              · exact HKP.out.dN e (comp_mem h)
          · have HIM := Lib.hid (show impVoid (Q.map CEl.d) (r.map CEl.d) = true by rw [HQ.out.1, HRD.out]; exact him)
            have HIV := Lib.hid him
            clear him
            go_wp2_with (go_at_call 123; refine (unimp_yes _ CQ8.conds HCA.out hQ5 CR8 HT.out.2.2 hz8 hrl CR6.out.1 CR6.out.2 SR.out HIM.out).mono ?_; rintro e w9 ⟨rfl, hb9⟩)
            go_ret2
            exact ⟨.inl ⟨settle_im HPV.out HCL.out HIV.out, rfl⟩, hB8.trans (hb9.mono (Nat.le_trans hN hB8.size))⟩
  · have HPV := Lib.hid hpv
    clear hpv
    go_enter Tryz.func95, Tryz.ntmps95
    go_wp2_with (first | (go_at_call 118; refine (kinds_all _ V0 hmc hc).mono ?_; rintro e w1 ⟨E, G, D, o1, o2, o3, c3, rfl, hc3, ⟨V1, V2, V3⟩, ⟨D21, D23, D13⟩, hdat, hmem, hlen, hb1⟩; have HKP := Lib.hid (kp_of HN.out HS.out HL.out hdat hmem hlen); have hB1 : Below N w w1 := hb1.mono hN; clear hdat hmem hlen hb1; have hg1 : G.length ≤ 9223372036854775807 := (by have := HKP.out.len; omega)) | (go_at_call 119; (with_reducible (show Calls _ _ #[_, .func (.func 120) #[] #[]] _ _)); refine (slope_all _ V2 (Nat.le_refl _) hg1 HKP.out.gN).mono ?_; rintro e w2 ⟨rfl, W2, T2, hk2⟩; have U1 := V1.touch V2 T2 D21; have U3 := V3.touch V2 T2 D23; have hB2 := hB1.trans (T2.below V2.addr (Nat.le_trans hN hB1.size)); have hk9 : (comp sameE G).length ≤ 1000 := (by have := HKP.out.len; omega); clear V1 V2 V3 T2) | (go_at_call 121; refine (paired_yes _ W2.conds W2.rows hk9 HKP.out.calm (by rw [HKP.out.g]; exact HPV.out)).mono ?_; rintro e w3 ⟨rfl, hb3⟩))
    go_ret2
    exact ⟨.inl ⟨settle_pv HPV.out, rfl⟩, hB2.trans (hb3.mono (Nat.le_trans hN hB2.size))⟩
end Go.Proofs.YtkgnlloioaobiaaGreat

/-
  wide.normals.
-/
namespace Go.Proofs.YtkgnlloioaobiaaGreat
open Go.RowKit
set_option linter.unusedVariables false
set_option maxRecDepth 100000
set_option linter.unusedSimpArgs false

/-- A condition that may be normalized. -/
def PreC (n : Nat) (e : CEl) : Prop := e.n = n ∧ KindOk e.q e.M ∧ (-4611686018427387904 ≤ e.K ∧ e.K ≤ 4611686018427387904) ∧ ∀ x ∈ e.xs, -4611686018427387904 ≤ x ∧ x ≤ 4611686018427387904
/-- The answer of normals. -/
def NormalsRet (w : World) (e : Ending) (w' : World) (n : Nat) (ds : List CD) : Prop :=
  ((normVoid n ds = true ∧ e = .returned (.tuple #[.slice none 0 0, .bool false, .bool true])) ∨
    (normVoid n ds = false ∧ ∃ g l c, e = .returned (.tuple #[.slice (some ⟨g, 0, none⟩) l.length c, .bool (normFits n ds), .bool false]) ∧ CL w.heap.size w' (.slice (some ⟨g, 0, none⟩) l.length c) l ∧ l.map CEl.d = normOut n ds ∧ ∀ e ∈ l, e.n = n)) ∧ Below w.heap.size w w'
theorem never_yes {n : Nat} {ds : List CD} {i : Nat} {d : CD} (h : ds[i]? = some d) (hs : neverD n d = true) : normVoid n ds = true := by
  unfold normVoid
  rw [List.any_eq_true]
  exact ⟨d, List.mem_of_getElem? h, hs⟩
theorem never_no {n : Nat} {ds : List CD} (h : ∀ j d, j < ds.length → ds[j]? = some d → neverD n d = false) : normVoid n ds = false := any_none h
theorem fits_snoc {n i : Nat} {ds : List CD} {d : CD} (h : ds[i]? = some d) : normFits n (ds.take (i + 1)) = (normFits n (ds.take i) && (openD n d).all fitD) := by
  unfold normFits normOut
  rw [flat_snoc (openD n) h, List.all_append]


set_option maxHeartbeats 8000000 in
theorem wide_normals {n : Nat} {A : Option Addr} {m c : Nat} {els0 : List CEl} (w : World) (C0 : CondsAt w A m els0) (hpre : ∀ e ∈ els0, PreC n e) (hm : m ≤ 1000) :
    Calls Tryz.prog 92 #[.slice A m c] w fun e w' => NormalsRet w e w' n (els0.map CEl.d) := by
  obtain ⟨i0, hi0, hz0, hz1, hz2⟩ := info_parts infoCond
  have HL := Lib.hid C0.len
  have HP := Lib.hid hpre
  obtain ⟨ds, hds⟩ : ∃ ds, els0.map CEl.d = ds := ⟨_, rfl⟩
  rw [hds]
  have HD := Lib.hid hds
  have HDL := Lib.hid (show ds.length = m by rw [← hds, List.length_map]; exact C0.len)
  clear hpre hds
  go_enter Tryz.func92, Tryz.ntmps92
  go_wp2_with (refine wpList_make_own _ rfl _ _ 34 rfl w.heap.size 56 i0 (.agg #[.int .i64 0, .int .i64 0, .slice none 0 0, .int .i64 0]) 4 Tryz.underlying34 hi0 hz0 hz1 .i64 .i64 (m : Int) m rfl rfl rfl (by rw [hz2]; omega) (by unfold maxLen; omega) (Nat.le_refl _) ?_; intro w2 hown2 hgr2)
  have hB2 : Below w.heap.size w w2 := (Below.refl _ w).grown hgr2 (Nat.le_refl _) (fun k e => nomatch e)
  have hL2 : CL w.heap.size w2 (.slice (some ⟨w.heap.size, 0, none⟩) ([] : List CEl).length m) [] := ⟨hown2, by simp, (fun e h => nomatch h), (fun e h => nomatch h)⟩
  clear hown2 hgr2
  go_loopw [2, 3, 14] (fun u f v wr => ∃ (i : Nat) (g' : Nat) (els : List CEl) (cap : Nat), i ≤ m ∧ v = .int .i64 i ∧ u = .slice (some ⟨g', 0, none⟩) els.length cap ∧ f = .bool (normFits n (ds.take i)) ∧ CL w.heap.size wr (.slice (some ⟨g', 0, none⟩) els.length cap) els ∧ els.map CEl.d = normOut n (ds.take i) ∧ (∀ e ∈ els, e.n = n) ∧ els.length ≤ i ∧ (∀ j d, j < i → ds[j]? = some d → neverD n d = false) ∧ Below w.heap.size w wr) (fun _ _ v _ => m - (intOf v).toNat)
  case atStart => exact ⟨0, w.heap.size, [], m, Nat.zero_le _, rfl, rfl, rfl, hL2, rfl, (fun e h => nomatch h), Nat.zero_le _, (fun j d h => absurd h (by omega)), hB2⟩
  clear hL2 hB2
  case round =>
    obtain ⟨i, g', els, cap, hi, rfl, rfl, rfl, hL, hd, hn, hel, hnv, hbr⟩ := hrel
    have HD3 := Lib.hid (And.intro hd (And.intro hn hnv))
    have C1 := C0.step hbr
    have hNs := hbr.size
    obtain ⟨fb, hfb⟩ : ∃ fb, normFits n (ds.take i) = fb := ⟨_, rfl⟩
    have HFB := Lib.hid hfb
    rw [hfb]
    clear hd hn hnv hfb
    generalize hk9 : els.length = k9 at *
    have HK9 := Lib.hid hk9
    clear hk9
    by_cases hlt : i < m
    · obtain ⟨b, off, e, rfl, hblt, hej, hmem, hcs, hin⟩ := C1.at hlt
      obtain ⟨x0, x1, x2, x3⟩ := hcs
      obtain ⟨ok0, ok1, ok2, ok3⟩ := HP.out e hmem
      have ok4 := (C0.ints e hmem).len
      obtain ⟨eq, eM, eA, en, ec, eK, exs⟩ := e
      simp only at x0 x1 x2 x3 hin ok0 ok1 ok2 ok3 ok4
      subst ok0
      have hdj : ds[i]? = some ⟨eq, eM, exs, eK⟩ := by rw [← HD.out, List.getElem?_map, hej]; rfl
      have HJ := Lib.hid hdj
      have hq1 : (i : Int) < m := by omega
      have HN := Lib.hid (fun W (h : IntsAt W eA en exs) => wide_normal eq eM eA en ec eK exs ok1 ok2 ok3 W h)
      have hst := nf_state (K := eK) ok4 ok1
      have hbd : neverD en ⟨eq, eM, exs, eK⟩ = decide ((nf eq eM en exs eK).2.2.2.2 = -1) := rfl
      have hone : openD en ⟨eq, eM, exs, eK⟩ = if (nf eq eM en exs eK).2.2.2.2 = 0 then [⟨(nf eq eM en exs eK).1, (nf eq eM en exs eK).2.1, (nf eq eM en exs eK).2.2.1, (nf eq eM en exs eK).2.2.2.1⟩] else [] := rfl
      obtain ⟨r, hr⟩ : ∃ r, nf eq eM en exs eK = r := ⟨_, rfl⟩
      rw [hr] at HN hst hbd hone
      have b1 := below_alloc wr (.cells #[.int .i64 eq, .int .i64 eM, .slice eA en ec, .int .i64 eK] 56)
      have y1 := hin.step b1
      have L1 := hL.step b1
      have S2 := CBox.new wr eq eM eA en ec eK
      have s0 := S2.c0
      have s1 := S2.c1
      have s2 := S2.c2
      have s3 := S2.c3
      have hbr1 := hbr.trans (b1.mono hNs)
      clear hdj hr ok1 ok2 ok3 ok4 hej hmem hin hL b1
      rcases hst with ⟨hs, hX, hM5⟩ | hs | hs
      · rw [if_pos hs] at hone
        rw [hs] at hbd
        obtain ⟨vb, hvb⟩ : ∃ vb, validB r.2.2.1 r.2.2.2.1 = vb := ⟨_, rfl⟩
        have HV5 := Lib.hid hvb
        have HB := Lib.hid (And.intro hone hbd)
        have HF := Lib.hid (show normFits en (ds.take (i + 1)) = (fb && vb) by rw [fits_snoc HJ.out, HFB.out, hone, ← hvb]; simp [fitD])
        clear hone hbd hvb
        cases fb
        all_goals
          go_wp2_with (first
            | (go_at_call 100; refine (HN.out _ y1).mono ?_; rintro e w4 ⟨A4, n4, c4, rfl, I4, hb4, O4⟩; obtain rfl : n4 = en := I4.len.symm.trans hX; have b5 := below_alloc w4 (.cells #[.int .i64 r.1, .int .i64 r.2.1, .slice A4 n4 c4, .int .i64 r.2.2.2.1] 56); have R4 := ((FreshRow.ok O4 hbr1.size).step b5); replace I4 := I4.step b5; have X7 := CBox.new w4 r.1 r.2.1 A4 n4 c4 r.2.2.2.1; have d0 := X7.c0; have d1 := X7.c1; have d2 := X7.c2; have d3 := X7.c3; have L5 := (L1.step hb4).step b5; have hbr5 := (hbr1.trans (hb4.mono hbr1.size)).trans (b5.mono (Nat.le_trans hbr1.size hb4.size)); have b7 := below_alloc (w4.alloc (.cells #[.int .i64 r.1, .int .i64 r.2.1, .slice A4 n4 c4, .int .i64 r.2.2.2.1] 56)) (.cells #[.int .i64 r.1, .int .i64 r.2.1, .slice A4 n4 c4, .int .i64 r.2.2.2.1] 56); have L7 := L5.step b7; have I7 := I4.step b7; have R7 := R4.step b7; have G7 := heap_alloc_new (w4.alloc (.cells #[.int .i64 r.1, .int .i64 r.2.1, .slice A4 n4 c4, .int .i64 r.2.2.2.1] 56)) (.cells #[.int .i64 r.1, .int .i64 r.2.1, .slice A4 n4 c4, .int .i64 r.2.2.2.1] 56); rw [World.size_alloc] at G7; have hbr7 := hbr5.trans (b7.mono hbr5.size); have hN7 := hbr7.size)
            | (go_at_call 101; refine (wide_fits _ _ _ _ _ _ _ hM5 _ I4).mono ?_; rintro e w5 ⟨rfl, hb6⟩; rw [HV5.out]; replace b7 := below_alloc w5 (.cells #[.int .i64 r.1, .int .i64 r.2.1, .slice A4 n4 c4, .int .i64 r.2.2.2.1] 56); replace G7 := heap_alloc_new w5 (.cells #[.int .i64 r.1, .int .i64 r.2.1, .slice A4 n4 c4, .int .i64 r.2.2.2.1] 56); replace hbr7 := hbr5.trans (hb6.mono hbr5.size); replace hbr7 := hbr7.trans (b7.mono hbr7.size); replace L7 := (L5.step hb6).step b7; replace I7 := (I4.step hb6).step b7; replace R7 := (R4.step hb6).step b7; replace X7 := X7.step hb6; have d0 := X7.c0; have d1 := X7.c1; have d2 := X7.c2; have d3 := X7.c3; replace hN7 := hbr7.size)
            | (at_builtin; refine wpList_append_cond rfl _ _ 34 rfl rfl rfl L7 _ ⟨r.1, r.2.1, A4, n4, c4, r.2.2.2.1, r.2.2.1⟩ rfl G7 I7 R7 (by have := HK9.out; omega) hN7 ?_; intro g8 cap8 w8 L8 gr8 hb8; replace hbr7 := hbr7.trans hb8))
          go_roundw
          case rel => exact ⟨i + 1, g8, els ++ [⟨r.1, r.2.1, A4, n4, c4, r.2.2.2.1, r.2.2.1⟩], cap8, by omega, by go_num, by rw [List.length_append]; rfl, by rw [HF.out]; simp, by rw [List.length_append]; exact L8, by unfold normOut; rw [flat_snoc _ HJ.out, HB.out.1, List.map_append, HD3.out.1]; rfl, (fun e he => by
            rcases List.mem_append.1 he with h | h
            · exact HD3.out.2.1 e h
            · rw [List.mem_singleton.1 h]), by rw [List.length_append]; have := HK9.out; simp; omega, (fun j d hj hjd => by
            rcases Nat.lt_or_eq_of_le (Nat.le_of_lt_succ hj) with h | rfl
            · exact HD3.out.2.2 j d h hjd
            · rw [HJ.out] at hjd; cases hjd; rw [HB.out.2]; decide), hbr7⟩
          case measure => simp [intOf]; omega
      · rw [if_neg (by rw [hs]; decide)] at hone
        rw [hs] at hbd
        have HB := Lib.hid (And.intro hone hbd)
        have HF := Lib.hid (show normFits en (ds.take (i + 1)) = fb by rw [fits_snoc HJ.out, HFB.out, hone]; simp)
        clear hone hbd
        go_wp2_with (go_at_call 100; refine (HN.out _ y1).mono ?_; rintro e w4 ⟨A4, n4, c4, rfl, I4, hb4, O4⟩; have b5 := below_alloc w4 (.cells #[.int .i64 r.1, .int .i64 r.2.1, .slice A4 n4 c4, .int .i64 r.2.2.2.1] 56); have L5 := (L1.step hb4).step b5; have hbr5 := (hbr1.trans (hb4.mono hbr1.size)).trans (b5.mono (Nat.le_trans hbr1.size hb4.size)))
        go_roundw
        case rel => exact ⟨i + 1, g', els, cap, by omega, by go_num, by rw [HK9.out], by rw [HF.out], by rw [HK9.out]; exact L5, by unfold normOut; rw [flat_snoc _ HJ.out, HB.out.1, List.append_nil]; exact HD3.out.1, HD3.out.2.1, by have := HK9.out; omega, (fun j d hj hjd => by
          rcases Nat.lt_or_eq_of_le (Nat.le_of_lt_succ hj) with h | rfl
          · exact HD3.out.2.2 j d h hjd
          · rw [HJ.out] at hjd; cases hjd; rw [HB.out.2]; decide), hbr5⟩
        case measure => simp [intOf]; omega
      · rw [hs] at hbd
        have HNV := Lib.hid (never_yes HJ.out (by rw [hbd]; decide))
        clear hone hbd
        go_wp2_with (go_at_call 100; refine (HN.out _ y1).mono ?_; rintro e w4 ⟨A4, n4, c4, rfl, I4, hb4, O4⟩; have b5 := below_alloc w4 (.cells #[.int .i64 r.1, .int .i64 r.2.1, .slice A4 n4 c4, .int .i64 r.2.2.2.1] 56); have hbr5 := (hbr1.trans (hb4.mono hbr1.size)).trans (b5.mono (Nat.le_trans hbr1.size hb4.size)))
        go_ret3
        exact ⟨.inl ⟨HNV.out, rfl⟩, hbr5⟩
    · obtain rfl : i = m := by omega
      have hall : ds.take i = ds := List.take_of_length_le (by rw [HDL.out]; exact Nat.le_refl _)
      have HV := Lib.hid (never_no (n := n) (ds := ds) (fun j d hj hd => HD3.out.2.2 j d (by rw [← HDL.out]; exact hj) hd))
      have HE := Lib.hid (show els.map CEl.d = normOut n ds by have := HD3.out.1; rw [hall] at this; exact this)
      have HFF := Lib.hid (show normFits n ds = fb by rw [← HFB.out, hall])
      have hge : ¬ ((i : Int) < i) := by omega
      clear hall
      go_wp2
      go_ret3
      exact ⟨.inr ⟨HV.out, g', els, cap, by rw [HK9.out, HFF.out]; rfl, by rw [HK9.out]; exact hL, HE.out, HD3.out.2.1⟩, hbr⟩
end Go.Proofs.YtkgnlloioaobiaaGreat

/-
  slices.SortFunc at no element.
-/
namespace Go.Proofs.YtkgnlloioaobiaaGreat
open Go.Shelf Go.RowKit Go.Lib Go.Sort
set_option linter.unusedVariables false
set_option maxRecDepth 100000
set_option linter.unusedSimpArgs false

theorem insertion_none (p : Option Addr) (cap : Nat) (fv : Value) (w : World) :
    Calls Tryz.prog 134 #[.slice p 0 cap, .int .i64 0, .int .i64 0, fv] w fun e w' => e = .returned (.tuple #[]) ∧ w' = w := by
  go_enter Tryz.func134, Tryz.ntmps134
  go_wp2
  refine wp_loop_rounds 1 ?_
  rw [rounds_succ]
  go_wp2
  go_end0
  exact ⟨rfl, rfl⟩
set_option maxHeartbeats 2000000 in
theorem pdq_none (p : Option Addr) (cap : Nat) (lim : Int) (fv : Value) (w : World) :
    Calls Tryz.prog 113 #[.slice p 0 cap, .int .i64 0, .int .i64 0, .int .i64 lim, fv] w fun e w' => e = .returned (.tuple #[]) ∧ w' = w := by
  go_enter Tryz.func113, Tryz.ntmps113
  go_wp2
  refine wp_loop_rounds 1 ?_
  rw [rounds_succ]
  go_wp2_with (go_at_call 134; refine (insertion_none p cap fv _).mono ?_; rintro e w' ⟨rfl, rfl⟩)
  (try simp only [Exit.inBlock, Exit.then]); refine bodyPost_ret (results_none rfl _ _ _) rfl ?_
  exact ⟨rfl, rfl⟩
theorem bits_zero (W : World) : Calls Tryz.prog 114 #[.int .u64 0] W fun e w' => e = .returned (.int .i64 (Lib.bitLen 0 : Nat)) ∧ w' = W :=
  Any.bits_Len (SlLaysF0.n15.bits { sortCond with }) 0 W (by omega) (by omega)
set_option maxHeartbeats 2000000 in
theorem sort_none (p : Option Addr) (cap : Nat) (fv : Value) (w : World) :
    Calls Tryz.prog 93 #[.slice p 0 cap, fv] w fun e w' => e = .returned (.tuple #[]) ∧ w' = w := by
  go_enter Tryz.func93, Tryz.ntmps93
  go_wp2_with (first | (go_at_call 114; refine (bits_zero _).mono ?_; rintro e w' ⟨rfl, rfl⟩) | (go_at_call 113; refine (pdq_none p cap _ fv _).mono ?_; rintro e w' ⟨rfl, rfl⟩))
  go_end0
  exact ⟨rfl, rfl⟩
end Go.Proofs.YtkgnlloioaobiaaGreat

/-
  wide.Piece.
-/
namespace Go.Proofs.YtkgnlloioaobiaaGreat
open Go.RowKit
set_option linter.unusedVariables false
set_option maxRecDepth 100000
set_option linter.unusedSimpArgs false

theorem sort_any {N0 N : Nat} {w : World} {g m cap n : Nat} {els : List CEl} (h : CL2 N0 N w (.slice (some ⟨g, 0, none⟩) m cap) els) (hn : ∀ e ∈ els, e.n = n) (hq : ∀ e ∈ els, e.q = 0 ∨ e.q = 1 ∨ e.q = 2) (hN : N ≤ w.heap.size) :
    Calls Tryz.prog 93 #[.slice (some ⟨g, 0, none⟩) m cap, .func (.func 94) #[] #[]] w fun e w' => e = .returned (.tuple #[]) ∧
      ∃ els', CL2 N0 N w' (.slice (some ⟨g, 0, none⟩) m cap) els' ∧ els'.Perm els ∧ els'.map CEl.d = sortD (els.map CEl.d) ∧ Below N w w' := by
  rcases Nat.eq_zero_or_pos els.length with h0 | h0
  · have hm := h.conds.1
    rw [h0] at hm
    subst hm
    obtain rfl : els = [] := List.length_eq_zero_iff.1 h0
    refine (sort_none _ _ _ _).mono ?_
    rintro e w' ⟨rfl, rfl⟩
    exact ⟨rfl, [], h, List.Perm.refl _, rfl, Below.refl _ _⟩
  · exact sort_owned h h0 hn hq hN

/-- A condition that may be normalized, with numbers that are not too great. -/
def PreB (n : Nat) (e : CEl) : Prop := e.n = n ∧ KindOk e.q e.M ∧ (-2305843009213693952 ≤ e.K ∧ e.K ≤ 2305843009213693952) ∧ ∀ x ∈ e.xs, -2305843009213693952 ≤ x ∧ x ≤ 2305843009213693952
theorem PreB.c {n : Nat} {e : CEl} (h : PreB n e) : PreC n e := ⟨h.1, h.2.1, by have := h.2.2.1; omega, fun x hx => by have := h.2.2.2 x hx; omega⟩
theorem abs_le {x y : Int} {B : Int} (hx : -B ≤ x ∧ x ≤ B) (h : y.natAbs ≤ x.natAbs) : -B ≤ y ∧ y ≤ B := by omega
theorem tdiv_abs (x d : Int) : (x.tdiv d).natAbs ≤ x.natAbs := by
  rw [Int.natAbs_tdiv]
  exact Nat.div_le_self _ _
theorem tab_mem {n : Nat} {f : Nat → Int} {z : Int} (h : z ∈ (List.range n).map f) : ∃ j, j < n ∧ z = f j := by
  obtain ⟨j, hj, rfl⟩ := List.mem_map.1 h
  exact ⟨j, List.mem_range.1 hj, rfl⟩
theorem norm_one {n : Nat} {d : CD} (hl : d.xs.length = n) (hq : KindOk d.q d.M) (hk : -2305843009213693952 ≤ d.K ∧ d.K ≤ 2305843009213693952) (hx : ∀ x ∈ d.xs, -2305843009213693952 ≤ x ∧ x ≤ 2305843009213693952) : ∀ z ∈ openD n d, NormD n z := by
  obtain ⟨q, M, xs, K⟩ := d
  simp only at hl hq hk hx
  have hxj : ∀ j : Nat, -2305843009213693952 ≤ xs[j]?.getD 0 ∧ xs[j]?.getD 0 ≤ 2305843009213693952 := fun j => by
    by_cases hj : j < xs.length
    · exact hx _ (getD_mem hj)
    · have : xs[j]?.getD 0 = 0 := by simp [hj]
      omega
  intro z hz
  unfold openD at hz
  split at hz
  · rename_i h0
    rw [List.mem_singleton] at hz
    subst hz
    unfold nfD nf at h0 ⊢
    simp only at h0 ⊢
    rcases hq with rfl | rfl | ⟨rfl, hM⟩
    · rw [if_pos rfl] at h0 ⊢
      by_cases hg : gcdA 0 xs = 0
      · rw [if_pos hg] at h0
        simp only at h0
        split at h0 <;> omega
      · rw [if_neg hg] at h0 ⊢
        refine ⟨.inl rfl, fun _ => rfl, by simp [quoL], fun y hy => ?_, ?_, ?_⟩
        · obtain ⟨j, hj, rfl⟩ := tab_mem hy
          exact abs_le (hxj j) (tdiv_abs _ _)
        · exact abs_le hk (floor_abs K _ (by omega))
        · exact ⟨show (0 : Int) ≤ 0 by decide, show (0 : Int) ≤ 512 by decide⟩
    · rw [if_neg (by decide), if_pos rfl] at h0 ⊢
      by_cases hg : gcdA 0 xs = 0
      · rw [if_pos hg] at h0
        simp only at h0
        split at h0 <;> omega
      · rw [if_neg hg] at h0 ⊢
        by_cases hr : K.tmod (gcdA 0 xs : Nat) ≠ 0
        · rw [if_pos hr] at h0
          simp at h0
        · rw [if_neg hr]
          refine ⟨.inr (.inl rfl), fun _ => rfl, by simp [quoL], fun y hy => ?_, ?_, ⟨show (0 : Int) ≤ 0 by decide, show (0 : Int) ≤ 512 by decide⟩⟩
          · obtain ⟨j, hj, rfl⟩ := tab_mem hy
            exact abs_le (hxj j) (tdiv_abs _ _)
          · exact abs_le hk (tdiv_abs _ _)
    · rw [if_neg (by decide), if_neg (by decide)] at h0 ⊢
      by_cases hr : (K % M) % (gcdA M.natAbs xs : Int) ≠ 0
      · rw [if_pos hr] at h0
        simp at h0
      · rw [if_neg hr] at h0 ⊢
        by_cases he : (gcdA M.natAbs xs : Int) = M
        · rw [if_pos he] at h0
          simp at h0
        · rw [if_neg he]
          have hdiv : ∀ a : Int, 0 ≤ a → a < M → -2305843009213693952 ≤ a / (gcdA M.natAbs xs : Int) ∧ a / (gcdA M.natAbs xs : Int) ≤ 2305843009213693952 := fun a ha hb => by
            have h1 : 0 ≤ a / (gcdA M.natAbs xs : Int) := Int.ediv_nonneg ha (Int.natCast_nonneg _)
            have h2 : a / (gcdA M.natAbs xs : Int) ≤ a := Int.ediv_le_self _ ha
            omega
          refine ⟨.inr (.inr rfl), fun h => absurd rfl h, by simp [remL], fun y hy => ?_, ?_, ⟨Int.ediv_nonneg (by omega) (Int.natCast_nonneg _), Int.le_trans (Int.ediv_le_self _ (by omega)) hM.2⟩⟩
          · obtain ⟨j, hj, rfl⟩ := tab_mem hy
            exact hdiv _ (Int.emod_nonneg _ (by omega)) (Int.emod_lt_of_pos _ (by omega))
          · exact hdiv _ (Int.emod_nonneg _ (by omega)) (Int.emod_lt_of_pos _ (by omega))
  · cases hz
theorem norm_all {n : Nat} {els : List CEl} {w : World} (hi : ∀ e ∈ els, IntsAt w e.A e.n e.xs) (hp : ∀ e ∈ els, PreB n e) : ∀ z ∈ normOut n (els.map CEl.d), NormD n z := fun z hz => by
  unfold normOut at hz
  obtain ⟨d, hd, hz⟩ := List.mem_flatMap.1 hz
  obtain ⟨e, he, rfl⟩ := List.mem_map.1 hd
  obtain ⟨h0, h1, h2, h3⟩ := hp e he
  exact norm_one ((hi e he).len.trans h0) h1 h2 h3 z hz

theorem normals_yes {n : Nat} {A : Option Addr} {m c : Nat} {els0 : List CEl} (w : World) (C0 : CondsAt w A m els0) (hpre : ∀ e ∈ els0, PreC n e) (hm : m ≤ 1000) (hv : normVoid n (els0.map CEl.d) = true) :
    Calls Tryz.prog 92 #[.slice A m c] w fun e w' => e = .returned (.tuple #[.slice none 0 0, .bool false, .bool true]) ∧ Below w.heap.size w w' := by
  refine (wide_normals w C0 hpre hm).mono ?_
  rintro e w' ⟨⟨_, rfl⟩ | ⟨h, _⟩, hb⟩
  · exact ⟨rfl, hb⟩
  · rw [hv] at h; cases h
theorem normals_no {n : Nat} {A : Option Addr} {m c : Nat} {els0 : List CEl} (w : World) (C0 : CondsAt w A m els0) (hpre : ∀ e ∈ els0, PreC n e) (hm : m ≤ 1000) (hv : normVoid n (els0.map CEl.d) = false) :
    Calls Tryz.prog 92 #[.slice A m c] w fun e w' => (∃ g l k c, e = .returned (.tuple #[.slice (some ⟨g, 0, none⟩) k c, .bool (normFits n (els0.map CEl.d)), .bool false]) ∧ CL w.heap.size w' (.slice (some ⟨g, 0, none⟩) k c) l ∧ l.map CEl.d = normOut n (els0.map CEl.d) ∧ ∀ e ∈ l, e.n = n) ∧ Below w.heap.size w w' := by
  refine (wide_normals w C0 hpre hm).mono ?_
  rintro e w' ⟨⟨h, _⟩ | ⟨_, g, l, c', rfl, h1, h2, h3⟩, hb⟩
  · rw [hv] at h; cases h
  · exact ⟨⟨g, l, _, c', rfl, h1, h2, h3⟩, hb⟩
theorem settled_none {N0 N n g m c : Nat} {els : List CEl} (w : World) (hL : CL2 N0 N w (.slice (some ⟨g, 0, none⟩) m c) els) (hl : els.length ≤ 1000) (hn : ∀ e ∈ els, e.n = n ∧ NormD n e.d) (hs : Sorted (els.map CEl.d)) (hN : N ≤ w.heap.size) (hv : settleD (els.map CEl.d) = none) :
    Calls Tryz.prog 95 #[.slice (some ⟨g, 0, none⟩) m c] w fun e w' => e = .returned (.tuple #[.slice none 0 0, .bool true]) ∧ Below N w w' := by
  refine (wide_settled w hL hl hn hs hN).mono ?_
  rintro e w' ⟨⟨_, rfl⟩ | ⟨out, A, l, c', h, _⟩, hb⟩
  · exact ⟨rfl, hb⟩
  · rw [hv] at h; cases h
theorem settled_some {N0 N n g m c : Nat} {els : List CEl} {out : List CD} (w : World) (hL : CL2 N0 N w (.slice (some ⟨g, 0, none⟩) m c) els) (hl : els.length ≤ 1000) (hn : ∀ e ∈ els, e.n = n ∧ NormD n e.d) (hs : Sorted (els.map CEl.d)) (hN : N ≤ w.heap.size) (hv : settleD (els.map CEl.d) = some out) :
    Calls Tryz.prog 95 #[.slice (some ⟨g, 0, none⟩) m c] w fun e w' => (∃ A k c' l, e = .returned (.tuple #[.slice A k c', .bool false]) ∧ CL2 N0 N w' (.slice A k c') l ∧ l.map CEl.d = out ∧ ∀ e ∈ l, e.n = n) ∧ Below N w w' := by
  refine (wide_settled w hL hl hn hs hN).mono ?_
  rintro e w' ⟨⟨h, _⟩ | ⟨out', A, l, c', h, rfl, h1, h2, h3⟩, hb⟩
  · rw [hv] at h; cases h
  · rw [hv] at h
    cases h
    exact ⟨⟨A, _, c', l, rfl, h1, h2, h3⟩, hb⟩



/-- The answer of Piece. -/
def PieceRet (w : World) (e : Ending) (w' : World) (n : Nat) (r : List CD × Bool × Int) : Prop :=
  ∃ A k c l, e = .returned (.tuple #[.slice A k c, .bool r.2.1, .int .i64 r.2.2]) ∧ CL w.heap.size w' (.slice A k c) l ∧ l.map CEl.d = r.1 ∧ (∀ e ∈ l, e.n = n) ∧ Below w.heap.size w w'
/-- What Piece leaves is normalized. -/
theorem piece_norm {n : Nat} {ds : List CD} (h : ∀ z ∈ normOut n ds, NormD n z) : (∀ d ∈ (pieceD n ds).1, NormD n d) ∧ (pieceD n ds).1.length ≤ 96 := by
  unfold pieceD
  split
  · exact ⟨(fun d hd => nomatch hd), by simp⟩
  · split
    · exact ⟨(fun d hd => nomatch hd), by simp⟩
    · rename_i out hout
      split
      · exact ⟨(fun d hd => nomatch hd), by simp⟩
      · rename_i hb
        refine ⟨settle_norm (fun d hd => h d ((sortL_perm leD _).mem_iff.1 hd)) hout, ?_⟩
        rcases Nat.lt_or_ge 96 out.length with h1 | h1
        · exact absurd (.inr h1) hb
        · exact h1

set_option maxHeartbeats 8000000 in
theorem wide_piece {n : Nat} {A : Option Addr} {m c : Nat} {els0 : List CEl} (w : World) (C0 : CondsAt w A m els0) (hpre : ∀ e ∈ els0, PreB n e) (hm : m ≤ 1000) :
    Calls Tryz.prog 71 #[.slice A m c] w fun e w' => PieceRet w e w' n (pieceD n (els0.map CEl.d)) := by
  have HP := Lib.hid (fun e he => (hpre e he).c)
  have HNA := Lib.hid (norm_all C0.ints hpre)
  have HML := Lib.hid C0.len
  obtain ⟨ds, hds⟩ : ∃ ds, els0.map CEl.d = ds := ⟨_, rfl⟩
  rw [hds] at HNA ⊢
  have HD := Lib.hid hds
  have hdl : ds.length = m := by rw [← hds, List.length_map]; exact C0.len
  have HOL := Lib.hid (show (normOut n ds).length ≤ 1000 by
    have : ∀ l : List CD, (normOut n l).length ≤ l.length := by
      intro l
      induction l with
      | nil => exact Nat.le_refl _
      | cons a l ih =>
        have : (openD n a).length ≤ 1 := by unfold openD; split <;> simp
        unfold normOut at ih ⊢
        simp only [List.flatMap_cons, List.length_append, List.length_cons]
        omega
    have := this ds
    omega)
  clear hpre hdl
  cases hv : normVoid n ds
  · have HV := Lib.hid (show normVoid n (els0.map CEl.d) = false by rw [hds]; exact hv)
    obtain ⟨fb, hfb⟩ : ∃ fb, normFits n ds = fb := ⟨_, rfl⟩
    have HFE := Lib.hid (show normFits n (els0.map CEl.d) = fb by rw [hds, hfb])
    have HOE := Lib.hid (show normOut n (els0.map CEl.d) = normOut n ds by rw [hds])
    have HSO := Lib.hid (sorted_sort (n := n) (l := normOut n ds) (fun d hd => (HNA.out d hd).len))
    cases hst : settleD (sortD (normOut n ds)) with
    | none =>
      have HST := Lib.hid hst
      have HPD := Lib.hid (show pieceD n ds = ([], true, 0) by unfold pieceD; rw [if_neg (by rw [hv]; decide), hst])
      clear hv hds hst
      go_enter Tryz.func71, Tryz.ntmps71
      go_wp2_with (first | (go_at_call 92; refine (normals_no w C0 HP.out hm HV.out).mono ?_; rintro e w2 ⟨⟨g2, l2, k2, c2, rfl, hL2, hd2, hn2⟩, hb2⟩; rw [HFE.out]; rw [HOE.out] at hd2; have HD2 := Lib.hid (And.intro hd2 hn2); have HN2 := Lib.hid (show ∀ e ∈ l2, e.n = n ∧ NormD n e.d from fun e he => ⟨hn2 e he, HNA.out e.d (by rw [← hd2]; exact List.mem_map.2 ⟨e, he, rfl⟩)⟩); have HL2 := Lib.hid (show l2.length ≤ 1000 by have h := congrArg List.length hd2; rw [List.length_map] at h; rw [h]; exact HOL.out); clear hd2 hn2) | (go_at_call 93; refine (sort_any hL2 HD2.out.2 (fun e he => (HN2.out e he).2.q) hb2.size).mono ?_; rintro e w3 ⟨rfl, l3, hL3, hp3, hd3, hbs⟩; rw [HD2.out.1] at hd3; have hN3 : ∀ e ∈ l3, e.n = n ∧ NormD n e.d := (fun e he => HN2.out e (hp3.mem_iff.1 he)); have hl3 : l3.length ≤ 1000 := (by rw [hp3.length_eq]; exact HL2.out); have hb3 := hb2.trans hbs; clear hL2 hp3 hbs hb2) | (go_at_call 95; refine (settled_none w3 hL3 hl3 hN3 (by rw [hd3]; exact HSO.out) hb3.size (by rw [hd3]; exact HST.out)).mono ?_; rintro e w4 ⟨rfl, hb4⟩))
      go_ret3
      rw [HPD.out]
      exact ⟨none, 0, 0, [], rfl, CL.nil _ _, rfl, (fun e h => nomatch h), hb3.trans hb4⟩
    | some out =>
      have HST := Lib.hid hst
      cases fb
      · have HPD := Lib.hid (show pieceD n ds = ([], false, 3) by unfold pieceD; rw [if_neg (by rw [hv]; decide), hst]; exact if_pos (.inl hfb))
        clear hv hds hst hfb
        go_enter Tryz.func71, Tryz.ntmps71
        go_wp2_with (first | (go_at_call 92; refine (normals_no w C0 HP.out hm HV.out).mono ?_; rintro e w2 ⟨⟨g2, l2, k2, c2, rfl, hL2, hd2, hn2⟩, hb2⟩; rw [HFE.out]; rw [HOE.out] at hd2; have HD2 := Lib.hid (And.intro hd2 hn2); have HN2 := Lib.hid (show ∀ e ∈ l2, e.n = n ∧ NormD n e.d from fun e he => ⟨hn2 e he, HNA.out e.d (by rw [← hd2]; exact List.mem_map.2 ⟨e, he, rfl⟩)⟩); have HL2 := Lib.hid (show l2.length ≤ 1000 by have h := congrArg List.length hd2; rw [List.length_map] at h; rw [h]; exact HOL.out); clear hd2 hn2) | (go_at_call 93; refine (sort_any hL2 HD2.out.2 (fun e he => (HN2.out e he).2.q) hb2.size).mono ?_; rintro e w3 ⟨rfl, l3, hL3, hp3, hd3, hbs⟩; rw [HD2.out.1] at hd3; have hN3 : ∀ e ∈ l3, e.n = n ∧ NormD n e.d := (fun e he => HN2.out e (hp3.mem_iff.1 he)); have hl3 : l3.length ≤ 1000 := (by rw [hp3.length_eq]; exact HL2.out); have hb3 := hb2.trans hbs; clear hL2 hp3 hbs hb2) | (go_at_call 95; refine (settled_some w3 hL3 hl3 hN3 (by rw [hd3]; exact HSO.out) hb3.size (by rw [hd3]; exact HST.out)).mono ?_; rintro e w4 ⟨⟨A4, k4, c4, l4, rfl, hL4, hd4, hn4⟩, hbx⟩; have hb4 := hb3.trans hbx; have HK4 := Lib.hid (show k4 = out.length by rw [← hd4, List.length_map]; exact hL4.conds.1); have HL4 := Lib.hid (And.intro hL4 (And.intro hd4 hn4)); clear hL4 hd4 hn4 hbx))
        go_ret3
        rw [HPD.out]
        exact ⟨none, 0, 0, [], rfl, CL.nil _ _, rfl, (fun e h => nomatch h), hb4⟩
      · by_cases hlen : 96 < out.length
        · have HPD := Lib.hid (show pieceD n ds = ([], false, 3) by unfold pieceD; rw [if_neg (by rw [hv]; decide), hst]; exact if_pos (.inr hlen))
          have HLEN := Lib.hid hlen
          clear hv hds hst hfb hlen
          go_enter Tryz.func71, Tryz.ntmps71
          go_wp2_with (first | (go_at_call 92; refine (normals_no w C0 HP.out hm HV.out).mono ?_; rintro e w2 ⟨⟨g2, l2, k2, c2, rfl, hL2, hd2, hn2⟩, hb2⟩; rw [HFE.out]; rw [HOE.out] at hd2; have HD2 := Lib.hid (And.intro hd2 hn2); have HN2 := Lib.hid (show ∀ e ∈ l2, e.n = n ∧ NormD n e.d from fun e he => ⟨hn2 e he, HNA.out e.d (by rw [← hd2]; exact List.mem_map.2 ⟨e, he, rfl⟩)⟩); have HL2 := Lib.hid (show l2.length ≤ 1000 by have h := congrArg List.length hd2; rw [List.length_map] at h; rw [h]; exact HOL.out); clear hd2 hn2) | (go_at_call 93; refine (sort_any hL2 HD2.out.2 (fun e he => (HN2.out e he).2.q) hb2.size).mono ?_; rintro e w3 ⟨rfl, l3, hL3, hp3, hd3, hbs⟩; rw [HD2.out.1] at hd3; have hN3 : ∀ e ∈ l3, e.n = n ∧ NormD n e.d := (fun e he => HN2.out e (hp3.mem_iff.1 he)); have hl3 : l3.length ≤ 1000 := (by rw [hp3.length_eq]; exact HL2.out); have hb3 := hb2.trans hbs; clear hL2 hp3 hbs hb2) | ((go_at_call 95; refine (settled_some w3 hL3 hl3 hN3 (by rw [hd3]; exact HSO.out) hb3.size (by rw [hd3]; exact HST.out)).mono ?_; rintro e w4 ⟨⟨A4, k4, c4, l4, rfl, hL4, hd4, hn4⟩, hbx⟩; have hb4 := hb3.trans hbx; have HK4 := Lib.hid (show k4 = out.length by rw [← hd4, List.length_map]; exact hL4.conds.1); have HL4 := Lib.hid (And.intro hL4 (And.intro hd4 hn4)); clear hL4 hd4 hn4 hbx); have hk96 : (96 : Int) < (k4 : Int) := (by have := HK4.out; have := HLEN.out; omega)))
          go_ret3
          rw [HPD.out]
          exact ⟨none, 0, 0, [], rfl, CL.nil _ _, rfl, (fun e h => nomatch h), hb4⟩
        · have HPD := Lib.hid (show pieceD n ds = (out, false, 0) by unfold pieceD; rw [if_neg (by rw [hv]; decide), hst]; exact if_neg (by rw [hfb]; simpa using hlen))
          have HLEN := Lib.hid hlen
          clear hv hds hst hfb hlen
          go_enter Tryz.func71, Tryz.ntmps71
          go_wp2_with (first | (go_at_call 92; refine (normals_no w C0 HP.out hm HV.out).mono ?_; rintro e w2 ⟨⟨g2, l2, k2, c2, rfl, hL2, hd2, hn2⟩, hb2⟩; rw [HFE.out]; rw [HOE.out] at hd2; have HD2 := Lib.hid (And.intro hd2 hn2); have HN2 := Lib.hid (show ∀ e ∈ l2, e.n = n ∧ NormD n e.d from fun e he => ⟨hn2 e he, HNA.out e.d (by rw [← hd2]; exact List.mem_map.2 ⟨e, he, rfl⟩)⟩); have HL2 := Lib.hid (show l2.length ≤ 1000 by have h := congrArg List.length hd2; rw [List.length_map] at h; rw [h]; exact HOL.out); clear hd2 hn2) | (go_at_call 93; refine (sort_any hL2 HD2.out.2 (fun e he => (HN2.out e he).2.q) hb2.size).mono ?_; rintro e w3 ⟨rfl, l3, hL3, hp3, hd3, hbs⟩; rw [HD2.out.1] at hd3; have hN3 : ∀ e ∈ l3, e.n = n ∧ NormD n e.d := (fun e he => HN2.out e (hp3.mem_iff.1 he)); have hl3 : l3.length ≤ 1000 := (by rw [hp3.length_eq]; exact HL2.out); have hb3 := hb2.trans hbs; clear hL2 hp3 hbs hb2) | ((go_at_call 95; refine (settled_some w3 hL3 hl3 hN3 (by rw [hd3]; exact HSO.out) hb3.size (by rw [hd3]; exact HST.out)).mono ?_; rintro e w4 ⟨⟨A4, k4, c4, l4, rfl, hL4, hd4, hn4⟩, hbx⟩; have hb4 := hb3.trans hbx; have HK4 := Lib.hid (show k4 = out.length by rw [← hd4, List.length_map]; exact hL4.conds.1); have HL4 := Lib.hid (And.intro hL4 (And.intro hd4 hn4)); clear hL4 hd4 hn4 hbx); have hk96 : ¬ ((96 : Int) < (k4 : Int)) := (by have := HK4.out; have := HLEN.out; omega)))
          go_ret3
          rw [HPD.out]
          exact ⟨A4, k4, c4, l4, rfl, HL4.out.1, HL4.out.2.1, HL4.out.2.2, hb4⟩
  · have HV := Lib.hid (show normVoid n (els0.map CEl.d) = true by rw [hds]; exact hv)
    have HPD := Lib.hid (show pieceD n ds = ([], true, 0) by unfold pieceD; rw [if_pos hv])
    clear hv hds
    go_enter Tryz.func71, Tryz.ntmps71
    go_wp2_with (go_at_call 92; refine (normals_yes w C0 HP.out hm HV.out).mono ?_; rintro e w2 ⟨rfl, hb2⟩)
    go_ret3
    rw [HPD.out]
    exact ⟨none, 0, 0, [], rfl, CL.nil _ _, rfl, (fun e h => nomatch h), hb2⟩
end Go.Proofs.YtkgnlloioaobiaaGreat

/-
  (*wide.Union).Keep, Add, Pieces; wide.NewUnion.
-/
namespace Go.Proofs.YtkgnlloioaobiaaGreat
open Go.ChangeShapes Go.WideShapes Go.ChangeAt Go.RowKit Go.Maps
set_option linter.unusedVariables false
set_option maxRecDepth 100000
set_option linter.unusedSimpArgs false

theorem infoPc : (Tryz.prog.info? 34).map (fun i => (i.zero, i.size, i.bytes)) = some (some (.slice none 0 0), 1, 24) := by kernel_rfl
section
variable {n N : Nat} {w w1 w2 w3 : World} {b : Nat} {u v : Value} {r : Nat} {ps : List PEl}
/-- What a write into the map leaves. -/
theorem UN.mapped (h : UN n N w b u r ps) (hg : w.grownBy w1 (some r)) (hN : N ≤ w.heap.size) : w1.heap[b]? = some (.cells #[u, .map (some r)] 111 (0, 0)) ∧ w1.ownsRow N 34 1 u ps.length (ps.map PEl.v) ∧ KeepUR r w w1 ∧ Below N w w1 := by
  obtain ⟨D, ⟨es, clock, hm, _⟩, _⟩ := h.map
  have hne : ∀ (k : Nat) (cs : Array Value) (t : TypeId) (fz : Nat × Nat), w.heap[k]? = some (.cells cs t fz) → w1.heap[k]? = some (.cells cs t fz) := fun k cs t fz e => (hg.block k (Array.getElem?_eq_some_iff.1 e).1 fun e' => by
    cases e'
    rw [hm] at e
    cases e).trans e
  refine ⟨hne _ _ _ _ h.box, ⟨h.own.1, ?_⟩, ⟨⟨hg.size, fun k cs t fz e _ => hne k cs t fz e⟩, fun k ob hk e _ => (hg.block k (Array.getElem?_eq_some_iff.1 e).1 fun e' => hk (by cases e'; rfl)).trans e⟩, (Below.refl N w).grown hg hN fun k e => by cases e; exact h.hr⟩
  rcases h.own.2 with h0 | ⟨g, cap, cur, hv, hgN, hc, rest⟩
  · exact .inl h0
  · exact .inr ⟨g, cap, cur, hv, hgN, hne _ _ _ _ hc, rest⟩
/-- What an append of a piece and the store of the new list leave. -/
theorem UN.appended {p : PEl} (hbox : w2.heap[b]? = some (.cells #[u, .map (some r)] 111 (0, 0))) (hown : w2.ownsRow N 34 1 u ps.length (ps.map PEl.v)) {D : DataW Unit} {k : Nat} (hmap : w2.ownsMap Tryz.prog 9 (plainElem Tryz.prog 4) r k D) (hown3 : w3.ownsRow N 34 1 v (ps.length + 1) (ps.map PEl.v ++ [p.v])) (hg : w2.grownBy w3 u.ownBlock) (hN : N ≤ w2.heap.size) (hb : N ≤ b) :
    w3.heap[b]? = some (.cells #[u, .map (some r)] 111 (0, 0)) ∧ (w3.setCell ⟨b, 0, none⟩ v).heap[b]? = some (.cells #[v, .map (some r)] 111 (0, 0)) ∧ (w3.setCell ⟨b, 0, none⟩ v).ownsRow N 34 1 v (ps.length + 1) (ps.map PEl.v ++ [p.v]) ∧ (w3.setCell ⟨b, 0, none⟩ v).ownsMap Tryz.prog 9 (plainElem Tryz.prog 4) r k D ∧ KeepUR r w2 (w3.setCell ⟨b, 0, none⟩ v) ∧ Below N w2 (w3.setCell ⟨b, 0, none⟩ v) := by
  have hrow : ∀ j, u.ownBlock = some j → N ≤ j ∧ ∃ cur, w2.heap[j]? = some (.cells cur 34 (0, 0)) := fun j e => by
    rcases hown.2 with ⟨hv, _⟩ | ⟨g, cap, cur, hv, hgN, hc, _⟩
    · rw [hv] at e; cases e
    · rw [hv] at e; cases e; exact ⟨hgN, cur, hc⟩
  have hkeep : ∀ (j : Nat) (o : Obj), w2.heap[j]? = some o → (∀ cur, o ≠ .cells cur 34 (0, 0)) → w3.heap[j]? = some o := fun j o e ho => (hg.block j (Array.getElem?_eq_some_iff.1 e).1 fun e' => by
    obtain ⟨_, cur, hc⟩ := hrow j e'.symm
    rw [e] at hc
    cases hc
    exact ho cur rfl).trans e
  have hb3 := hkeep b _ hbox (fun cur h => by simp at h)
  have hoth : ∀ j, j ≠ b → (w3.setCell ⟨b, 0, none⟩ v).heap[j]? = w3.heap[j]? := fun j hj => by
    simp only [World.setCell]
    rw [Array.getElem?_modify, if_neg fun e => hj e.symm]
  have hb4 : (w3.setCell ⟨b, 0, none⟩ v).heap[b]? = some (.cells #[v, .map (some r)] 111 (0, 0)) := by
    simp only [World.setCell]
    rw [Array.getElem?_modify, if_pos rfl, hb3]
    rfl
  have hsz : (w3.setCell ⟨b, 0, none⟩ v).heap.size = w3.heap.size := by simp [World.setCell]
  refine ⟨hb3, hb4, ⟨hown3.1, ?_⟩, ?_, ⟨⟨by rw [hsz]; exact hg.size, fun j cs t fz e ht => ?_⟩, fun j ob _ e ho => ?_⟩, ((Below.refl N w2).grown hg hN fun j e => (hrow j e).1).setCell (p := ⟨b, 0, none⟩) hb v⟩
  · rcases hown3.2 with h0 | ⟨g, cap, cur, hv, hgN, hc, rest⟩
    · exact .inl h0
    · refine .inr ⟨g, cap, cur, hv, hgN, (hoth g fun e => ?_).trans hc, rest⟩
      rw [e, hb3] at hc
      simp at hc
  · obtain ⟨es, clock, hm, rest⟩ := hmap
    have hm3 := hkeep r _ hm (fun cur h => by cases h)
    refine ⟨es, clock, (hoth r fun e => ?_).trans hm3, rest⟩
    rw [e, hb3] at hm3
    cases hm3
  · have e3 := hkeep j _ e (fun cur h => by
      simp only [Obj.cells.injEq] at h
      rcases ht with rfl | rfl | rfl
      · exact absurd h.2.1 (by decide)
      · exact absurd h.2.1 (by decide)
      · exact absurd h.2.1 (by decide))
    refine (hoth j fun e' => ?_).trans e3
    rw [e', hb3] at e3
    simp only [Option.some.injEq, Obj.cells.injEq] at e3
    rcases ht with rfl | rfl | rfl
    · exact absurd e3.2.1 (by decide)
    · exact absurd e3.2.1 (by decide)
    · exact absurd e3.2.1 (by decide)
  · have e3 := hkeep j ob e (fun cur h => by rw [h] at ho; cases ho)
    refine (hoth j fun e' => ?_).trans e3
    rw [e', hb3] at e3
    cases e3
    cases ho
end

theorem own_step {w w' : World} {base : Nat} {e : TypeId} {size n : Nat} {v : Value} {xs : List Value} (h : w.ownsRow base e size v n xs) (hb : Below w.heap.size w w') : w'.ownsRow base e size v n xs := by
  refine ⟨h.1, ?_⟩
  rcases h.2 with h0 | ⟨g, cap, cur, hv, hg, hc, rest⟩
  · exact .inl h0
  · exact .inr ⟨g, cap, cur, hv, hg, (hb.block g (Array.getElem?_eq_some_iff.1 hc).1).trans hc, rest⟩
theorem one_cell {w : World} {g : Nat} {v : Value} {t : TypeId} (h : w.heap[g]? = some (.cells #[v] t (0, 0))) : ∀ (j : Nat) u, [v][j]? = some u → w.cell? ((⟨g, 0, none⟩ : Addr).add j) = some u := fun j u hu => by
  match j, hu with
  | 0, hu =>
    simp at hu
    subst hu
    rw [add_plain, cell_of_row w g _ _ _ (0, 0) h]
    rfl
  | j + 1, hu => simp at hu
theorem keep_known {ps : List PEl} {p : PEl} (h : ∃ q ∈ ps, q.key = p.key) : keepP ps p = (0, ps) := by unfold keepP; rw [if_pos h]
theorem keep_full {ps : List PEl} {p : PEl} (h : ¬ ∃ q ∈ ps, q.key = p.key) (h2 : ps.length = 400) : keepP ps p = (3, ps) := by unfold keepP; rw [if_neg h, if_pos h2]
theorem keep_new {ps : List PEl} {p : PEl} (h : ¬ ∃ q ∈ ps, q.key = p.key) (h2 : ps.length ≠ 400) : keepP ps p = (0, ps ++ [p]) := by unfold keepP; rw [if_neg h, if_neg h2]
theorem key_few {n : Nat} {w : World} {p : PEl} (hn : n ≤ 100) (h : PieceOk n w p) : p.key.length ≤ maxLen := by
  have h1 := keys_len hn p.els (fun e he => ⟨h.2.1 e he, by rw [(h.1.ints e he).len]; exact (h.2.1 e he).2.1⟩)
  have h2 := h.1.len
  have h3 := h.2.2.1
  have h4 : p.els.length * 1100 ≤ 1000 * 1100 := Nat.mul_le_mul_right _ (by omega)
  unfold PEl.key keyU maxLen
  rw [List.length_map]
  omega


set_option maxHeartbeats 4000000 in
theorem union_keep {n N : Nat} {b : Nat} {u : Value} {r : Nat} {ps : List PEl} (hn : n ≤ 100) (w : World) (h : UN n N w b u r ps) (p : PEl) (hp : PieceOk n w p) (hN : N ≤ w.heap.size) :
    Calls Tryz.prog 79 #[.pointer (some ⟨b, 0, none⟩), p.v] w fun e w' => KeepRet n N w e w' b r (keepP ps p) := by
  obtain ⟨A, m, c, els⟩ := p
  have HK := Lib.hid (fun W (hW : CondsAt W A m els) => wide_key (n := n) (c := c) W hW hp.2.1 hp.2.2.1 hn)
  have hkf := key_few hn hp
  have hC := hp.1.conds
  have HP := Lib.hid hp
  obtain ⟨uA, uc, rfl⟩ := h.slice
  show Calls Tryz.prog 79 #[.pointer (some ⟨b, 0, none⟩), .slice A m c] w _
  by_cases hk : ∃ q ∈ ps, q.key = (⟨A, m, c, els⟩ : PEl).key
  · have HE := Lib.hid (keep_known hk)
    have HKN := Lib.hid hk
    clear hk hp
    go_enter Tryz.func79, Tryz.ntmps79
    go_wp2_with (go_at_call 98; refine (HK.out _ hC).mono ?_; rintro e w1 ⟨rfl, hb1⟩; have U1 := h.step hb1; have c0 := U1.c0; have c1 := U1.c1; have hl : (Instr.lookup 109 (.map (some r)) (.string (keyS (els.map CEl.d))) false).run Tryz.prog w1 = .ok (.bool true) w1 := (by have h9 := U1.look _ hkf; rw [decide_eq_true HKN.out] at h9; exact h9))
    go_ret
    rw [HE.out]
    exact ⟨⟨_, rfl, U1⟩, hb1.mono hN, .of_below hb1⟩
  · by_cases hf : ps.length = 400
    · have HE := Lib.hid (keep_full hk hf)
      have HKN := Lib.hid hk
      have hq : ((ps.length : Int) == 400) = true := by simp [hf]
      have HF := Lib.hid hf
      clear hk hp hf
      generalize ps.length = pl at *
      go_enter Tryz.func79, Tryz.ntmps79
      go_wp2_with (go_at_call 98; refine (HK.out _ hC).mono ?_; rintro e w1 ⟨rfl, hb1⟩; have U1 := h.step hb1; have c0 := U1.c0; have c1 := U1.c1; have hl : (Instr.lookup 109 (.map (some r)) (.string (keyS (els.map CEl.d))) false).run Tryz.prog w1 = .ok (.bool false) w1 := (by have h9 := U1.look _ hkf; rw [decide_eq_false HKN.out] at h9; exact h9))
      go_ret
      rw [HE.out]
      exact ⟨⟨_, rfl, U1⟩, hb1.mono hN, .of_below hb1⟩
    · have HE := Lib.hid (keep_new hk hf)
      have HKN := Lib.hid hk
      have hq : ((ps.length : Int) == 400) = false := by simp; omega
      have HF := Lib.hid hf
      have hfew := h.few
      obtain ⟨i0, hi0, hz0, hz1, hz2⟩ := info_parts infoPc
      clear hk hp hf
      go_enter Tryz.func79, Tryz.ntmps79
      go_wp2_with (first
        | (go_at_call 98; refine (HK.out _ hC).mono ?_; rintro e w1 ⟨rfl, hb1⟩; have U1 := h.step hb1; have c0 := U1.c0; have c1 := U1.c1; have hl : (Instr.lookup 109 (.map (some r)) (.string (keyS (els.map CEl.d))) false).run Tryz.prog w1 = .ok (.bool false) w1 := (by have h9 := U1.look _ hkf; rw [decide_eq_false HKN.out] at h9; exact h9))
        | (at_mapUpdate; obtain ⟨D, hm, hD⟩ := U1.map; refine wpList_mapUpdate_own _ rfl _ _ _ 109 rfl 9 4 str_key Tryz.underlying109 (plainElem Tryz.prog 4) r ps.length D rfl hm (by unfold maxLen; omega) _ (.bool true) (.string _) rfl rfl (keyOf_str _ hkf) (.lit (.bool true)) [] (plainElem_bool Tryz.underlying4 true) ?_; intro w2 hm2 hg2; obtain ⟨hbox2, hown2, hku2, hb2⟩ := U1.mapped hg2 (Nat.le_trans hN hb1.size); have e0 : w2.cell? ⟨b, 0, none⟩ = some (.slice uA ps.length uc) := (by rw [cell_of_row w2 b 0 _ _ (0, 0) hbox2]; rfl); have b3 := below_alloc w2 (.cells #[.slice A m c] 34); have hbox3 := (b3.block b (Array.getElem?_eq_some_iff.1 hbox2).1).trans hbox2; have hown3 := own_step hown2 b3; have hm3 := hm2.alloc (.cells #[.slice A m c] 34); have hN2 := Nat.le_trans (Nat.le_trans hN hb1.size) hb2.size; have hN3 := Nat.le_trans hN2 b3.size; have HDD := Lib.hid (And.intro hm.isMap hD); have HB := Lib.hid (And.intro hku2 hb2); have hG := heap_alloc_new w2 (.cells #[.slice A m c] 34); clear hm hD hm2 hg2 hku2 hb2 hown2 hbox2)
        | (at_builtin; refine wpList_append_own _ rfl _ _ 22 rfl N 34 i0 (.slice none 0 0) 1 24 Tryz.underlying22 hi0 hz0 hz1 hz2 rfl (by decide) _ ps.length (ps.map PEl.v) rfl hown3 ⟨w2.heap.size, 0, none⟩ 1 1 [.slice A m c] rfl rfl (one_cell hG) (fun v hv => (by rw [List.mem_singleton.1 hv]; rfl)) (by unfold maxLen; omega) (by omega) hN3 ?_; intro v4 w4 hown4 hg4 _; obtain ⟨A5, c5, rfl⟩ := own_slice hown4; obtain ⟨k1, k2, k3, k4, k5, k6⟩ := UN.appended (p := ⟨A, m, c, els⟩) hbox3 hown3 hm3 hown4 hg4 hN3 h.hb; have d0 : w4.cell? ⟨b, 0, none⟩ = some (.slice uA ps.length uc) := (by rw [cell_of_row w4 b 0 _ _ (0, 0) k1]; rfl); have f0 : w4.frozen? ⟨b, 0, none⟩ = false := (by simp [World.frozen?, k1]); have HKK := Lib.hid (And.intro k2 (And.intro k3 (And.intro k4 (And.intro k5 k6)))); have HB3 := Lib.hid (KeepUR.of_below (r := r) b3); have HB4 := Lib.hid (b3.mono hN2); clear k1 k2 k3 k4 k5 k6 hown4 hg4 hbox3 hown3 hm3 hG b3))
      go_ret
      rw [HE.out]
      have hU : UN n N (w4.setCell ⟨b, 0, none⟩ (.slice A5 (ps.length + 1) c5)) b (.slice A5 (ps.length + 1) c5) r (ps ++ [⟨A, m, c, els⟩]) := by
        have hkeep := (((KeepUR.of_below hb1).trans HB.out.1).trans (HB3.out.trans HKK.out.2.2.2.1)).u
        refine ⟨HKK.out.1, by rw [List.length_append, List.map_append]; exact HKK.out.2.1, ⟨_, by rw [List.length_append]; exact HKK.out.2.2.1, fun s => ?_⟩, by rw [List.length_append]; have := HF.out; simp; omega, h.hb, h.hr, fun q hq => ?_⟩
        · by_cases hs : s = (⟨A, m, c, els⟩ : PEl).key
          · subst hs
            refine Eq.trans (atKey_put_same (k := .string (⟨A, m, c, els⟩ : PEl).key) HDD.out.1 (str_key.key (keyOf_str _ hkf)) _ _) ?_
            rw [decide_eq_true ⟨_, List.mem_append_right _ (List.mem_singleton_self _), rfl⟩]
          · refine Eq.trans (atKey_put_other (k := .string (⟨A, m, c, els⟩ : PEl).key) (fun e => hs (by cases e; rfl)) _ _) ?_
            rw [HDD.out.2 s]
            congr 2
            rw [decide_eq_decide]
            constructor
            · rintro ⟨q, hq, e⟩; exact ⟨q, List.mem_append_left _ hq, e⟩
            · rintro ⟨q, hq, e⟩
              rcases List.mem_append.1 hq with hq | hq
              · exact ⟨q, hq, e⟩
              · rw [List.mem_singleton.1 hq] at e; exact absurd e.symm hs
        · rcases List.mem_append.1 hq with hq | hq
          · exact (h.ok q hq).keep hkeep
          · rw [List.mem_singleton.1 hq]; exact HP.out.keep hkeep
      exact ⟨⟨_, rfl, hU⟩, (hb1.mono hN).trans (HB.out.2.trans (HB4.out.trans HKK.out.2.2.2.2)), ((KeepUR.of_below hb1).trans HB.out.1).trans (HB3.out.trans HKK.out.2.2.2.1)⟩
end Go.Proofs.YtkgnlloioaobiaaGreat

/-
  wide.NewUnion, (*wide.Union).Add and Pieces.
-/
namespace Go.Proofs.YtkgnlloioaobiaaGreat
open Go.ChangeShapes Go.WideShapes Go.ChangeAt Go.RowKit Go.Maps
set_option linter.unusedVariables false
set_option maxRecDepth 100000
set_option linter.unusedSimpArgs false

theorem atKey_none (s : List UInt8) (z : DataW Unit) : (DataW.map [] : DataW Unit).atKey (.string s) z = z := rfl
theorem union_new (n : Nat) (w : World) : Calls Tryz.prog 73 #[] w fun e w' => (∃ b r, e = .returned (.pointer (some ⟨b, 0, none⟩)) ∧ UN n w.heap.size w' b (.slice none 0 0) r []) ∧ Below w.heap.size w w' := by
  have hmm := @run_makeMap Tryz.prog
  have hm := World.ownsMap_made (H := Unit) w Tryz.prog 9 (plainElem Tryz.prog 4)
  have b1 := below_alloc w (.map #[] 0)
  have b2 := below_alloc (w.alloc (.map #[] 0)) (.cells #[.slice none 0 0, .map (some w.heap.size)] 111)
  have hG := heap_alloc_new (w.alloc (.map #[] 0)) (.cells #[.slice none 0 0, .map (some w.heap.size)] 111)
  have hm2 := hm.alloc (.cells #[.slice none 0 0, .map (some w.heap.size)] 111)
  have hU : UN n w.heap.size ((w.alloc (.map #[] 0)).alloc (.cells #[.slice none 0 0, .map (some w.heap.size)] 111)) (w.heap.size + 1) (.slice none 0 0) w.heap.size [] := by
    rw [World.size_alloc] at hG
    exact ⟨hG, World.ownsRow_nil _ _ _ _, ⟨_, hm2, fun s => by rw [atKey_none]; simp⟩, by simp, by omega, Nat.le_refl _, (fun p hp => nomatch hp)⟩
  have HU := Lib.hid (And.intro hU (below_step b1 b2))
  clear hm hm2 hG hU b1 b2
  go_enter Tryz.func73, Tryz.ntmps73
  go_wp2
  go_ret
  exact ⟨⟨_, _, rfl, HU.out.1⟩, HU.out.2⟩
theorem union_pieces {n N : Nat} {b : Nat} {u : Value} {r : Nat} {ps : List PEl} (w : World) (h : UN n N w b u r ps) :
    Calls Tryz.prog 75 #[.pointer (some ⟨b, 0, none⟩)] w fun e w' => e = .returned u ∧ w = w' := by
  have c0 := h.c0
  obtain ⟨A, c, rfl⟩ := h.slice
  go_enter Tryz.func75, Tryz.ntmps75
  go_wp2
  go_ret
  exact ⟨rfl, rfl⟩

theorem piece_ok {n : Nat} {w w' : World} {A : Option Addr} {k c : Nat} {l : List CEl} {ds : List CD} (hL : CL w.heap.size w' (.slice A k c) l) (hd : l.map CEl.d = ds) (hn : ∀ e ∈ l, e.n = n) (hN : ∀ d ∈ ds, NormD n d) (hl : ds.length ≤ 96) : PieceOk n w' ⟨A, k, c, l⟩ := by
  have hk := hL.conds.1
  have hlen := congrArg List.length hd
  rw [List.length_map] at hlen
  refine ⟨(CV.of_cl hL).mono (Nat.zero_le _) (Nat.zero_le _), fun e he => ?_, by show k ≤ 1000; omega, ?_⟩
  · have h := hN e.d (by rw [← hd]; exact List.mem_map.2 ⟨e, he, rfl⟩)
    have h1 := h.m
    exact ⟨h.q, hn e he, ⟨by have : e.d.M = e.M := rfl; omega, by have : e.d.M = e.M := rfl; omega⟩, h.k, h.x⟩
  · rcases hL.own.2 with ⟨hv, _⟩ | ⟨g, cap, cur, hv, _, _, hcap, _⟩
    · cases hv
      exact ⟨⟨fun _ => rfl, (fun ad h => nomatch h)⟩, Nat.zero_le _⟩
    · cases hv
      exact ⟨⟨(fun h => nomatch h), fun ad h => by cases h; rfl⟩, hcap⟩
/-- What adding a piece comes to. -/
def addP (ps : List PEl) (q : List CD × Bool × Int) (p : PEl) : Int × List PEl := if q.2.2 ≠ 0 ∨ q.2.1 = true then (q.2.2, ps) else keepP ps p
def AddRet (n N : Nat) (w : World) (e : Ending) (w' : World) (b r : Nat) (ps : List PEl) (q : List CD × Bool × Int) : Prop := ∃ p : PEl, p.els.map CEl.d = q.1 ∧ KeepRet n N w e w' b r (addP ps q p)

set_option maxHeartbeats 4000000 in
theorem union_add {n N : Nat} {b : Nat} {u : Value} {r : Nat} {ps : List PEl} (hn : n ≤ 100) (w : World) (h : UN n N w b u r ps) {A : Option Addr} {m c : Nat} {els : List CEl} (C0 : CondsAt w A m els) (hpre : ∀ e ∈ els, PreB n e) (hm : m ≤ 1000) (hN : N ≤ w.heap.size) :
    Calls Tryz.prog 74 #[.pointer (some ⟨b, 0, none⟩), .slice A m c] w fun e w' => AddRet n N w e w' b r ps (pieceD n (els.map CEl.d)) := by
  have HP := Lib.hid (wide_piece (c := c) w C0 hpre hm)
  have HQ := Lib.hid (piece_norm (norm_all C0.ints hpre))
  obtain ⟨q, hq⟩ : ∃ q, pieceD n (els.map CEl.d) = q := ⟨_, rfl⟩
  rw [hq] at HP HQ ⊢
  obtain ⟨l, vd, er⟩ := q
  simp only at HP HQ
  clear hq C0 hpre
  by_cases hbad : er ≠ 0 ∨ vd = true
  · have HE := Lib.hid (fun p => (show addP ps (l, vd, er) p = (er, ps) from if_pos hbad))
    rcases (show er ≠ 0 ∨ (er = 0 ∧ vd = true) by by_cases h9 : er = 0; exact .inr ⟨h9, hbad.resolve_left (fun h => h h9)⟩; exact .inl h9) with h1 | ⟨rfl, rfl⟩
    · have q1 : (er != 0) = true := by simpa using h1
      have q2 : (er == 0) = false := by simpa using h1
      clear hbad h1
      go_enter Tryz.func74, Tryz.ntmps74
      go_wp2_with (go_at_call 71; refine HP.out.mono ?_; rintro e w1 ⟨A1, k1, c1, l1, rfl, hL1, hd1, hn1, hb1⟩)
      go_ret
      exact ⟨⟨A1, k1, c1, l1⟩, hd1, by rw [HE.out]; exact ⟨⟨_, rfl, h.step hb1⟩, hb1.mono hN, .of_below hb1⟩⟩
    · clear hbad
      go_enter Tryz.func74, Tryz.ntmps74
      go_wp2_with (go_at_call 71; refine HP.out.mono ?_; rintro e w1 ⟨A1, k1, c1, l1, rfl, hL1, hd1, hn1, hb1⟩)
      go_ret
      exact ⟨⟨A1, k1, c1, l1⟩, hd1, by rw [HE.out]; exact ⟨⟨_, rfl, h.step hb1⟩, hb1.mono hN, .of_below hb1⟩⟩
  · obtain rfl : er = 0 := by
      by_cases h9 : er = 0
      · exact h9
      · exact absurd (.inl h9) hbad
    obtain rfl : vd = false := by
      cases vd
      · rfl
      · exact absurd (.inr rfl) hbad
    have HE := Lib.hid (fun p => (show addP ps (l, false, 0) p = keepP ps p from if_neg hbad))
    clear hbad
    go_enter Tryz.func74, Tryz.ntmps74
    go_wp2_with (first
      | (go_at_call 71; refine HP.out.mono ?_; rintro e w1 ⟨A1, k1, c1, l1, rfl, hL1, hd1, hn1, hb1⟩; have U1 := h.step hb1; have HOK := Lib.hid (piece_ok hL1 hd1 hn1 HQ.out.1 HQ.out.2); have HD1 := Lib.hid hd1; have HB1 := Lib.hid hb1; have hN1 := Nat.le_trans hN hb1.size; clear hL1 hd1 hn1 hb1)
      | (go_at_call 79; refine (union_keep hn _ U1 ⟨A1, k1, c1, l1⟩ HOK.out hN1).mono ?_; rintro e w2 ⟨⟨u2, rfl, U2⟩, hb2, hk2⟩))
    go_ret
    exact ⟨⟨A1, k1, c1, l1⟩, HD1.out, by rw [HE.out]; exact ⟨⟨_, rfl, U2⟩, (HB1.out.mono hN).trans hb2, (KeepUR.of_below HB1.out).trans hk2⟩⟩
end Go.Proofs.YtkgnlloioaobiaaGreat

/-
  slices.Values over the pieces of a set, as an iterator.
-/
namespace Go.Proofs.YtkgnlloioaobiaaGreat
open Go.RowKit Go.Shelf
set_option linter.unusedVariables false

attribute [local go_sem] Oper.semAt_some

/-- A piece of a list. -/
abbrev PAt (ps : List PEl) : Type := { p : PEl // p ∈ ps }
def pEnc (ps : List PEl) (p : PAt ps) : Array Value := #[.slice p.1.A p.1.n p.1.c]
theorem att_hit {ps : List PEl} {k : Nat} {x : PAt ps} (h : ps.attach[k]? = some x) : ps.attach.take (k + 1) = ps.attach.take k ++ [x] := by rw [List.take_add_one, h]; rfl

set_option maxRecDepth 100000 in
set_option maxHeartbeats 2000000 in
theorem values1_in (F : Fence) (N : Nat) (hf : F.fn 76) (hro : F.round = none) (hN : 1 ≤ N) (l Bs n₀ : Nat) (A : Option Addr) (n c : Nat) (ps : List PEl) (J Jx : List (PAt ps) → World → Prop)
    (hY : ∀ pre x W, J pre W → pre.length < n → YieldAt F (N - 1) Tryz.prog l (pEnc ps x) W fun e W' =>
      (e = .returned (.bool true) ∧ J (pre ++ [x]) W' ∧ Below n₀ W W') ∨ (e = .returned (.bool false) ∧ Jx (pre ++ [x]) W'))
    (W : World) (hBs : W.cell? ⟨Bs, 0, none⟩ = some (.slice A n c)) (hl : ps.length = n) (hsm : n ≤ 17592186044416)
    (hI : 0 < n → ∃ b off, A = some ⟨b, off, none⟩ ∧ b < n₀ ∧ ∀ j p, ps[j]? = some p → W.cell? ⟨b, off + j, none⟩ = some (.slice p.A p.n p.c)) (h0 : J [] W) :
    CallsIn F N Tryz.prog 76 #[.func (.yield l) #[] #[], .pointer (some ⟨Bs, 0, none⟩)] W fun e W' => (∃ v, e = .returned v) ∧
      ((∃ ys, ys = ps.attach ∧ J ys W') ∨ (∃ pre, (∃ k, k ≤ n ∧ pre = ps.attach.take k) ∧ Jx pre W')) := by
  have HL := Lib.hid hl
  refine callsIn_of_wp Tryz.func76 rfl hf ?_ hro
  simp only [Tryz.ntmps76, List.size_toArray, List.length_cons, List.length_nil, Nat.reduceAdd, Nat.reduceSub, Array.replicate_succ, Array.replicate_zero, List.push_toArray, List.append_toArray, List.nil_append, List.cons_append]
  clear hl
  gi_wp2
  gi_loopw [7] (fun i wr => ∃ k : Nat, k ≤ n ∧ i = .int .i64 k ∧ J (ps.attach.take k) wr ∧ Below n₀ W wr) (fun i _ => n - (intOf i).toNat)
  case atStart => exact ⟨0, Nat.zero_le _, rfl, h0, Below.refl _ _⟩
  case round =>
    obtain ⟨k, hk, rfl, hJs, hnx⟩ := hrel
    by_cases hlt : k < n
    · obtain ⟨b, off, rfl, hb, hc⟩ := hI (by omega)
      have hkl : k < ps.attach.length := by rw [List.length_attach, HL.out]; exact hlt
      obtain ⟨x, hx⟩ : ∃ x : PAt ps, ps.attach[k]? = some x := ⟨_, List.getElem?_eq_getElem hkl⟩
      have hx1 : ps[k]? = some x.1 := by
        have := congrArg (Option.map Subtype.val) hx
        rw [← List.getElem?_map, List.attach_map_subtype_val] at this
        exact this
      have hcx : wr.cell? ⟨b, off + k, none⟩ = some (.slice x.1.A x.1.n x.1.c) := (hnx.cell (p := ⟨b, off + k, none⟩) hb).trans (hc k _ hx1)
      have HM := Lib.hid (att_hit hx)
      obtain ⟨fn, tmps, assign, body, hy, hR⟩ := hY _ x wr hJs (by rw [List.length_take]; omega)
      dsimp only [pEnc] at hy
      have hq1 : (k : Int) < n := by omega
      clear hc hx1 hx hkl
      gi_wp2
      refine hR.mono ?_
      rintro e W3 (⟨rfl, hJ3, hk3⟩ | ⟨rfl, hJx3⟩)
      · gi_wp2
        go_roundw
        case rel => exact ⟨k + 1, by omega, by simp, by rw [HM.out]; exact hJ3, hnx.trans hk3⟩
        case measure => simp [intOf]; omega
      · gi_wp2
        refine bodyPost_ret (results_none rfl _ _ _) rfl ?_
        exact ⟨⟨_, rfl⟩, .inr ⟨_, ⟨k + 1, by omega, HM.out.symm⟩, hJx3⟩⟩
    · obtain rfl : k = n := by omega
      gi_wp2
      go_end0
      refine ⟨⟨_, rfl⟩, .inl ⟨_, rfl, ?_⟩⟩
      rw [List.take_of_length_le (by rw [List.length_attach, HL.out]; exact Nat.le_refl _)] at hJs
      exact hJs

/-- slices.Values: the list is boxed; the function value captures the box. -/
theorem values (A : Option Addr) (n c : Nat) (w : World) :
    Calls Tryz.prog 45 #[.slice A n c] w fun e w' => e = .returned (.func (.func 76) #[] #[.pointer (some ⟨w.heap.size, 0, none⟩)]) ∧ w' = w.alloc (.cells #[.slice A n c] 22) := by
  go_enter Tryz.func45, Tryz.ntmps45
  go_wp2
  go_ret
  exact ⟨rfl, rfl⟩

/-- What slices.Values hands back hands on the pieces, in their order. -/
theorem values_stops (F : Fence) (N : Nat) (hf : F.fn 76) (hro : F.round = none) (hN : 1 ≤ N) (Bs n₀ : Nat) (A : Option Addr) (n c : Nat) (ps : List PEl) (w : World) (hBs : Bs < w.heap.size)
    (hc : w.cell? ⟨Bs, 0, none⟩ = some (.slice A n c)) (hl : ps.length = n) (hsm : n ≤ 17592186044416) (hn₀ : n₀ ≤ w.heap.size)
    (hI : 0 < n → ∃ b off, A = some ⟨b, off, none⟩ ∧ b < n₀ ∧ ∀ j p, ps[j]? = some p → w.cell? ⟨b, off + j, none⟩ = some (.slice p.A p.n p.c)) :
    SeqStopsK F N Tryz.prog 76 #[.pointer (some ⟨Bs, 0, none⟩)] (pEnc ps) (Below n₀) (fun ys => ys = ps.attach) (fun pre => ∃ k, k ≤ n ∧ pre = ps.attach.take k) n w := fun l J Jx W hW _ _ hY h0 => by
  refine values1_in F N hf hro hN l Bs n₀ A n c ps J Jx hY W ((hW.cell (p := ⟨Bs, 0, none⟩) hBs).trans hc) hl hsm (fun h => ?_) h0
  obtain ⟨b, off, hA, hb, hcc⟩ := hI h
  exact ⟨b, off, hA, hb, fun j p hp => (hW.cell (p := ⟨b, off + j, none⟩) (Nat.lt_of_lt_of_le hb hn₀)).trans (hcc j p hp)⟩
end Go.Proofs.YtkgnlloioaobiaaGreat

/-
  What gathering comes to, of the pieces' data; a union that stays while a loop's own blocks turn.
-/
namespace Go.Proofs.YtkgnlloioaobiaaGreat
open Go.ChangeShapes Go.WideShapes Go.ChangeAt Go.RowKit Go.Maps
set_option linter.unusedVariables false
set_option maxRecDepth 100000
set_option linter.unusedSimpArgs false

def PEl.dat (p : PEl) : List CD := p.els.map CEl.d
def keepD (us : List (List CD)) (d : List CD) : Int × List (List CD) := if ∃ q ∈ us, keyU q = keyU d then (0, us) else if us.length = 400 then (3, us) else (0, us ++ [d])
def addD (n : Nat) (us : List (List CD)) (ds : List CD) : Int × List (List CD) :=
  if (pieceD n ds).2.2 ≠ 0 ∨ (pieceD n ds).2.1 = true then ((pieceD n ds).2.2, us) else keepD us (pieceD n ds).1
def gatD (n : Nat) (r : Int × List (List CD)) (ds : List CD) : Int × List (List CD) := if r.1 ≠ 0 then r else addD n r.2 ds
/-- What the pieces gathered come to. -/
def gatherD (n : Nat) (l : List (List CD)) : Int × List (List CD) := l.foldl (gatD n) (0, [])
theorem gat_stuck {n : Nat} {r : Int × List (List CD)} (h : r.1 ≠ 0) : ∀ l : List (List CD), l.foldl (gatD n) r = r
  | [] => rfl
  | d :: l => by
    rw [List.foldl_cons, show gatD n r d = r from if_pos h]
    exact gat_stuck h l
theorem gather_stuck {n : Nat} {l l' : List (List CD)} (h : (gatherD n l).1 ≠ 0) : gatherD n (l ++ l') = gatherD n l := by
  unfold gatherD at h ⊢
  rw [List.foldl_append]
  exact gat_stuck h l'
theorem gather_next {n : Nat} {l : List (List CD)} {us : List (List CD)} (h : gatherD n l = (0, us)) (d : List CD) : gatherD n (l ++ [d]) = addD n us d := by
  unfold gatherD at h ⊢
  rw [List.foldl_append, h]
  show gatD n (0, us) d = _
  unfold gatD
  exact if_neg (show ¬ ((0 : Int) ≠ 0) by decide)
theorem keep_dat (ps : List PEl) (p : PEl) : ((keepP ps p).1, (keepP ps p).2.map PEl.dat) = keepD (ps.map PEl.dat) p.dat := by
  have hk : (∃ q ∈ ps, q.key = p.key) ↔ ∃ q ∈ ps.map PEl.dat, keyU q = keyU p.dat := by
    simp only [List.mem_map]
    constructor
    · rintro ⟨q, hq, e⟩; exact ⟨_, ⟨q, hq, rfl⟩, e⟩
    · rintro ⟨_, ⟨q, hq, rfl⟩, e⟩; exact ⟨q, hq, e⟩
  unfold keepP keepD
  by_cases h : ∃ q ∈ ps, q.key = p.key
  · rw [if_pos h, if_pos (hk.1 h)]
  · rw [if_neg h, if_neg (fun h' => h (hk.2 h')), List.length_map]
    split
    · rfl
    · simp
theorem add_dat {n : Nat} {ps : List PEl} {ds : List CD} {p : PEl} (hp : p.els.map CEl.d = (pieceD n ds).1) : ((addP ps (pieceD n ds) p).1, (addP ps (pieceD n ds) p).2.map PEl.dat) = addD n (ps.map PEl.dat) ds := by
  unfold addP addD
  split
  · rfl
  · rw [keep_dat, show p.dat = _ from hp]

section
variable {n N : Nat} {w w' : World} {b : Nat} {u : Value} {r : Nat} {ps : List PEl}
/-- A union stays where all cells stay and its map. -/
theorem UN.kept (h : UN n N w b u r ps) (hs : w.heap.size ≤ w'.heap.size) (hc : ∀ (k : Nat) (cs : Array Value) (t : TypeId) (fz : Nat × Nat), w.heap[k]? = some (.cells cs t fz) → w'.heap[k]? = some (.cells cs t fz)) (hr : w'.heap[r]? = w.heap[r]?) : UN n N w' b u r ps := by
  refine ⟨hc _ _ _ _ h.box, ⟨h.own.1, ?_⟩, ?_, h.few, h.hb, h.hr, fun p hp => (h.ok p hp).keep ⟨hs, fun k cs t fz e _ => hc k cs t fz e⟩⟩
  · rcases h.own.2 with h0 | ⟨g, cap, cur, hv, hg, hcc, rest⟩
    · exact .inl h0
    · exact .inr ⟨g, cap, cur, hv, hg, hc _ _ _ _ hcc, rest⟩
  · obtain ⟨D, ⟨es, clock, hm, rest⟩, hD⟩ := h.map
    exact ⟨D, ⟨es, clock, hr.trans hm, rest⟩, hD⟩
theorem UN.lt (h : UN n N w b u r ps) : r < w.heap.size := by
  obtain ⟨D, ⟨es, clock, hm, rest⟩, hD⟩ := h.map
  exact (Array.getElem?_eq_some_iff.1 hm).1
/-- A loop's own blocks turn. -/
theorem UN.turn (h : UN n N w b u r ps) {B : Nat} {row : Option Nat} (hB : r < B) (hg : w.grownBy w' row) (hr : ∀ j, row = some j → B ≤ j ∧ ∃ o : Obj, w.heap[j]? = some o ∧ o.isCells = false) : UN n N w' b u r ps := by
  refine h.kept hg.size (fun k cs t fz e => (hg.block k (Array.getElem?_eq_some_iff.1 e).1 fun e' => ?_).trans e) (hg.block r h.lt fun e' => ?_)
  · obtain ⟨_, o, ho, hf⟩ := hr k e'.symm
    rw [e] at ho
    cases ho
    cases hf
  · have := (hr r e'.symm).1
    omega
/-- Cells elsewhere are written. -/
theorem UN.set (h : UN n N w b u r ps) {a : Addr} (ha : a.block < N) {cs : Array Value} {t : TypeId} {fz : Nat × Nat} (hc : w.heap[a.block]? = some (.cells cs t fz)) (ht : t ≠ 56) (hti : t ≠ 3) (htu : t ≠ 84) (v : Value) : UN n N (w.setCell a v) b u r ps := by
  have hne : ∀ k, k ≠ a.block → (w.setCell a v).heap[k]? = w.heap[k]? := fun k hk => by
    simp only [World.setCell]
    rw [Array.getElem?_modify, if_neg fun e => hk e.symm]
  have hsz : w.heap.size ≤ (w.setCell a v).heap.size := by simp [World.setCell]
  have hku : KeepU w (w.setCell a v) := ⟨hsz, fun k cs' t' fz' e he => (hne k fun e' => by
    rw [e', hc] at e
    simp only [Option.some.injEq, Obj.cells.injEq] at e
    rcases he with rfl | rfl | rfl
    · exact ht e.2.1
    · exact hti e.2.1
    · exact htu e.2.1).trans e⟩
  refine ⟨(hne b (by have := h.hb; omega)).trans h.box, ⟨h.own.1, ?_⟩, ?_, h.few, h.hb, h.hr, fun p hp => (h.ok p hp).keep hku⟩
  · rcases h.own.2 with h0 | ⟨g, cap, cur, hv, hg, hcc, rest⟩
    · exact .inl h0
    · exact .inr ⟨g, cap, cur, hv, hg, (hne g (by omega)).trans hcc, rest⟩
  · obtain ⟨D, ⟨es, clock, hm, rest⟩, hD⟩ := h.map
    exact ⟨D, ⟨es, clock, (hne r (by have := h.hr; omega)).trans hm, rest⟩, hD⟩
/-- The pieces can be read. -/
theorem UN.pieces (h : UN n N w b u r ps) : ∃ A c, u = .slice A ps.length c ∧ PiecesAt w A ps.length ps ∧ (0 < ps.length → ∃ g o, A = some ⟨g, o, none⟩ ∧ N ≤ g) := by
  have hc : ∀ p ∈ ps, CondsAt w p.A p.n p.els := fun p hp => (h.ok p hp).1.conds
  have hf := h.few
  rcases h.own.2 with ⟨rfl, h0⟩ | ⟨g, cap, cur, rfl, hg, hcc, rest⟩
  · rw [h0]
    exact ⟨none, 0, rfl, ⟨by rw [h0], by omega, fun h' => absurd h' (by omega), hc⟩, fun h' => absurd h' (by omega)⟩
  · refine ⟨_, _, rfl, ⟨rfl, by omega, fun h' => ⟨g, 0, rfl, (Array.getElem?_eq_some_iff.1 hcc).1, fun j p hp => ?_⟩, hc⟩, fun _ => ⟨g, 0, rfl, hg⟩⟩
    have hj : j < ps.length := (List.getElem?_eq_some_iff.1 hp).1
    rw [Nat.zero_add, cell_of_row w g j _ _ (0, 0) hcc]
    have h5 := congrArg (·[j]?) rest.2.2.2
    simp only [List.getElem?_take, List.getElem?_map, hp, Option.map_some] at h5
    rw [if_pos (by omega)] at h5
    simpa [PEl.v] using h5
end
/-- The pieces can be read where their row lies as it lay, and the conditions. -/
theorem pieces_move {n k : Nat} {w w' : World} {A : Option Addr} {ps : List PEl} (h : PiecesAt w A k ps) (hok : ∀ p ∈ ps, PieceOk n w' p) (hs : w.heap.size ≤ w'.heap.size) (hr : 0 < k → ∀ g o, A = some ⟨g, o, none⟩ → w'.heap[g]? = w.heap[g]?) : PiecesAt w' A k ps := by
  refine ⟨h.len, h.small, fun h0 => ?_, fun p hp => (hok p hp).1.conds⟩
  obtain ⟨b, off, rfl, hb, hc⟩ := h.cells h0
  exact ⟨b, off, rfl, Nat.lt_of_lt_of_le hb hs, fun j p hp => (World.cell?_of_block (a := ⟨b, off + j, none⟩) (hr h0 b off rfl)).trans (hc j p hp)⟩
end Go.Proofs.YtkgnlloioaobiaaGreat

/-
  set.gathered over slices.Values.
-/
namespace Go.Proofs.YtkgnlloioaobiaaGreat
open Go.RowKit Go.Shelf
set_option linter.unusedVariables false
set_option linter.unusedSimpArgs false

attribute [local go_sem] Oper.semAt_some

/-- What gathering answers. -/
def GatherRet (n : Nat) (w : World) (e : Ending) (w' : World) (D : Int) (r : Int × List (List CD)) : Prop :=
  ∃ A k c ps, e = .returned (.tuple #[Value.agg #[.int .i64 (if r.1 ≠ 0 then 0 else D), .slice A k c], .int .i64 r.1]) ∧ PiecesAt w' A k ps ∧ (∀ p ∈ ps, PieceOk n w' p) ∧ ps.map PEl.dat = (if r.1 ≠ 0 then [] else r.2) ∧ (0 < k → ∃ g o, A = some ⟨g, o, none⟩ ∧ w.heap.size ≤ g) ∧ Below w.heap.size w w'

/-- The cells of the two results. -/
def Zed (h : Nat) (W : World) : Prop := W.heap[h]? = some (.cells #[.int .i64 0, .slice none 0 0] 24 (0, 0)) ∧ W.heap[h + 1]? = some (.cells #[.int .i64 0] 27 (0, 0))
def PBox (k b : Nat) (W : World) : Prop := W.heap[k]? = some (.cells #[.pointer (some ⟨b, 0, none⟩)] 84 (0, 0))
theorem Zed.own (h : Nat) {β : Type} : Own (fun (_ : β) W => Zed h W) := fun s A B row hs hg hr => by
  refine ⟨(hg.block h (Array.getElem?_eq_some_iff.1 hs.1).1 fun e => ?_).trans hs.1, (hg.block (h + 1) (Array.getElem?_eq_some_iff.1 hs.2).1 fun e => ?_).trans hs.2⟩
  · obtain ⟨o, ho, hf⟩ := hr h e.symm
    rw [hs.1] at ho
    cases ho
    cases hf
  · obtain ⟨o, ho, hf⟩ := hr (h + 1) e.symm
    rw [hs.2] at ho
    cases ho
    cases hf
theorem PBox.own (k b : Nat) {β : Type} : Own (fun (_ : β) W => PBox k b W) := fun s A B row hs hg hr => by
  refine (hg.block k (Array.getElem?_eq_some_iff.1 hs).1 fun e => ?_).trans hs
  obtain ⟨o, ho, hf⟩ := hr k e.symm
  rw [hs] at ho
  cases ho
  cases hf

/-- The two results are written. -/
theorem zed_set {h : Nat} {W : World} (hz : Zed h W) (a v e : Value) :
    ((((W.setCell ⟨h, 0, none⟩ a).setCell ⟨h, 1, none⟩ v).setCell ⟨h + 1, 0, none⟩ e).heap[h]? = some (.cells #[a, v] 24 (0, 0)) ∧ (((W.setCell ⟨h, 0, none⟩ a).setCell ⟨h, 1, none⟩ v).setCell ⟨h + 1, 0, none⟩ e).heap[h + 1]? = some (.cells #[e] 27 (0, 0))) ∧
      KeepsOthers W (((W.setCell ⟨h, 0, none⟩ a).setCell ⟨h, 1, none⟩ v).setCell ⟨h + 1, 0, none⟩ e) ∧ Below h W (((W.setCell ⟨h, 0, none⟩ a).setCell ⟨h, 1, none⟩ v).setCell ⟨h + 1, 0, none⟩ e) ∧
      ∀ {n N b r : Nat} {u : Value} {us : List PEl}, h + 1 < N → UN n N W b u r us → UN n N (((W.setCell ⟨h, 0, none⟩ a).setCell ⟨h, 1, none⟩ v).setCell ⟨h + 1, 0, none⟩ e) b u r us := by
  have h1 : (W.setCell ⟨h, 0, none⟩ a).heap[h]? = some (.cells #[a, .slice none 0 0] 24 (0, 0)) := by
    simp only [World.setCell]
    rw [Array.getElem?_modify, if_pos rfl, hz.1]
    rfl
  have h2 : ((W.setCell ⟨h, 0, none⟩ a).setCell ⟨h, 1, none⟩ v).heap[h]? = some (.cells #[a, v] 24 (0, 0)) := by
    simp only [World.setCell] at h1 ⊢
    rw [Array.getElem?_modify, if_pos rfl, h1]
    rfl
  have h3 : ((W.setCell ⟨h, 0, none⟩ a).setCell ⟨h, 1, none⟩ v).heap[h + 1]? = some (.cells #[.int .i64 0] 27 (0, 0)) := by
    simp only [World.setCell]
    rw [Array.getElem?_modify, if_neg (by simp), Array.getElem?_modify, if_neg (by simp), hz.2]
  refine ⟨⟨?_, ?_⟩, (KeepsOthers.setCell _ _ _).trans ((KeepsOthers.setCell _ _ _).trans (KeepsOthers.setCell _ _ _)), (((Below.refl h W).setCell (p := ⟨h, 0, none⟩) (Nat.le_refl _) _).setCell (p := ⟨h, 1, none⟩) (Nat.le_refl _) _).setCell (p := ⟨h + 1, 0, none⟩) (Nat.le_succ _) _, fun hN hU => ?_⟩
  · simp only [World.setCell] at h2 ⊢
    rw [Array.getElem?_modify, if_neg (by simp), h2]
  · simp only [World.setCell] at h3 ⊢
    rw [Array.getElem?_modify, if_pos rfl, h3]
    rfl
  · exact ((hU.set (a := ⟨h, 0, none⟩) (by show h < _; omega) hz.1 (by decide) (by decide) (by decide) a).set (a := ⟨h, 1, none⟩) (by show h < _; omega) h1 (by decide) (by decide) (by decide) v).set (a := ⟨h + 1, 0, none⟩) hN h3 (by decide) (by decide) (by decide) e

/-- (*wide.Union).Add, where what it comes to is known. -/
theorem union_adds {n N : Nat} {b : Nat} {u : Value} {r : Nat} {us : List PEl} {er : Int} {l : List (List CD)} (hn : n ≤ 100) (w : World) (h : UN n N w b u r us) {A : Option Addr} {m c : Nat} {els : List CEl} (C0 : CondsAt w A m els) (hpre : ∀ e ∈ els, PreB n e) (hm : m ≤ 1000) (hN : N ≤ w.heap.size) (he : addD n (us.map PEl.dat) (els.map CEl.d) = (er, l)) :
    Calls Tryz.prog 74 #[.pointer (some ⟨b, 0, none⟩), .slice A m c] w fun e w' => e = .returned (.int .i64 er) ∧ (∃ u' us', us'.map PEl.dat = l ∧ UN n N w' b u' r us') ∧ Below N w w' ∧ KeepUR r w w' := by
  refine (union_add (c := c) hn w h C0 hpre hm hN).mono ?_
  rintro e w' ⟨p, hp, ⟨u', rfl, hU⟩, hb, hk⟩
  have h9 := add_dat (ps := us) hp
  rw [he] at h9
  simp only [Prod.mk.injEq] at h9
  rw [h9.1]
  exact ⟨rfl, ⟨u', _, h9.2, hU⟩, hb, hk⟩

set_option maxRecDepth 100000 in
set_option maxHeartbeats 8000000 in
theorem set_gathered {n : Nat} (hn : n ≤ 100) (D : Int) (A : Option Addr) (m c : Nat) (ps : List PEl) (w : World) (Bs : Nat) (hBs : w.cell? ⟨Bs, 0, none⟩ = some (.slice A m c)) (hBl : Bs < w.heap.size) (P0 : PiecesAt w A m ps) (hpre : ∀ p ∈ ps, (∀ e ∈ p.els, PreB n e) ∧ p.n ≤ 1000) :
    Calls Tryz.prog 44 #[.int .i64 D, .func (.func 76) #[] #[.pointer (some ⟨Bs, 0, none⟩)]] w fun e w' => GatherRet n w e w' D (gatherD n (ps.map PEl.dat)) := by
  have hro : Fence.wide.round = none := rfl
  have h1 : 1 ≤ 5 := by omega
  refine (callsIn_wide (n := 5)).1 ?_
  refine callsIn_of_wp_marks Tryz.func44 rfl trivial ?_ hro
  simp only [Tryz.ntmps44, List.size_toArray, List.length_cons, List.length_nil, Nat.reduceAdd, Nat.reduceSub, Array.replicate_succ, Array.replicate_zero, List.push_toArray, List.append_toArray, List.nil_append, List.cons_append]
  gi_wp2_with (refine ⟨trivial, ?_⟩; gi_at_call 73; refine (callsIn_wide.2 (union_new n _)).mono ?_; rintro e w1 ⟨⟨b, r, rfl, U1⟩, hb1⟩)
  generalize hO : (w.alloc (.cells #[.int .i64 0, .slice none 0 0] 24)).alloc (.cells #[.int .i64 0] 27) = w0 at *
  have hs0 : w0.heap.size = w.heap.size + 2 := by rw [← hO]; simp
  have Z0 : Zed w.heap.size w0 := by
    rw [← hO]
    refine ⟨(Below.heap_alloc _ _ _ (by simp)).trans (heap_alloc_new w _), ?_⟩
    have := heap_alloc_new (w.alloc (.cells #[.int .i64 0, .slice none 0 0] 24)) (.cells #[.int .i64 0] 27)
    rw [World.size_alloc] at this
    exact this
  have hB0 : Below w.heap.size w w0 := by rw [← hO]; exact ((Below.refl _ w).alloc (Nat.le_refl _) _).alloc (by simp) _
  clear hO
  have Z1 : Zed w.heap.size w1 := ⟨(hb1.block _ (by omega)).trans Z0.1, (hb1.block _ (by omega)).trans Z0.2⟩
  have hB1 : Below w.heap.size w w1 := hB0.trans (hb1.mono (by omega))
  have b2 := below_alloc w1 (.cells #[.pointer (some ⟨b, 0, none⟩)] 84)
  have PB : PBox w1.heap.size b (w1.alloc (.cells #[.pointer (some ⟨b, 0, none⟩)] 84)) := heap_alloc_new w1 _
  have U2 := U1.step b2
  have hs1 := hb1.size
  have Z2 : Zed w.heap.size (w1.alloc (.cells #[.pointer (some ⟨b, 0, none⟩)] 84)) := ⟨(b2.block _ (by omega)).trans Z1.1, (b2.block _ (by omega)).trans Z1.2⟩
  have hB2 : Below w.heap.size w (w1.alloc (.cells #[.pointer (some ⟨b, 0, none⟩)] 84)) := hB1.trans (b2.mono (by omega))
  have hr1 := U1.lt
  have hs2 : (w1.alloc (.cells #[.pointer (some ⟨b, 0, none⟩)] 84)).heap.size = w1.heap.size + 1 := by simp
  generalize w1.alloc (.cells #[.pointer (some ⟨b, 0, none⟩)] 84) = w2 at *
  have hcl : w2.cell? ⟨Bs, 0, none⟩ = some (.slice A m c) := (hB2.cell (p := ⟨Bs, 0, none⟩) hBl).trans hBs
  clear Z0 Z1 hB0 hB1 b2 hb1 U1
  refine wpIn_rangeFunc_ownG hro h1 (gf := 76) (lb := #[.pointer (some ⟨Bs, 0, none⟩)]) rfl trivial (enters_of Tryz.func76 (by kernel_rfl) rfl)
    (values_stops Fence.wide (5 - 1) trivial hro (by omega) Bs w.heap.size A m c ps w2 (by omega) hcl P0.len P0.small (by omega) (fun h => (P0.step hB2).cells h |>.elim fun b' h' => h'.elim fun off h'' => ⟨b', off, h''.1, (by obtain ⟨b3, off3, hA3, hb3, _⟩ := P0.cells h; rw [h''.1] at hA3; cases hA3; exact hb3), h''.2.2⟩)) belowK_t (belowK_b (by omega)) (Below.refl _ _) (fun _ => rfl)
    (fun pre W => ((∃ u us, UN n w0.heap.size W b u r us ∧ gatherD n (pre.map (fun x => x.1.dat)) = (0, us.map PEl.dat)) ∧ Zed w.heap.size W ∧ PBox w1.heap.size b W) ∧ Below w.heap.size w W)
    (fun cd pre W => (cd = .ret ∧ ∃ er l, gatherD n (pre.map (fun x => x.1.dat)) = (er, l) ∧ er ≠ 0 ∧ W.heap[w.heap.size]? = some (.cells #[.int .i64 0, .slice none 0 0] 24 (0, 0)) ∧ W.heap[w.heap.size + 1]? = some (.cells #[.int .i64 er] 27 (0, 0))) ∧ Below w.heap.size w W)
    ?own1 ?own2 ?start
    (fun x => { tmps := #[.int .i64 D, .func (.func 76) #[] #[.pointer (some ⟨Bs, 0, none⟩)], undef, undef, .pointer (some ⟨w.heap.size, 0, none⟩), .pointer (some ⟨w.heap.size + 1, 0, none⟩), .pointer (some ⟨w1.heap.size, 0, none⟩), .slice x.1.A x.1.n x.1.c, undef,
      .pointer (some ⟨b, 0, none⟩), .func (.func 76) #[] #[.pointer (some ⟨Bs, 0, none⟩)], .slice x.1.A x.1.n x.1.c, undef, undef, undef, undef, undef, undef, undef, undef, undef, undef, undef], defers := [] }) ?assign ?body ?done ?stop
  case own1 => exact OwnFrom.and (OwnFrom.and (fun s V V' row hs hg hr => by obtain ⟨u, us, hU, hx⟩ := hs; exact ⟨u, us, hU.turn (by omega) hg hr, hx⟩) (OwnFrom.and (Own.from (Zed.own _) _) (Own.from (PBox.own _ _) _))) (ownFrom_below (Nat.le_refl _) (by omega))
  case own2 =>
    intro cd
    refine OwnFrom.and (Own.from (fun s V V' row hs hg hr => ?_) _) (ownFrom_below (Nat.le_refl _) (by omega))
    obtain ⟨hc, er, l, h2, h3, h4, h5⟩ := hs
    refine ⟨hc, er, l, h2, h3, (hg.block _ (Array.getElem?_eq_some_iff.1 h4).1 fun e => ?_).trans h4, (hg.block _ (Array.getElem?_eq_some_iff.1 h5).1 fun e => ?_).trans h5⟩
    · obtain ⟨o, ho, hf⟩ := hr _ e.symm
      rw [h4] at ho
      cases ho
      cases hf
    · obtain ⟨o, ho, hf⟩ := hr _ e.symm
      rw [h5] at ho
      cases ho
      cases hf
  case start => exact ⟨⟨⟨_, [], U2, rfl⟩, Z2, PB⟩, hB2⟩
  case assign =>
    intro l x W K hK
    dsimp only [pEnc]
    gi_wp2
    exact hK
  case body =>
    rintro l pre x W ⟨⟨⟨u, us, hU, hg⟩, hZ, hPB⟩, hB⟩ _
    have hx := hpre x.1 x.2
    have hC : CondsAt W x.1.A x.1.n x.1.els := (P0.conds x.1 x.2).step hB
    have hN := hU.lt
    obtain ⟨er, l', hadd⟩ : ∃ er l', addD n (us.map PEl.dat) (x.1.els.map CEl.d) = (er, l') := ⟨_, _, rfl⟩
    have HG := Lib.hid ((gather_next hg x.1.dat).trans hadd)
    have HN := Lib.hid (show w0.heap.size ≤ W.heap.size by have := (Array.getElem?_eq_some_iff.1 hZ.2).1; omega)
    have HA := Lib.hid (union_adds (c := x.1.c) hn W hU hC hx.1 hx.2 HN.out hadd)
    have c6 : W.cell? ⟨w1.heap.size, 0, none⟩ = some (.pointer (some ⟨b, 0, none⟩)) := by rw [cell_of_row W _ 0 _ _ (0, 0) hPB]; rfl
    have HZ := Lib.hid hZ
    have HPB := Lib.hid hPB
    clear hadd hg hx hC hZ hPB
    by_cases h0 : er = 0
    · subst h0
      gi_wp2_with (refine ⟨trivial, ?_⟩; gi_at_call 74; refine (CallsIn.inRound l (callsIn_wide.2 HA.out)).mono ?_; rintro e w' ⟨rfl, ⟨u', us', hl', hU'⟩, hb', hk'⟩)
      have hZ' : Zed w.heap.size w' := ⟨(hb'.block _ (by omega)).trans HZ.out.1, (hb'.block _ (by omega)).trans HZ.out.2⟩
      have hPB' : PBox w1.heap.size b w' := hk'.u.rows _ _ _ _ HPB.out (.inr (.inr rfl))
      have hb9 : Below w.heap.size W w' := hb'.mono (by omega)
      refine ⟨hk'.from (by omega), hb9, ⟨⟨u', us', hU', ?_⟩, hZ', hPB'⟩, hB.trans hb9⟩
      rw [List.map_append, hl']
      exact HG.out
    · have h0' : (er != 0) = true := by simpa using h0
      have h0'' : (er == 0) = false := by simpa using h0
      have HE := Lib.hid h0
      clear h0
      gi_wp2_with (refine ⟨trivial, ?_⟩; gi_at_call 74; refine (CallsIn.inRound l (callsIn_wide.2 HA.out)).mono ?_; rintro e w' ⟨rfl, ⟨u', us', hl', hU'⟩, hb', hk'⟩; have hZ' : Zed w.heap.size w' := (⟨(hb'.block _ (by omega)).trans HZ.out.1, (hb'.block _ (by omega)).trans HZ.out.2⟩); have z0 : w'.cell? ⟨w.heap.size, 0, none⟩ = some (.int .i64 0) := (by rw [cell_of_row w' _ 0 _ _ (0, 0) hZ'.1]; rfl); have z1 : w'.cell? ⟨w.heap.size, 1, none⟩ = some (.slice none 0 0) := (by rw [cell_of_row w' _ 1 _ _ (0, 0) hZ'.1]; rfl); have z2 : w'.cell? ⟨w.heap.size + 1, 0, none⟩ = some (.int .i64 0) := (by rw [cell_of_row w' _ 0 _ _ (0, 0) hZ'.2]; rfl); have f0 : w'.frozen? ⟨w.heap.size, 0, none⟩ = false := (by simp [World.frozen?, hZ'.1]); have f1 : w'.frozen? ⟨w.heap.size, 1, none⟩ = false := (by simp [World.frozen?, hZ'.1]); have f2 : w'.frozen? ⟨w.heap.size + 1, 0, none⟩ = false := (by simp [World.frozen?, hZ'.2]); have HZ2 := Lib.hid hZ'; clear hZ')
      obtain ⟨⟨y1, y2⟩, yk, yb, _⟩ := zed_set HZ2.out (.int .i64 0) (.slice none 0 0) (.int .i64 er)
      refine ⟨(hk'.from (by omega)).trans (yk.from _), ⟨rfl, er, l', ?_, HE.out, y1, y2⟩, hB.trans ((hb'.mono (by omega)).trans yb)⟩
      rw [List.map_append]
      exact HG.out
  case done =>
    rintro D' ys W hD rfl ⟨⟨⟨u, us, hU, hg⟩, hZ, hPB⟩, hB⟩ hK'
    have c6 : W.cell? ⟨w1.heap.size, 0, none⟩ = some (.pointer (some ⟨b, 0, none⟩)) := by rw [cell_of_row W _ 0 _ _ (0, 0) hPB]; rfl
    have z0 : W.cell? ⟨w.heap.size, 0, none⟩ = some (.int .i64 0) := by rw [cell_of_row W _ 0 _ _ (0, 0) hZ.1]; rfl
    have z1 : W.cell? ⟨w.heap.size, 1, none⟩ = some (.slice none 0 0) := by rw [cell_of_row W _ 1 _ _ (0, 0) hZ.1]; rfl
    have z2 : W.cell? ⟨w.heap.size + 1, 0, none⟩ = some (.int .i64 0) := by rw [cell_of_row W _ 0 _ _ (0, 0) hZ.2]; rfl
    have f0 : W.frozen? ⟨w.heap.size, 0, none⟩ = false := by simp [World.frozen?, hZ.1]
    have f1 : W.frozen? ⟨w.heap.size, 1, none⟩ = false := by simp [World.frozen?, hZ.1]
    have f2 : W.frozen? ⟨w.heap.size + 1, 0, none⟩ = false := by simp [World.frozen?, hZ.2]
    have HA := Lib.hid (union_pieces W hU)
    obtain ⟨uA, uc, rfl⟩ := hU.slice
    have HG := Lib.hid hg
    have HZ := Lib.hid hZ
    have HPB := Lib.hid hPB
    have HU := Lib.hid hU
    clear hg hZ hPB hU
    gi_wp2_with (refine ⟨trivial, ?_⟩; gi_at_call 75; refine (callsIn_wide.2 HA.out).mono ?_; rintro e w' ⟨rfl, rfl⟩)
    obtain ⟨⟨y1, y2⟩, yk, yb, yu⟩ := zed_set HZ.out (.int .i64 D) (.slice uA us.length uc) (.int .i64 0)
    have hK2 := yk.same D' _ hK' rfl
    have hU3 := yu (N := w0.heap.size) (by omega) HU.out
    refine ⟨by simp, .inl ⟨_, _, rfl, run_takeDeferred hK2, ?_⟩⟩
    generalize ((W.setCell ⟨w.heap.size, 0, none⟩ (.int .i64 D)).setCell ⟨w.heap.size, 1, none⟩ (.slice uA us.length uc)).setCell ⟨w.heap.size + 1, 0, none⟩ (.int .i64 0) = W3 at *
    have hg3 := grownBy_putObj' W3 D' (.deferred none)
    have hr3 : ∀ j, some D' = some j → w2.heap.size ≤ j ∧ ∃ o : Obj, W3.heap[j]? = some o ∧ o.isCells = false := fun j e => by cases e; exact ⟨hD, _, hK2, rfl⟩
    have hU4 := hU3.turn (by omega) hg3 hr3
    have y1' : (W3.putObj D' (.deferred none)).heap[w.heap.size]? = some (.cells #[.int .i64 D, .slice uA us.length uc] 24 (0, 0)) := (World.putObj_heap_other (by omega)).trans y1
    have y2' : (W3.putObj D' (.deferred none)).heap[w.heap.size + 1]? = some (.cells #[.int .i64 0] 27 (0, 0)) := (World.putObj_heap_other (by omega)).trans y2
    have hc0 : (W3.putObj D' (.deferred none)).cell? ⟨w.heap.size, 0, none⟩ = some (.int .i64 D) := by rw [cell_of_row _ _ 0 _ _ (0, 0) y1']; rfl
    have hc1 : (W3.putObj D' (.deferred none)).cell? ⟨w.heap.size, 1, none⟩ = some (.slice uA us.length uc) := by rw [cell_of_row _ _ 1 _ _ (0, 0) y1']; rfl
    have hc2 : (W3.putObj D' (.deferred none)).cell? ⟨w.heap.size + 1, 0, none⟩ = some (.int .i64 0) := by rw [cell_of_row _ _ 0 _ _ (0, 0) y2']; rfl
    have hB4 := hB.trans (yb.trans (belowK_b (w := w) (Nat.le_refl _) W3 D' (.deferred (some [])) (.deferred none) (by have := hB2.size; omega) hK2 rfl rfl))
    obtain ⟨A5, c5, he5, hP5, hA5⟩ := hU4.pieces
    cases he5
    have HGE := Lib.hid (show gatherD n (ps.map PEl.dat) = (0, us.map PEl.dat) by
      rw [← HG.out]
      congr 1
      rw [← List.attach_map_subtype_val ps, List.map_map, List.attach_map_subtype_val]
      rfl)
    refine ⟨.tuple #[.agg #[.int .i64 D, .slice uA us.length uc], .int .i64 0], ?_, ?_⟩
    · simp [results, Tryz.f44, go_sem, hc0, hc1, hc2]
    · rw [HGE.out]
      exact ⟨_, _, _, us, rfl, hP5, hU4.ok, rfl, (fun h => let ⟨g, o, h1, h2⟩ := hA5 h; ⟨g, o, h1, by omega⟩), hB4⟩
  case stop =>
    rintro D' cd pre W hD ⟨k, hk, rfl⟩ ⟨⟨rfl, er, l, hg, her, hz1, hz2⟩, hB⟩ hK'
    gi_wp2
    refine ⟨by simp, .inl ⟨_, _, rfl, run_takeDeferred hK', ?_⟩⟩
    have y1' : (W.putObj D' (.deferred none)).heap[w.heap.size]? = some (.cells #[.int .i64 0, .slice none 0 0] 24 (0, 0)) := (World.putObj_heap_other (by omega)).trans hz1
    have y2' : (W.putObj D' (.deferred none)).heap[w.heap.size + 1]? = some (.cells #[.int .i64 er] 27 (0, 0)) := (World.putObj_heap_other (by omega)).trans hz2
    have hc0 : (W.putObj D' (.deferred none)).cell? ⟨w.heap.size, 0, none⟩ = some (.int .i64 0) := by rw [cell_of_row _ _ 0 _ _ (0, 0) y1']; rfl
    have hc1 : (W.putObj D' (.deferred none)).cell? ⟨w.heap.size, 1, none⟩ = some (.slice none 0 0) := by rw [cell_of_row _ _ 1 _ _ (0, 0) y1']; rfl
    have hc2 : (W.putObj D' (.deferred none)).cell? ⟨w.heap.size + 1, 0, none⟩ = some (.int .i64 er) := by rw [cell_of_row _ _ 0 _ _ (0, 0) y2']; rfl
    have hB4 := hB.trans (belowK_b (w := w) (Nat.le_refl _) W D' (.deferred (some [])) (.deferred none) (by have := hB2.size; omega) hK' rfl rfl)
    have HGE := Lib.hid (show gatherD n (ps.map PEl.dat) = (er, l) by
      have h9 : (ps.attach.take k).map (fun x => x.1.dat) ++ (ps.attach.drop k).map (fun x => x.1.dat) = ps.map PEl.dat := by
        rw [← List.map_append, List.take_append_drop]
        conv => rhs; rw [← List.attach_map_subtype_val ps, List.map_map]
        rfl
      rw [← h9, gather_stuck (by rw [hg]; exact her), hg])
    refine ⟨.tuple #[.agg #[.int .i64 0, .slice none 0 0], .int .i64 er], ?_, ?_⟩
    · simp [results, Tryz.f44, go_sem, hc0, hc1, hc2]
    · rw [HGE.out]
      refine ⟨none, 0, 0, [], ?_, ⟨rfl, by omega, fun h => absurd h (by omega), fun p h => nomatch h⟩, (fun p h => nomatch h), ?_, (fun h => absurd h (by omega)), hB4⟩
      · show Ending.returned (.tuple #[.agg #[.int .i64 0, .slice none 0 0], .int .i64 er]) = .returned (.tuple #[.agg #[.int .i64 (if er ≠ 0 then 0 else D), .slice none 0 0], .int .i64 er])
        rw [if_pos her]
      · show [] = (if er ≠ 0 then [] else l)
        rw [if_pos her]
end Go.Proofs.YtkgnlloioaobiaaGreat

/-
  set.conds, set.Valid and the reference's Valid.
-/
namespace Go.Proofs.YtkgnlloioaobiaaGreat
open Go.RowKit
set_option linter.unusedVariables false
set_option maxRecDepth 100000
set_option linter.unusedSimpArgs false

/-- A set as a value. -/
abbrev setV (D : Int) (A : Option Addr) (n c : Nat) : Value := .agg #[.int .i64 D, .slice A n c]
/-- Block b is a variable that holds a set. -/
def SetBox (w : World) (b : Nat) (D : Int) (A : Option Addr) (n c : Nat) : Prop := w.heap[b]? = some (.cells #[.int .i64 D, .slice A n c] 24 (0, 0))
section
variable {w w' : World} {b : Nat} {D : Int} {A : Option Addr} {n c : Nat}
theorem SetBox.new (w : World) (D : Int) (A : Option Addr) (n c : Nat) : SetBox (w.alloc (.cells #[.int .i64 D, .slice A n c] 24)) w.heap.size D A n c := heap_alloc_new w _
theorem SetBox.lt (h : SetBox w b D A n c) : b < w.heap.size := (Array.getElem?_eq_some_iff.1 h).1
theorem SetBox.below {B : Nat} (h : SetBox w b D A n c) (hb : Below B w w') (hB : b < B) : SetBox w' b D A n c := (hb.block b hB).trans h
theorem SetBox.step (h : SetBox w b D A n c) (hb : Below w.heap.size w w') : SetBox w' b D A n c := h.below hb h.lt
theorem SetBox.alloc (h : SetBox w b D A n c) (o : Obj) : SetBox (w.alloc o) b D A n c := h.step (below_alloc w o)
theorem SetBox.c0 (h : SetBox w b D A n c) : w.cell? ⟨b, 0, none⟩ = some (.int .i64 D) := by rw [cell_of_row w b 0 _ _ (0, 0) h]; rfl
theorem SetBox.c1 (h : SetBox w b D A n c) : w.cell? ⟨b, 1, none⟩ = some (.slice A n c) := by rw [cell_of_row w b 1 _ _ (0, 0) h]; rfl
theorem SetBox.f (h : SetBox w b D A n c) (j : Nat) : w.frozen? ⟨b, j, none⟩ = false := by
  unfold SetBox at h; simp [World.frozen?, h]
end

def CEl.ok (e : CEl) : Bool := validC e.q e.M e.xs e.K
/-- The error of a list of conditions over D variables. -/
def condsE (D : Int) (els : List CEl) : Int := if els.all CEl.ok = true then (if els.all (fun e => (e.n : Int) == D) = true then 0 else 2) else 1
def pieceOk (D : Int) (p : PEl) : Bool := decide (p.els.length ≤ 96) && decide (condsE D p.els = 0)
/-- A valid set. -/
def validS (D : Int) (ps : List PEl) : Bool := decide (0 ≤ D ∧ D ≤ 12 ∧ ps.length ≤ 400) && ps.all (pieceOk D)

theorem all_not {α : Type} {p : α → Bool} {l : List α} {i : Nat} {x : α} (h : l[i]? = some x) (hp : p x = false) : l.all p = false := by
  obtain ⟨hi, e⟩ := List.getElem?_eq_some_iff.1 h
  rw [Bool.eq_false_iff]
  intro ha
  rw [List.all_eq_true] at ha
  rw [ha x (e ▸ List.getElem_mem hi)] at hp
  cases hp
theorem all_yes {α : Type} {p : α → Bool} {l : List α} (h : ∀ j x, j < l.length → l[j]? = some x → p x = true) : l.all p = true := by
  rw [List.all_eq_true]
  intro x hx
  obtain ⟨j, hj, rfl⟩ := List.getElem_of_mem hx
  exact h j _ hj (List.getElem?_eq_getElem hj)


set_option maxHeartbeats 4000000 in
theorem set_conds (A : Option Addr) (m c : Nat) (els : List CEl) (D : Int) (w : World) (C0 : CondsAt w A m els) :
    Calls Tryz.prog 57 #[.slice A m c, .int .i64 D] w fun e w' => e = .returned (.int .i64 (condsE D els)) ∧ Below w.heap.size w w' := by
  have hsm := C0.small
  have HL := Lib.hid C0.len
  obtain ⟨er, her⟩ : ∃ er, condsE D els = er := ⟨_, rfl⟩
  rw [her]
  have HE := Lib.hid her
  clear her
  go_enter Tryz.func57, Tryz.ntmps57
  go_wp2
  go_loopw [11] (fun v wr => ∃ i : Nat, i ≤ m ∧ v = .int .i64 i ∧ (∀ j x, j < i → els[j]? = some x → x.ok = true) ∧ Below w.heap.size w wr) (fun v _ => m - (intOf v).toNat)
  case atStart => exact ⟨0, Nat.zero_le _, rfl, (fun j x h => absurd h (by omega)), Below.refl _ _⟩
  case round =>
    obtain ⟨i, hi, rfl, hgood, hbr⟩ := hrel
    have HG := Lib.hid hgood
    clear hgood
    by_cases hlt : i < m
    · obtain ⟨b, off, e, rfl, hblt, hej, hmem, hcs, hin⟩ := (C0.step hbr).at hlt; obtain ⟨x0, x1, x2, x3⟩ := hcs; have HEJ := Lib.hid hej; obtain ⟨eq, eM, eA, en, ec, eK, exs⟩ := e; simp only at x0 x1 x2 x3 hin; have hq1 : (i : Int) < m := (by omega); have b5 := below_alloc wr (.cells #[.int .i64 eq, .int .i64 eM, .slice eA en ec, .int .i64 eK] 56); have y1 := hin.step b5; have X1 := CBox.new wr eq eM eA en ec eK; have z2 := X1.c2; have hbr1 := hbr.trans (b5.mono hbr.size); clear b5 hmem hej hin
      cases hv : validC eq eM exs eK
      · have HV := Lib.hid hv
        have HR := Lib.hid (show er = 1 by rw [← HE.out]; unfold condsE; rw [all_not HEJ.out hv]; rfl)
        clear hv
        go_wp2_with (go_at_call 84; refine (cond_valid _ _ _ _ _ _ exs _ y1).mono ?_; rintro e w1 ⟨rfl, hb⟩; rw [HV.out]; replace hbr1 := hbr1.trans (hb.mono hbr1.size))
        go_ret
        exact ⟨ret1 (vint HR.out.symm), hbr1⟩
      · have HV := Lib.hid hv
        clear hv
        go_wp2_with (go_at_call 84; refine (cond_valid _ _ _ _ _ _ exs _ y1).mono ?_; rintro e w1 ⟨rfl, hb⟩; rw [HV.out]; replace hbr1 := hbr1.trans (hb.mono hbr1.size))
        go_roundw
        case rel => exact ⟨i + 1, by omega, by go_num, (fun j x hj hjx => by
          rcases Nat.lt_or_eq_of_le (Nat.le_of_lt_succ hj) with h | rfl
          · exact HG.out j x h hjx
          · rw [HEJ.out] at hjx; cases hjx; exact HV.out), hbr1⟩
        case measure => simp [intOf]; omega
    · have hge : ¬ ((i : Int) < m) := by omega
      have HA := Lib.hid (show els.all CEl.ok = true from all_yes fun j x hj => HG.out j x (by have := HL.out; omega))
      go_wp2
      clear hge
      generalize hw2 : wr = w2 at *
      clear hw2 HG
      go_loopw [21] (fun v wr => ∃ i : Nat, i ≤ m ∧ v = .int .i64 i ∧ (∀ j x, j < i → els[j]? = some x → ((x.n : Int) == D) = true) ∧ Below w.heap.size w wr) (fun v _ => m - (intOf v).toNat)
      case atStart => exact ⟨0, Nat.zero_le _, rfl, (fun j x h => absurd h (by omega)), hbr⟩
      clear hbr
      case round =>
        obtain ⟨i, hi, rfl, hgood, hbr⟩ := hrel
        have HG := Lib.hid hgood
        clear hgood
        by_cases hlt : i < m
        · obtain ⟨b, off, e, rfl, hblt, hej, hmem, hcs, hin⟩ := (C0.step hbr).at hlt; obtain ⟨x0, x1, x2, x3⟩ := hcs; have HEJ := Lib.hid hej; obtain ⟨eq, eM, eA, en, ec, eK, exs⟩ := e; simp only at x0 x1 x2 x3 hin; have hq1 : (i : Int) < m := (by omega); have b5 := below_alloc wr (.cells #[.int .i64 eq, .int .i64 eM, .slice eA en ec, .int .i64 eK] 56); have y1 := hin.step b5; have X1 := CBox.new wr eq eM eA en ec eK; have z2 := X1.c2; have hbr1 := hbr.trans (b5.mono hbr.size); clear b5 hmem hej hin
          by_cases hn : (en : Int) = D
          · have HN := Lib.hid hn
            have q1 : ((en : Int) != D) = false := by simpa using hn
            have q2 : ((en : Int) == D) = true := by simpa using hn
            clear hn
            go_wp2
            go_roundw
            case rel => exact ⟨i + 1, by omega, by go_num, (fun j x hj hjx => by
              rcases Nat.lt_or_eq_of_le (Nat.le_of_lt_succ hj) with h | rfl
              · exact HG.out j x h hjx
              · rw [HEJ.out] at hjx; cases hjx; simpa using HN.out), hbr1⟩
            case measure => simp [intOf]; omega
          · have HR := Lib.hid (show er = 2 by rw [← HE.out]; unfold condsE; rw [if_pos HA.out, all_not (p := fun e : CEl => (e.n : Int) == D) HEJ.out (by simpa using hn)]; rfl)
            have q1 : ((en : Int) != D) = true := by simpa using hn
            have q2 : ((en : Int) == D) = false := by simpa using hn
            clear hn
            go_wp2
            go_ret
            exact ⟨ret1 (vint HR.out.symm), hbr1⟩
        · have hge : ¬ ((i : Int) < m) := by omega
          have HR := Lib.hid (show er = 0 by rw [← HE.out]; unfold condsE; rw [if_pos HA.out, if_pos (all_yes fun j x hj => HG.out j x (by have := HL.out; omega))])
          go_wp2
          go_ret
          exact ⟨ret1 (vint HR.out.symm), hbr⟩


theorem validS_out {D : Int} {ps : List PEl} (h : ¬ (0 ≤ D ∧ D ≤ 12 ∧ ps.length ≤ 400)) : validS D ps = false := by
  unfold validS; rw [decide_eq_false h]; rfl
theorem validS_in {D : Int} {ps : List PEl} (h : 0 ≤ D ∧ D ≤ 12 ∧ ps.length ≤ 400) : validS D ps = ps.all (pieceOk D) := by
  unfold validS; rw [decide_eq_true h]; rfl

set_option maxHeartbeats 4000000 in
theorem set_valid (D : Int) (A : Option Addr) (n c : Nat) (ps : List PEl) (w : World) (h : PiecesAt w A n ps) :
    Calls Tryz.prog 43 #[setV D A n c] w fun e w' => e = .returned (.bool (validS D ps)) ∧ Below w.heap.size w w' := by
  have hB := below_alloc w (.cells #[.int .i64 D, .slice A n c] 24)
  have P0 := h.step hB
  have B1 := SetBox.new w D A n c
  have c0 := B1.c0
  have c1 := B1.c1
  have hl := h.len
  have hsm := h.small
  by_cases hd : 0 ≤ D ∧ D ≤ 12 ∧ ps.length ≤ 400
  · have HE := Lib.hid (validS_in hd)
    obtain ⟨v, hv⟩ : ∃ v, validS D ps = v := ⟨_, rfl⟩
    rw [hv] at HE ⊢
    obtain ⟨hd0, hd1, hd2⟩ := hd
    have hn : (n : Int) ≤ 400 := by omega
    have q1 : ¬ (400 : Int) < (n : Int) := by omega
    have HL := Lib.hid hl
    clear hv h hd2 hl
    go_enter Tryz.func43, Tryz.ntmps43
    go_wp2
    generalize hw0 : w.alloc (.cells #[.int .i64 D, .slice A n c] 24) = w0 at *
    clear hw0 q1
    go_loopw [22] (fun u wr => ∃ i : Nat, i ≤ n ∧ u = .int .i64 i ∧ (∀ j x, j < i → ps[j]? = some x → pieceOk D x = true) ∧ Below w0.heap.size w0 wr) (fun u _ => n - (intOf u).toNat)
    case atStart => exact ⟨0, Nat.zero_le _, rfl, (fun j x h => absurd h (by omega)), Below.refl _ _⟩
    case round =>
      obtain ⟨i, hi, rfl, hgood, hbr⟩ := hrel
      have HG := Lib.hid hgood
      have B2 := B1.step hbr
      have c0 := B2.c0
      clear hgood
      by_cases hlt : i < n
      · obtain ⟨b, off, p, rfl, hblt, hpj, hmem, hcell, hCp⟩ := (P0.step hbr).at hlt; have HPJ := Lib.hid hpj; obtain ⟨pA, pn, pc, pels⟩ := p; simp only at hcell hCp; have hq1 : (i : Int) < n := (by omega); have hpl := hCp.len; have hps := hCp.small; clear hmem hpj
        have hpo : pieceOk D ⟨pA, pn, pc, pels⟩ = (decide (pels.length ≤ 96) && decide (condsE D pels = 0)) := rfl
        by_cases h96 : pn ≤ 96
        · obtain ⟨ce, hce⟩ : ∃ ce, condsE D pels = ce := ⟨_, rfl⟩
          rw [hce, hpl, decide_eq_true h96, Bool.true_and] at hpo
          have HCE := Lib.hid hce
          have q96 : ¬ (96 : Int) < (pn : Int) := by omega
          have HPO := Lib.hid hpo
          have HHB := Lib.hid hbr
          clear hce hpo hpl
          by_cases h0 : ce = 0
          · subst h0
            go_wp2_with (go_at_call 57; refine (set_conds _ _ _ _ _ _ hCp).mono ?_; rintro e w1 ⟨rfl, hb⟩; rw [HCE.out]; replace hbr := hbr.trans (hb.mono hbr.size))
            go_roundw
            case rel => exact ⟨i + 1, by omega, by go_num, (fun j x hj hjx => by
              rcases Nat.lt_or_eq_of_le (Nat.le_of_lt_succ hj) with h | rfl
              · exact HG.out j x h hjx
              · rw [HPJ.out] at hjx; cases hjx; rw [HPO.out]; rfl), hbr⟩
            case measure => simp [intOf]; omega
          · have HV := Lib.hid (show v = false by rw [HE.out, all_not HPJ.out (by rw [HPO.out]; exact decide_eq_false h0)])
            have q1 : (ce != 0) = true := by simpa using h0
            have q2 : (ce == 0) = false := by simpa using h0
            clear h0
            go_wp2_with (go_at_call 57; refine (set_conds _ _ _ _ _ _ hCp).mono ?_; rintro e w1 ⟨rfl, hb⟩; rw [HCE.out]; replace hbr := hbr.trans (hb.mono hbr.size))
            go_ret
            exact ⟨ret_bool HV.out.symm, below_step hB hbr⟩
        · have HV := Lib.hid (show v = false by rw [HE.out, all_not HPJ.out (by rw [hpo, hpl, decide_eq_false h96]; rfl)])
          have q96 : (96 : Int) < (pn : Int) := by omega
          clear hpo hpl
          go_wp2
          go_ret
          exact ⟨ret_bool HV.out.symm, below_step hB hbr⟩
      · have hge : ¬ ((i : Int) < n) := by omega
        have HV := Lib.hid (show v = true by rw [HE.out]; exact all_yes fun j x hj => HG.out j x (by have := HL.out; omega))
        go_wp2
        go_ret
        exact ⟨ret_bool HV.out.symm, below_step hB hbr⟩
  · have HE := Lib.hid (validS_out hd)
    rw [hl] at hd
    rcases (show D < 0 ∨ (0 ≤ D ∧ 12 < D) ∨ (0 ≤ D ∧ D ≤ 12 ∧ 400 < n) by omega) with h0 | ⟨h0, h1⟩ | ⟨h0, h1, h2⟩
    · clear hd
      go_enter Tryz.func43, Tryz.ntmps43
      go_wp2
      go_ret
      exact ⟨ret_bool HE.out.symm, hB⟩
    · clear hd
      go_enter Tryz.func43, Tryz.ntmps43
      go_wp2
      go_ret
      exact ⟨ret_bool HE.out.symm, hB⟩
    · have h3 : (400 : Int) < (n : Int) := by omega
      clear hd
      go_enter Tryz.func43, Tryz.ntmps43
      go_wp2
      go_ret
      exact ⟨ret_bool HE.out.symm, hB⟩
end Go.Proofs.YtkgnlloioaobiaaGreat

/-
  set.Normal.
-/
namespace Go.Proofs.YtkgnlloioaobiaaGreat
open Go.RowKit Go.Shelf
set_option linter.unusedVariables false
set_option linter.unusedSimpArgs false
set_option maxRecDepth 100000

/-- The pieces of a valid set. -/
theorem piece_pre {D : Int} {p : PEl} (hD : 0 ≤ D) (h : pieceOk D p = true) : (∀ e ∈ p.els, PreB D.toNat e) ∧ p.els.length ≤ 96 := by
  unfold pieceOk at h
  rw [Bool.and_eq_true] at h
  obtain ⟨h1, h2⟩ := h
  have h1 := of_decide_eq_true h1
  have h2 := of_decide_eq_true h2
  refine ⟨fun e he => ?_, h1⟩
  unfold condsE at h2
  split at h2
  · rename_i hok
    split at h2
    · rename_i hdim
      have hk := List.all_eq_true.1 hok e he
      have hd := List.all_eq_true.1 hdim e he
      have hn : (e.n : Int) = D := by simpa using hd
      have hk' := hk
      unfold CEl.ok validC at hk'
      rw [Bool.and_eq_true] at hk'
      obtain ⟨_, hK, hx⟩ := validB_true.1 hk'.1
      have hK := fitsB_true.1 hK
      exact ⟨by omega, validC_ok hk, by omega, fun x hxm => by have := fitsB_true.1 (hx x hxm); omega⟩
    · omega
  · omega
theorem valid_parts {D : Int} {ps : List PEl} (h : validS D ps = true) : (0 ≤ D ∧ D ≤ 12 ∧ ps.length ≤ 400) ∧ ∀ p ∈ ps, (∀ e ∈ p.els, PreB D.toNat e) ∧ p.els.length ≤ 96 := by
  unfold validS at h
  rw [Bool.and_eq_true] at h
  have h1 := of_decide_eq_true h.1
  exact ⟨h1, fun p hp => piece_pre h1.1 (List.all_eq_true.1 h.2 p hp)⟩
theorem values_at (A : Option Addr) (n c : Nat) (w : World) :
    Calls Tryz.prog 45 #[.slice A n c] w fun e w' => ∃ Bs, e = .returned (.func (.func 76) #[] #[.pointer (some ⟨Bs, 0, none⟩)]) ∧ Bs < w'.heap.size ∧ w'.cell? ⟨Bs, 0, none⟩ = some (.slice A n c) ∧ Below w.heap.size w w' := by
  refine (values A n c w).mono ?_
  rintro e w' ⟨rfl, rfl⟩
  exact ⟨_, rfl, by simp, by rw [cell_of_row _ _ 0 _ _ (0, 0) (heap_alloc_new w _)]; rfl, below_alloc w _⟩

theorem SetBox.put {w : World} {b : Nat} {D : Int} {A : Option Addr} {n c : Nat} (h : SetBox w b D A n c) (D' : Int) (A' : Option Addr) (n' c' : Nat) : SetBox ((w.setCell ⟨b, 0, none⟩ (.int .i64 D')).setCell ⟨b, 1, none⟩ (.slice A' n' c')) b D' A' n' c' := by
  unfold SetBox at h ⊢
  simp only [World.setCell]
  rw [Array.getElem?_modify, if_pos rfl, Array.getElem?_modify, if_pos rfl, h]
  rfl
theorem below_put {w : World} {N b : Nat} (hb : N ≤ b) (x y : Value) : Below N w ((w.setCell ⟨b, 0, none⟩ x).setCell ⟨b, 1, none⟩ y) := ((Below.refl N w).setCell (p := ⟨b, 0, none⟩) hb x).setCell (p := ⟨b, 1, none⟩) hb y
theorem put_other {w : World} {b k : Nat} (hk : k ≠ b) (x y : Value) : ((w.setCell ⟨b, 0, none⟩ x).setCell ⟨b, 1, none⟩ y).heap[k]? = w.heap[k]? := by
  simp only [World.setCell]
  rw [Array.getElem?_modify, if_neg fun e => hk e.symm, Array.getElem?_modify, if_neg fun e => hk e.symm]
theorem SetBox.keepU {w : World} {b : Nat} {D : Int} {A : Option Addr} {n c : Nat} (h : SetBox w b D A n c) (x y : Value) : KeepU w ((w.setCell ⟨b, 0, none⟩ x).setCell ⟨b, 1, none⟩ y) := by
  refine ⟨by simp [World.setCell], fun k cs t fz e ht => (put_other (fun e' => ?_) x y).trans e⟩
  unfold SetBox at h
  rw [e', h] at e
  simp only [Option.some.injEq, Obj.cells.injEq] at e
  rcases ht with rfl | rfl | rfl
  · exact absurd e.2.1 (by decide)
  · exact absurd e.2.1 (by decide)
  · exact absurd e.2.1 (by decide)
theorem set_normal_bad (D : Int) (A : Option Addr) (n c : Nat) (ps : List PEl) (w : World) (h : PiecesAt w A n ps) (hv : validS D ps = false) :
    Calls Tryz.prog 11 #[setV D A n c] w fun e w' => e = .returned (.tuple #[setV 0 none 0 0, .int .i64 1]) ∧ Below w.heap.size w w' := by
  have HV := Lib.hid hv
  have B0 := (below_alloc w (.cells #[.int .i64 D, .slice A n c] 24))
  have B1 := SetBox.new w D A n c
  have B2 := B1.alloc (.cells #[.int .i64 0, .slice none 0 0] 24)
  have X2 := SetBox.new (w.alloc (.cells #[.int .i64 D, .slice A n c] 24)) 0 none 0 0
  rw [World.size_alloc] at X2
  have hb := below_step B0 (below_alloc _ (.cells #[.int .i64 0, .slice none 0 0] 24))
  have P2 := h.step hb
  have c0 := B2.c0
  have c1 := B2.c1
  clear hv B0 B1 h
  go_enter Tryz.func11, Tryz.ntmps11
  go_wp2_with (go_at_call 43; refine (set_valid D A n c ps _ P2).mono ?_; rintro e w1 ⟨rfl, hb1⟩; rw [HV.out]; have X3 := X2.step hb1; have d0 := X3.c0; have d1 := X3.c1; have e0 := X3.f 0; have e1 := X3.f 1)
  have X4 := X3.put 0 none 0 0
  have y0 := X4.c0
  have y1 := X4.c1
  have hb4 := below_put (w := w1) (N := w.heap.size) (b := w.heap.size + 1) (Nat.le_succ _) (.int .i64 0) (.slice none 0 0)
  generalize (w1.setCell ⟨w.heap.size + 1, 0, none⟩ (.int .i64 0)).setCell ⟨w.heap.size + 1, 1, none⟩ (.slice none 0 0) = w4 at *
  refine bodyPost_ret (v := .tuple #[setV 0 none 0 0, .int .i64 1]) (by simp [results, Tryz.results11, go_sem, y0, y1]) rfl ?_
  exact ⟨rfl, (below_step hb hb1).trans hb4⟩

set_option maxHeartbeats 4000000 in
theorem set_normal (D : Int) (A : Option Addr) (n c : Nat) (ps : List PEl) (w : World) (h : PiecesAt w A n ps) (hv : validS D ps = true) :
    Calls Tryz.prog 11 #[setV D A n c] w fun e w' => GatherRet D.toNat w e w' D (gatherD D.toNat (ps.map PEl.dat)) := by
  have HV := Lib.hid hv
  have hvp := valid_parts hv
  have B0 := (below_alloc w (.cells #[.int .i64 D, .slice A n c] 24))
  have B1 := SetBox.new w D A n c
  have B2 := B1.alloc (.cells #[.int .i64 0, .slice none 0 0] 24)
  have X2 := SetBox.new (w.alloc (.cells #[.int .i64 D, .slice A n c] 24)) 0 none 0 0
  rw [World.size_alloc] at X2
  have hb := below_step B0 (below_alloc _ (.cells #[.int .i64 0, .slice none 0 0] 24))
  have P2 := h.step hb
  have c0 := B2.c0
  have c1 := B2.c1
  have HPR := Lib.hid (show ∀ p ∈ ps, (∀ e ∈ p.els, PreB D.toNat e) ∧ p.n ≤ 1000 from fun p hp => ⟨(hvp.2 p hp).1, by have h1 := (hvp.2 p hp).2; have := (h.conds p hp).len; omega⟩)
  have HD := Lib.hid (show D.toNat ≤ 100 by omega)
  obtain ⟨gd, hgd⟩ : ∃ gd, gatherD D.toNat (ps.map PEl.dat) = gd := ⟨_, rfl⟩
  have HGD := Lib.hid hgd
  rw [hgd]
  obtain ⟨D', hD'⟩ : ∃ D', (if gd.1 ≠ 0 then (0 : Int) else D) = D' := ⟨_, rfl⟩
  have HDD := Lib.hid hD'
  clear hgd hD'
  clear hv B0 B1 h hvp
  go_enter Tryz.func11, Tryz.ntmps11
  go_wp2_with (go_at_call 43; refine (set_valid D A n c ps _ P2).mono ?_; rintro e w1 ⟨rfl, hb1⟩; rw [HV.out]; replace hb := below_step hb hb1; replace B2 := B2.step hb1; replace X2 := X2.step hb1; replace P2 := P2.step hb1; clear c0 c1; have x0 := B2.c0; have x1 := B2.c1)
  replace hb := hb.drew
  replace X2 := X2.step (Below.refl _ w1).drew
  replace B2 := B2.step (Below.refl _ w1).drew
  replace P2 := P2.step (Below.refl _ w1).drew
  go_region_held3 (fun W => W.cell? ⟨w.heap.size, 0, none⟩ = some (.int .i64 D) ∧ W.cell? ⟨w.heap.size, 1, none⟩ = some (.slice A n c)) (first | with_reducible exact ⟨x0, x1⟩ | with_reducible exact ⟨y0, y1⟩ | with_reducible exact ⟨z0, z1⟩ | go_keep)
    (first
      | (go_at_call 45; refine (values_at A n c _).mono ?_; rintro e w2 ⟨Bs, rfl, hBl, hBc, hb2⟩; have hB2 := below_step hb hb2; have S2 := B2.step hb2; have Z2 := X2.step hb2; have Q2 := P2.step hb2; have y0 := S2.c0; have y1 := S2.c1)
      | (go_at_call 44; refine (set_gathered HD.out D A n c ps _ Bs hBc hBl Q2 HPR.out).mono ?_; rw [HGD.out]; rintro e w3 ⟨A3, k3, c3, qs, rfl, hP3, hok3, hd3, hA3, hb3⟩; rw [HDD.out]; have HB3 := Lib.hid (And.intro hP3 (And.intro hok3 (And.intro hd3 (And.intro hA3 (below_step hB2 hb3))))); have S3 := S2.step hb3; have Z3 := Z2.step hb3; have z0 := S3.c0; have z1 := S3.c1; have d0 := Z3.c0; have d1 := Z3.c1; have e0 := Z3.f 0; have e1 := Z3.f 1; clear hP3 hok3 hd3 hA3 hb3))
  obtain ⟨hP3, hok3, hd3, hA3, hb3⟩ := HB3.out
  have hs2 := hB2.size
  have hl2 := S2.lt
  have hz2 := Z2.lt
  have X4 := Z3.put D' A3 k3 c3
  have hku := Z3.keepU (.int .i64 D') (.slice A3 k3 c3)
  have hok4 := fun p hp => (hok3 p hp).keep hku
  have hP4 := pieces_move hP3 hok4 hku.size (fun h0 g o hA => by
    obtain ⟨g', o', h1, h2⟩ := hA3 h0
    rw [hA] at h1
    cases h1
    exact put_other (by omega) _ _)
  have hb4 := hb3.trans (below_put (w := w3) (N := w.heap.size) (b := w.heap.size + 1) (Nat.le_succ _) (.int .i64 D') (.slice A3 k3 c3))
  rename_i hHeld
  clear hHeld hb3 hku
  generalize (w3.setCell ⟨w.heap.size + 1, 0, none⟩ (.int .i64 D')).setCell ⟨w.heap.size + 1, 1, none⟩ (.slice A3 k3 c3) = w4 at *
  have v0 := X4.c0
  have v1 := X4.c1
  go_wp2
  refine bodyPost_ret (v := .tuple #[setV D' A3 k3 c3, .int .i64 gd.1]) (by simp [results, Tryz.results11, go_sem, v0, v1]) rfl ?_
  refine ⟨A3, k3, c3, qs, by rw [HDD.out], hP4, hok4, hd3, (fun h => let ⟨g, o, h1, h2⟩ := hA3 h; ⟨g, o, h1, by omega⟩), hb4⟩
end Go.Proofs.YtkgnlloioaobiaaGreat

/-
  What Piece leaves is a valid piece.
-/
namespace Go.Proofs.YtkgnlloioaobiaaGreat
open Go.RowKit
set_option linter.unusedVariables false
set_option linter.unusedSimpArgs false

/-- A valid condition over n variables. -/
def ValidD (n : Nat) (d : CD) : Prop := validC d.q d.M d.xs d.K = true ∧ d.xs.length = n
theorem nf_valid1 {q M : Int} {n : Nat} {xs : List Int} {K : Int} (hl : xs.length = n) (hq : KindOk q M) (hs : (nf q M n xs K).2.2.2.2 = 0) :
    validC (nf q M n xs K).1 (nf q M n xs K).2.1 (nf q M n xs K).2.2.1 (nf q M n xs K).2.2.2.1 = validB (nf q M n xs K).2.2.1 (nf q M n xs K).2.2.2.1 ∧ (nf q M n xs K).2.2.1.length = n := by
  rcases nf_case (K := K) hl hq with ⟨s, hs'', h, hh⟩ | ⟨g, _, hg, h, _, _⟩ | ⟨D, _, hD, h, _, _, _, _⟩ | ⟨h, hq2, h0, hM, hne, e, _, _, _⟩
  · rw [h] at hs; exfalso; rcases hs'' with rfl | rfl <;> cases hs
  · rw [h]; unfold validC; simp [quoL]
  · rw [h]; unfold validC; simp [quoL]
  · rw [e]
    rcases hq with h1 | h1 | ⟨_, h1, h2⟩
    · rw [hq2] at h1; cases h1
    · rw [hq2] at h1; cases h1
    · have hM' := Int.ediv_mul_cancel hM
      have m3 := Int.ediv_le_self (h : Int) (show 0 ≤ M by omega)
      have hm : 1 ≤ M / (h : Int) := by
        rcases Int.lt_or_le (M / (h : Int)) 1 with hlt | hge
        · have m4 := Int.ediv_nonneg (show 0 ≤ M by omega) (show (0 : Int) ≤ h by omega)
          have : M / (h : Int) = 0 := by omega
          rw [this] at hM'; omega
        · exact hge
      refine ⟨?_, by simp [remL]⟩
      unfold validC
      simp; omega
/-- What settling keeps: whatever holds of the conditions and of the Eqs that pairs leave. -/
theorem settle_all {P : CD → Prop} (hP : ∀ d : CD, P d → P ⟨1, 0, d.xs, d.K⟩) {p out : List CD} (hn : ∀ d ∈ p, P d) (h : settleD p = some out) : ∀ d ∈ out, P d := by
  have hges : ∀ d ∈ gesD p, P d := fun d hd => hn d ((kind_ge_sub p).subset (comp_mem hd))
  have htight : ∀ d ∈ tightD (gesD p), P d := fun d hd => by
    unfold tightD at hd
    obtain ⟨x, hx, hd⟩ := List.mem_flatMap.1 hd
    unfold tightOne at hd
    split at hd
    · split at hd
      · rw [List.mem_singleton] at hd
        subst hd
        exact hP x (hges x hx)
      · cases hd
    · cases hd
  have heqs : ∀ d ∈ eqsD p, P d := fun d hd => by
    have hd := comp_mem hd
    split at hd
    · have := (sortL_perm leD _).mem_iff.1 hd
      rcases List.mem_append.1 this with h | h
      · exact hn d ((kind_eq_sub p).subset h)
      · exact htight d h
    · exact hn d ((kind_eq_sub p).subset hd)
  unfold settleD at h
  split at h
  · cases h
  · split at h
    · cases h
    · split at h
      · cases h
      · cases h
        intro d hd
        rcases List.mem_append.1 hd with hd | hd
        · rcases List.mem_append.1 hd with hd | hd
          · exact heqs d hd
          · have hr : d ∈ restD (gesD p) := by
              unfold impRest at hd
              split at hd
              · exact hd
              · exact (List.mem_filter.1 hd).1
            exact hges d (List.mem_filter.1 hr).1
        · have := comp_mem hd
          unfold kindDv at this
          exact hn d ((List.dropWhile_sublist _).subset ((List.dropWhile_sublist _).subset this))
/-- Piece's conditions are valid, and are 96 at most. -/
theorem piece_valid {n : Nat} {ds : List CD} (hq : ∀ d ∈ ds, KindOk d.q d.M ∧ d.xs.length = n) : (∀ d ∈ (pieceD n ds).1, ValidD n d) ∧ (pieceD n ds).1.length ≤ 96 := by
  unfold pieceD
  split
  · exact ⟨(fun d hd => nomatch hd), by simp⟩
  · split
    · exact ⟨(fun d hd => nomatch hd), by simp⟩
    · rename_i out hout
      split
      · exact ⟨(fun d hd => nomatch hd), by simp⟩
      · rename_i hb
        have hf : normFits n ds = true := by
          cases h : normFits n ds
          · exact absurd (.inl h) hb
          · rfl
        refine ⟨settle_all (P := ValidD n) (fun d hd => ⟨?_, hd.2⟩) (fun d hd => ?_) hout, ?_⟩
        · have := (validC_kind hd.1).1
          unfold validC
          rw [this]
          rfl
        · have hd := (sortL_perm leD _).mem_iff.1 hd
          have hfd := List.all_eq_true.1 hf d hd
          unfold normOut at hd
          obtain ⟨x, hx, hd⟩ := List.mem_flatMap.1 hd
          unfold openD at hd
          split at hd
          · rename_i h0
            rw [List.mem_singleton] at hd
            subst hd
            have := nf_valid1 (hq x hx).2 (hq x hx).1 h0
            exact ⟨this.1.trans hfd, this.2⟩
          · cases hd
        · rcases Nat.lt_or_ge 96 out.length with h1 | h1
          · exact absurd (.inr h1) hb
          · exact h1
end Go.Proofs.YtkgnlloioaobiaaGreat

/-
  slices.Concat at a row of pieces, as set.without calls it.
-/
namespace Go.Proofs.YtkgnlloioaobiaaGreat
open Go.RowKit
set_option linter.unusedVariables false
set_option linter.unusedSimpArgs false

/-- A piece as it lies, with valid conditions, 96 at most. -/
def PieceV (n : Nat) (w : World) (p : PEl) : Prop := PieceOk n w p ∧ (∀ d ∈ p.dat, ValidD n d) ∧ p.els.length ≤ 96
theorem PieceV.keep {n : Nat} {w w' : World} {p : PEl} (h : PieceV n w p) (hk : KeepU w w') : PieceV n w' p := ⟨h.1.keep hk, h.2⟩
theorem PieceV.step {n : Nat} {w w' : World} {p : PEl} (h : PieceV n w p) (hb : Below w.heap.size w w') : PieceV n w' p := h.keep (.of_below hb)
/-- Its conditions may be normalized. -/
theorem PieceV.pre {n : Nat} {w : World} {p : PEl} (h : PieceV n w p) : ∀ e ∈ p.els, PreB n e := fun e he => by
  obtain ⟨hv, hl⟩ := h.2.1 e.d (List.mem_map.2 ⟨e, he, rfl⟩)
  obtain ⟨_, hK, hx⟩ := validB_true.1 (validC_kind hv).1
  have hK := fitsB_true.1 hK
  exact ⟨(h.1.2.1 e he).2.1, validC_ok hv, by have : e.d.K = e.K := rfl; omega, fun x hxm => by have := fitsB_true.1 (hx x hxm); omega⟩
theorem PieceV.kinds {n : Nat} {w : World} {p : PEl} (h : PieceV n w p) : ∀ d ∈ p.dat, KindOk d.q d.M ∧ d.xs.length = n := fun d hd => ⟨validC_ok (h.2.1 d hd).1, (h.2.1 d hd).2⟩
/-- The first conditions of a piece. -/
theorem PieceV.take {n : Nat} {w : World} {A : Option Addr} {m c : Nat} {els : List CEl} (h : PieceV n w ⟨A, m, c, els⟩) {i : Nat} (hi : i ≤ m) (c' : Nat) (hc : A = none → c' = 0) (hi' : i ≤ c') : PieceV n w ⟨A, i, c', els.take i⟩ := by
  obtain ⟨⟨h1, h2, h3, h4⟩, h5, h6⟩ := h
  have hs := CV.sub (show CV 0 0 w A m els from h1) (i := 0) (k := i) (by omega) (A' := A) (fun _ g o hA => by rw [hA]; simp)
  rw [List.drop_zero] at hs
  refine ⟨⟨hs, fun e he => h2 e (List.mem_of_mem_take he), ?_, ⟨hc, h4.1.2⟩, hi'⟩, fun d hd => ?_, ?_⟩
  · have : m ≤ 1000 := h3
    show i ≤ 1000
    omega
  · obtain ⟨e, he, rfl⟩ := List.mem_map.1 hd
    exact h5 _ (List.mem_map.2 ⟨e, List.mem_of_mem_take he, rfl⟩)
  · have : els.length ≤ 96 := h6
    show (els.take i).length ≤ 96
    rw [List.length_take]
    omega
/-- The pieces' row is read. -/
theorem row_pieces {n : Nat} {w : World} {g : Nat} {ps : List PEl} (hg : w.heap[g]? = some (.cells (ps.map PEl.v).toArray 34 (0, 0))) (hok : ∀ p ∈ ps, PieceOk n w p) (hl : ps.length ≤ 1000) : PiecesAt w (some ⟨g, 0, none⟩) ps.length ps := by
  refine ⟨rfl, by omega, fun _ => ⟨g, 0, rfl, (Array.getElem?_eq_some_iff.1 hg).1, fun j p hp => ?_⟩, fun p hp => (hok p hp).1.conds⟩
  rw [Nat.zero_add, cell_of_row w g j _ _ (0, 0) hg]
  simp [hp, PEl.v]
theorem flat_few {ps : List PEl} : (∀ p ∈ ps, p.els.length ≤ 1000) → (ps.flatMap PEl.els).length ≤ ps.length * 1000 := by
  induction ps with
  | nil => intro _; simp
  | cons a l ih =>
    intro h
    have h1 := h a (List.mem_cons_self ..)
    have h2 := ih fun p hp => h p (List.mem_cons_of_mem _ hp)
    simp only [List.flatMap_cons, List.length_append, List.length_cons]
    omega
/-- slices.Concat of pieces. -/
theorem joined {n : Nat} {w : World} {g : Nat} {ps : List PEl} (m cm : Nat) (hm : m = ps.length) (hg : w.heap[g]? = some (.cells (ps.map PEl.v).toArray 34 (0, 0))) (hok : ∀ p ∈ ps, PieceV n w p) (hl : ps.length ≤ 3) :
    Calls Tryz.prog 52 #[.slice (some ⟨g, 0, none⟩) m cm] w fun e w' => ∃ A k c, e = .returned (.slice A k c) ∧ CondsAt w' A k (ps.flatMap PEl.els) ∧ k ≤ 1000 ∧ Below w.heap.size w w' := by
  subst hm
  have hlen : (ps.flatMap PEl.els).length ≤ 288 := by
    have key : ∀ l : List PEl, (∀ p ∈ l, p.els.length ≤ 96) → (l.flatMap PEl.els).length ≤ l.length * 96 := by
      intro l
      induction l with
      | nil => intro _; simp
      | cons a l ih =>
        intro h
        have h1 := h a (List.mem_cons_self ..)
        have h2 := ih fun p hp => h p (List.mem_cons_of_mem _ hp)
        simp only [List.flatMap_cons, List.length_append, List.length_cons]
        omega
    have := key ps fun p hp => (hok p hp).2.2
    omega
  refine (conds_concat (N0 := 0) w (row_pieces hg (fun p hp => (hok p hp).1) (by omega)) (fun p hp => (hok p hp).1.1.rows) (fun p hp => (hok p hp).1.2.2.2.1) (by omega) (by omega)).mono ?_
  rintro e w' ⟨A, c, rfl, hL, hb⟩
  exact ⟨A, _, c, rfl, hL.conds.2, by omega, hb⟩
/-- A row of one condition. -/
theorem one_piece {n : Nat} {w : World} {e : CEl} {g : Nat} (hg : w.heap[g]? = some (.cells (ccells [e]).toArray 56 (0, 0))) (hi : IntsAt w e.A e.n e.xs) (hr : RowOk 0 w e.A e.n) (hn : e.n = n) (hv : ValidD n e.d) : PieceV n w ⟨some ⟨g, 0, none⟩, 1, 1, [e]⟩ := by
  obtain ⟨_, hK, hx⟩ := validB_true.1 (validC_kind hv.1).1
  have hK := fitsB_true.1 hK
  have hk : e.d.K = e.K := rfl
  have hM : e.d.M = e.M := rfl
  have hq : e.d.q = e.q := rfl
  refine ⟨⟨?_, fun x hx' => ?_, by show (1 : Nat) ≤ 1000; omega, ⟨(fun h => nomatch h), fun ad h => by cases h; rfl⟩, Nat.le_refl _⟩, fun d hd => ?_, by simp⟩
  · refine CV.of_cl (c := 1) ⟨⟨by simp [ccells_len], .inr ⟨g, 1, _, rfl, Nat.zero_le _, hg, by simp, by decide, by simp [ccells_len], by simp [ccells, CEl.cells]⟩⟩, by simp, fun x hx' => ?_, fun x hx' => ?_⟩
    · rw [List.mem_singleton.1 hx']; exact hi
    · rw [List.mem_singleton.1 hx']; exact hr
  · rw [List.mem_singleton.1 hx']
    refine ⟨?_, hn, ?_, by omega, fun y hy => by have := fitsB_true.1 (hx y hy); omega⟩
    · rcases (validC_kind hv.1).2 with ⟨h, _⟩ | ⟨h, _⟩ | ⟨h, _⟩
      · exact .inl (hq ▸ h)
      · exact .inr (.inl (hq ▸ h))
      · exact .inr (.inr (hq ▸ h))
    · rcases (validC_kind hv.1).2 with ⟨_, h⟩ | ⟨_, h⟩ | ⟨_, h, h'⟩ <;> omega
  · have : d = e.d := by simpa [PEl.dat] using hd
    rw [this]
    exact hv
end Go.Proofs.YtkgnlloioaobiaaGreat

/-
  What set.without and set.Minus come to, of the pieces' data.
-/
namespace Go.Proofs.YtkgnlloioaobiaaGreat
open Go.RowKit
set_option linter.unusedVariables false
set_option linter.unusedSimpArgs false

section
variable {α : Type} (f : List (List CD) → α → Int × List (List CD))
/-- One step, where none has failed. -/
def stick (r : Int × List (List CD)) (x : α) : Int × List (List CD) := if r.1 ≠ 0 then r else f r.2 x
def foldE (l : List α) (us : List (List CD)) : Int × List (List CD) := l.foldl (stick f) (0, us)
variable {f}
theorem stick_stuck {r : Int × List (List CD)} (h : r.1 ≠ 0) : ∀ l : List α, l.foldl (stick f) r = r
  | [] => rfl
  | d :: l => by
    rw [List.foldl_cons, show stick f r d = r from if_pos h]
    exact stick_stuck h l
theorem fold_stuck {l l' : List α} {us : List (List CD)} (h : (foldE f l us).1 ≠ 0) : foldE f (l ++ l') us = foldE f l us := by
  unfold foldE at h ⊢
  rw [List.foldl_append]
  exact stick_stuck h l'
theorem fold_next {l : List α} {us vs : List (List CD)} (h : foldE f l us = (0, vs)) (x : α) : foldE f (l ++ [x]) us = f vs x := by
  unfold foldE at h ⊢
  rw [List.foldl_append, h]
  show stick f (0, vs) x = _
  unfold stick
  exact if_neg (show ¬ ((0 : Int) ≠ 0) by decide)
theorem fold_take {l : List α} {us vs : List (List CD)} {i : Nat} {x : α} (hx : l[i]? = some x) (h : foldE f (l.take i) us = (0, vs)) : foldE f (l.take (i + 1)) us = f vs x := by
  rw [List.take_add_one, hx]
  exact fold_next h x
theorem fold_fail {l : List α} {us : List (List CD)} {i : Nat} {r : Int × List (List CD)} (h : foldE f (l.take i) us = r) (h0 : r.1 ≠ 0) : foldE f l us = r := by
  have := fold_stuck (f := f) (l := l.take i) (l' := l.drop i) (us := us) (by rw [h]; exact h0)
  rw [List.take_append_drop, h] at this
  exact this
theorem fold_good {P : List (List CD) → Prop} {l : List α} {us : List (List CD)} (h0 : P us) (hf : ∀ x ∈ l, ∀ us, P us → P (f us x).2) : P (foldE f l us).2 := by
  unfold foldE
  have key : ∀ (l : List α) (r : Int × List (List CD)), (∀ x ∈ l, ∀ us, P us → P (f us x).2) → P r.2 → P (l.foldl (stick f) r).2 := by
    intro l
    induction l with
    | nil => intro r _ h; exact h
    | cons a l ih =>
      intro r hl h
      rw [List.foldl_cons]
      refine ih _ (fun x hx => hl x (List.mem_cons_of_mem _ hx)) ?_
      unfold stick
      split
      · exact h
      · exact hl a (List.mem_cons_self ..) _ h
  exact key l (0, us) hf h0
end
/-- Valid pieces, 400 at most. -/
def GoodU (n : Nat) (us : List (List CD)) : Prop := (∀ u ∈ us, (∀ d ∈ u, ValidD n d) ∧ u.length ≤ 96) ∧ us.length ≤ 400
def KindsOk (n : Nat) (ds : List CD) : Prop := ∀ d ∈ ds, KindOk d.q d.M ∧ d.xs.length = n
theorem ValidD.kind {n : Nat} {d : CD} (h : ValidD n d) : KindOk d.q d.M ∧ d.xs.length = n := ⟨validC_ok h.1, h.2⟩
theorem keep_good {n : Nat} {us : List (List CD)} {d : List CD} (h : GoodU n us) (hd : (∀ x ∈ d, ValidD n x) ∧ d.length ≤ 96) : GoodU n (keepD us d).2 := by
  unfold keepD
  split
  · exact h
  · split
    · exact h
    · rename_i h1 h2
      refine ⟨fun u hu => ?_, by rw [List.length_append]; have := h.2; simp; omega⟩
      rcases List.mem_append.1 hu with hu | hu
      · exact h.1 u hu
      · rw [List.mem_singleton.1 hu]; exact hd
theorem add_good {n : Nat} {us : List (List CD)} {ds : List CD} (h : GoodU n us) (hd : KindsOk n ds) : GoodU n (addD n us ds).2 := by
  unfold addD
  split
  · exact h
  · exact keep_good h (piece_valid hd)
theorem gather_fold (n : Nat) (l : List (List CD)) : gatherD n l = foldE (addD n) l [] := rfl
theorem gather_good {n : Nat} {l : List (List CD)} (hl : ∀ ds ∈ l, KindsOk n ds) : GoodU n (gatherD n l).2 := by
  rw [gather_fold]
  exact fold_good (P := GoodU n) ⟨(fun u h => nomatch h), by simp⟩ fun x hx us h => add_good h (hl x hx)

/-- A piece without the points of another: the i-th condition's opposites. -/
def cutOne (n : Nat) (p c : List CD) (us : List (List CD)) (i : Nat) : Int × List (List CD) :=
  match c[i]? with
  | some d => if negE d.q d.M n d.xs d.K ≠ 0 then (negE d.q d.M n d.xs d.K, us) else foldE (fun us z => addD n us (p ++ (c.take i ++ [z]))) (negL d.q d.M n d.xs d.K) us
  | none => (0, us)
def withOne (n : Nat) (c : List CD) (us : List (List CD)) (p : List CD) : Int × List (List CD) :=
  if (pieceD n (p ++ c)).2.2 ≠ 0 then ((pieceD n (p ++ c)).2.2, us) else if (pieceD n (p ++ c)).2.1 = true then keepD us p else foldE (cutOne n p c) (List.range c.length) us
/-- What without comes to. -/
def withoutD (n : Nat) (ps : List (List CD)) (c : List CD) : Int × List (List CD) := foldE (withOne n c) ps []
/-- What Minus comes to. -/
def minusD (n : Nat) (ps qs : List (List CD)) : Int × List (List CD) :=
  if (gatherD n ps).1 ≠ 0 then ((gatherD n ps).1, []) else if (gatherD n qs).1 ≠ 0 then ((gatherD n qs).1, []) else foldE (withoutD n) (gatherD n qs).2 (gatherD n ps).2

def awA : List (List CD) := [[⟨0, 0, [1], 0⟩, ⟨0, 0, [-1], 5⟩]]
def awB : List (List CD) := [[⟨0, 0, [1], -2⟩, ⟨0, 0, [-1], 3⟩]]
theorem aw_one : gatherD 1 awA = (0, [[⟨0, 0, [-1], 5⟩, ⟨0, 0, [1], 0⟩]]) := by decide
theorem aw_minus : minusD 1 awA awB = (0, [[⟨0, 0, [-1], 5⟩, ⟨0, 0, [1], -4⟩], [⟨0, 0, [-1], 1⟩, ⟨0, 0, [1], 0⟩]]) := by kernel_rfl
theorem aw_three : gatherD 1 [[⟨0, 0, [1], -3⟩, ⟨0, 0, [-1], 3⟩]] = (0, [[⟨1, 0, [1], -3⟩]]) := by kernel_rfl
end Go.Proofs.YtkgnlloioaobiaaGreat

/-
  The front of a slice of conditions.
-/
namespace Go.Proofs.YtkgnlloioaobiaaGreat
open Go.RowKit
set_option linter.unusedVariables false
set_option linter.unusedSimpArgs false

theorem slice_conds {np cp j : Nat} {Ap : Option Addr} (hs : Sane Ap cp) (hn : np ≤ cp) (hj : j ≤ np) {a : Act} {W : World} {o : Oper} {k l : Nat} (ho : o.op = .slice 34 (.tmp k) none (some (.tmp l)) none)
    (hx : a.tmps.getD k undef = .slice Ap np cp) (hy : a.tmps.getD l undef = .int .i64 j) : (execOp a.eval o).run Tryz.prog W = .ok (.value (.slice Ap j cp)) W := by
  obtain ⟨hnone, hat⟩ := hs
  have e1 := getd hx
  have e2 := getd hy
  obtain ⟨dst, op, ty, pos, after, guard⟩ := o
  simp only at ho
  subst ho
  have hj1 : (j : Int) ≤ np := by omega
  have hj2 : (j : Int) ≤ cp := by omega
  have hn1 : (np : Int) ≤ cp := by omega
  cases Ap with
  | none =>
    obtain rfl := hnone rfl
    obtain rfl : np = 0 := by omega
    obtain rfl : j = 0 := by omega
    clear hx hy
    go_simp
  | some ad =>
    obtain ⟨b, off, sp⟩ := ad
    have h1 : sp = none := hat _ rfl
    subst h1
    clear hx hy
    go_simp
end Go.Proofs.YtkgnlloioaobiaaGreat

/-
  The conditions that Negate answers are valid.
-/
namespace Go.Proofs.YtkgnlloioaobiaaGreat
open Go.RowKit
set_option linter.unusedVariables false
set_option linter.unusedSimpArgs false

theorem out_valid0 {n : Nat} {ds : List CD} (hn : n ≤ 12) (h : ∀ d ∈ ds, OppOk n d) (hb : ds.any (negBad n) = false) : ∀ d ∈ negOut n ds, validC d.q d.M d.xs d.K = true ∧ d.xs.length = n := by
  intro d hd
  obtain ⟨d0, hd0, hd⟩ := List.mem_flatMap.1 hd
  obtain ⟨h1, h2, h3, h4⟩ := h d0 hd0
  have hbad : negBad n d0 = false := by
    rw [List.any_eq_false] at hb
    simpa using hb d0 hd0
  unfold negOne at hd
  split at hd
  · rename_i hs
    rw [List.mem_singleton.1 hd]
    have hs' : (nf d0.q d0.M n d0.xs d0.K).2.2.2.2 = 0 := hs
    have hi := (nf_idem h4 h1 hs').1
    have hvb : validB (nf d0.q d0.M n d0.xs d0.K).2.2.1 (nf d0.q d0.M n d0.xs d0.K).2.2.2.1 = true := by
      unfold negBad at hbad
      rw [show decide ((nfD n d0).2.2.2.2 = 0) = true by simpa using hs, Bool.true_and] at hbad
      simpa [nfD] using hbad
    refine ⟨?_, hi⟩
    show validC (nf d0.q d0.M n d0.xs d0.K).1 (nf d0.q d0.M n d0.xs d0.K).2.1 (nf d0.q d0.M n d0.xs d0.K).2.2.1 (nf d0.q d0.M n d0.xs d0.K).2.2.2.1 = true
    unfold validC
    rw [hvb, Bool.true_and]
    rcases nf_case (K := d0.K) h4 h1 with ⟨s, hs'', h, hh⟩ | ⟨g, _, hg, h, _, _⟩ | ⟨D, _, hD, h, _, _, _, _⟩ | ⟨h, hq, h0, hM, hne, e, _, _, _⟩
    · rw [h] at hs'; exfalso; rcases hs'' with rfl | rfl <;> cases hs'
    · rw [h]; rfl
    · rw [h]; rfl
    · rw [e]
      rcases h1 with h1 | h1 | ⟨_, h1, h2⟩
      · rw [hq] at h1; cases h1
      · rw [hq] at h1; cases h1
      · have hM' := Int.ediv_mul_cancel hM
        have m3 := Int.ediv_le_self (h : Int) (show 0 ≤ d0.M by omega)
        have hm : 1 ≤ d0.M / (h : Int) := by
          rcases Int.lt_or_le (d0.M / (h : Int)) 1 with hlt | hge
          · have m4 := Int.ediv_nonneg (show 0 ≤ d0.M by omega) (show (0 : Int) ≤ h by omega)
            have : d0.M / (h : Int) = 0 := by omega
            rw [this] at hM'; omega
          · exact hge
        simp; omega
  · split at hd
    · rw [List.mem_singleton.1 hd]
      refine ⟨?_, zeros_len n⟩
      show validC 0 0 (zeros n) 0 = true
      unfold validC
      rw [validB_true.2 ⟨by rw [zeros_len]; exact hn, by decide, fun x hx => by rw [List.eq_of_mem_replicate hx]; decide⟩]
      rfl
    · cases hd
theorem neg_valid {q M : Int} {n : Nat} {xs : List Int} {K : Int} (hn : n ≤ 12) (hv : validC q M xs K = true) (hl : xs.length = n) : ∀ d ∈ negL q M n xs K, ValidD n d := fun d hd => by
  unfold negL at hd
  rw [if_pos hv] at hd
  split at hd
  · cases hd
  · rename_i hf
    unfold negFull at hf
    have hb : (oppL q M n xs K).any (negBad n) = false := by
      cases h : (oppL q M n xs K).any (negBad n)
      · rfl
      · rw [h] at hf; exact absurd rfl hf
    exact out_valid0 hn (opp_ok hv).1 hb d hd
end Go.Proofs.YtkgnlloioaobiaaGreat

/-
  set.without.
-/
namespace Go.Proofs.YtkgnlloioaobiaaGreat
open Go.RowKit Go.Shelf
set_option linter.unusedVariables false
set_option linter.unusedSimpArgs false
set_option maxRecDepth 100000

theorem gather_fail {n : Nat} {w w' : World} {D : Int} {r : Int × List (List CD)} {er : Int} (hr : r.1 = er) (h0 : er ≠ 0) (hb : Below w.heap.size w w') : GatherRet n w (.returned (.tuple #[setV 0 none 0 0, .int .i64 er])) w' D r := by
  subst hr
  refine ⟨none, 0, 0, [], by rw [if_pos h0], ⟨rfl, by omega, fun h => absurd h (by omega), (fun p h => nomatch h)⟩, (fun p h => nomatch h), by rw [if_pos h0]; rfl, fun h => absurd h (by omega), hb⟩

theorem wd_fail {n : Nat} {cd : List CD} {l : List (List CD)} {wd r : Int × List (List CD)} {i : Nat} {er : Int} (hw : withoutD n l cd = wd) (h : foldE (withOne n cd) (l.take (i + 1)) [] = r) (hr : r.1 = er) (h0 : er ≠ 0) : wd.1 = er := by
  rw [← hw]
  unfold withoutD
  rw [fold_fail h (by rw [hr]; exact h0), hr]




set_option maxHeartbeats 8000000 in
theorem set_without {n : Nat} (hn : n ≤ 12) (D : Int) (A : Option Addr) (k c : Nat) (ps : List PEl) (B : Option Addr) (m c' : Nat) (els : List CEl) (w : World) (P0 : PiecesAt w A k ps) (hk : k ≤ 400) (hv : ∀ p ∈ ps, PieceV n w p) (hq : PieceV n w ⟨B, m, c', els⟩) :
    Calls Tryz.prog 54 #[setV D A k c, .slice B m c'] w fun e w' => GatherRet n w e w' D (withoutD n (ps.map PEl.dat) (els.map CEl.d)) := by
  have HV := Lib.hid hv
  have HQ := Lib.hid hq
  have HLP := Lib.hid P0.len
  obtain ⟨cd, hcd⟩ : ∃ cd, els.map CEl.d = cd := ⟨_, rfl⟩
  rw [hcd]
  have HCD := Lib.hid hcd
  obtain ⟨wd, hwd⟩ : ∃ wd, withoutD n (ps.map PEl.dat) cd = wd := ⟨_, rfl⟩
  rw [hwd]
  have HWD := Lib.hid hwd
  have B0 := (below_alloc w (.cells #[.int .i64 D, .slice A k c] 24))
  have B1 := SetBox.new w D A k c
  have B2 := B1.alloc (.cells #[.int .i64 0, .slice none 0 0] 24)
  have X2 := SetBox.new (w.alloc (.cells #[.int .i64 D, .slice A k c] 24)) 0 none 0 0
  rw [World.size_alloc] at X2
  have hb := below_step B0 (below_alloc _ (.cells #[.int .i64 0, .slice none 0 0] 24))
  have hs0 : ((w.alloc (.cells #[.int .i64 D, .slice A k c] 24)).alloc (.cells #[.int .i64 0, .slice none 0 0] 24)).heap.size = w.heap.size + 2 := by simp
  clear hv hq hcd hwd B0 B1
  go_enter Tryz.func54, Tryz.ntmps54
  go_wp2
  go_step3
  go_wp2_with (go_at_call 73; refine (union_new n _).mono ?_; rintro e w1 ⟨⟨b, r, rfl, U1⟩, hb1⟩; rw [hs0] at U1; replace hb := below_step hb hb1; replace B2 := B2.step hb1; replace X2 := X2.step hb1; have x0 := B2.c0; have x1 := B2.c1)
  go_step3
  go_wp2
  go_loopg [24] k (fun g v wr => ∃ i : Nat, i + g = k ∧ v = .int .i64 i ∧ (∃ u us, UN n (w.heap.size + 2) wr b u r us ∧ foldE (withOne n cd) ((ps.map PEl.dat).take i) [] = (0, us.map PEl.dat)) ∧ (SetBox wr w.heap.size D A k c ∧ SetBox wr (w.heap.size + 1) 0 none 0 0) ∧ Below w.heap.size w wr)
  case atStart => exact ⟨0, by omega, rfl, ⟨_, [], U1, rfl⟩, ⟨B2, X2⟩, hb⟩
  case round =>
    clear B2 X2 hb x0 x1 U1 hb1
    obtain ⟨i, hig, rfl, ⟨u, us, hU, hF⟩, ⟨B2, X2⟩, hbr⟩ := hrel
    have HF := Lib.hid hF
    clear hF
    cases gk with
    | succ g =>
      have hlt : i < k := by omega
      obtain ⟨b1, off1, p, hA, hblt, hpj, hmem, hcell, hCp⟩ := (P0.step hbr).at hlt
      have hVp := (HV.out p hmem).step hbr
      have HT := Lib.hid (fold_take (f := withOne n cd) (us := []) (i := i) (x := p.dat) (l := ps.map PEl.dat) (by rw [List.getElem?_map, hpj]; rfl) HF.out)
      have hVq := HQ.out.step hbr
      have HMP := Lib.hid hmem
      obtain ⟨q1, hq1⟩ : ∃ q1, pieceD n (p.dat ++ cd) = q1 := ⟨_, rfl⟩
      have HP1 := Lib.hid hq1
      obtain ⟨l1, vd, er⟩ := q1
      obtain ⟨pA, pn, pc, pels⟩ := p
      simp only at hcell
      have b5 := below_alloc wr (.cells #[.slice pA pn pc, .slice B m c'] 34)
      have hG := heap_alloc_new wr (.cells #[.slice pA pn pc, .slice B m c'] 34)
      have HJ := Lib.hid (joined (n := n) (ps := [⟨pA, pn, pc, pels⟩, ⟨B, m, c', els⟩]) 2 2 rfl hG (fun x hx => by
        rcases List.mem_cons.1 hx with rfl | hx
        · exact hVp.step b5
        · rw [List.mem_singleton.1 hx]; exact hVq.step b5) (by simp))
      have HPR := Lib.hid (fun W k9 A9 c9 (hC : CondsAt W A9 k9 ([(⟨pA, pn, pc, pels⟩ : PEl), ⟨B, m, c', els⟩].flatMap PEl.els)) (h9 : k9 ≤ 1000) => wide_piece (n := n) (c := c9) W hC (fun e he => by
        simp only [List.flatMap_cons, List.flatMap_nil, List.append_nil] at he
        rcases List.mem_append.1 he with he | he
        · exact hVp.pre e he
        · exact hVq.pre e he) h9)
      have HDD := Lib.hid (show pieceD n (([(⟨pA, pn, pc, pels⟩ : PEl), ⟨B, m, c', els⟩].flatMap PEl.els).map CEl.d) = (l1, vd, er) by
        rw [← hq1, ← HCD.out]
        simp [PEl.dat])
      have HU := Lib.hid hU
      have HVP := Lib.hid hVp
      have HVQ := Lib.hid hVq
      have hqq : (i : Int) < k := by omega
      subst hA
      clear hq1 hCp hmem hpj hVp hVq hU b5 hG
      by_cases h0 : er = 0
      · subst h0
        cases vd
        · have HWR := Lib.hid (show w.heap.size + 2 ≤ wr.heap.size from X2.lt)
          obtain ⟨pd, hpd⟩ : ∃ pd, (⟨pA, pn, pc, pels⟩ : PEl).dat = pd := ⟨_, rfl⟩
          have HPD := Lib.hid hpd
          have HT2 := Lib.hid (show foldE (withOne n cd) ((ps.map PEl.dat).take (i + 1)) [] = foldE (cutOne n pd cd) (List.range cd.length) (us.map PEl.dat) by
            rw [HT.out]
            unfold withOne
            rw [HP1.out, if_neg (show ¬ ((0 : Int) ≠ 0) by decide), if_neg (by simp), hpd])
          clear hpd
          go_wp2_with (first
            | (go_at_call 52; refine HJ.out.mono ?_; rintro e w3 ⟨A3, k3, c3, rfl, hC3, hk3, hb3⟩; have hb4 := (below_alloc wr (.cells #[.slice pA pn pc, .slice B m c'] 34)).trans (hb3.mono (below_alloc wr (.cells #[.slice pA pn pc, .slice B m c'] 34)).size))
            | (go_at_call 71; refine (HPR.out w3 k3 A3 c3 hC3 hk3).mono ?_; rw [HDD.out]; rintro e w4 ⟨A4, k4, c4, l4, rfl, hL4, hd4, hn4, hb5⟩; have hb6 := below_step hb4 hb5; have U4 := HU.out.step hb6; have X4 := X2.step hb6; have B4 := B2.step hb6; have hbw := hbr.trans (hb6.mono hbr.size); clear hb4 hb5 hb6 hb3 hC3 hL4 hd4 hn4))
          have HQL := Lib.hid (show els.length = m from HQ.out.1.1.conds.len)
          have hm9 : m ≤ 1000 := HQ.out.1.2.2.1
          go_loopg [51] m (fun g2 v wx => ∃ j : Nat, j + g2 = m ∧ v = .int .i64 j ∧ (∃ u us2, UN n (w.heap.size + 2) wx b u r us2 ∧ foldE (cutOne n pd cd) ((List.range cd.length).take j) (us.map PEl.dat) = (0, us2.map PEl.dat)) ∧ (SetBox wx w.heap.size D (some ⟨b1, off1, none⟩) k c ∧ SetBox wx (w.heap.size + 1) 0 none 0 0) ∧ Below w.heap.size w wx)
          case atStart => exact ⟨0, by omega, rfl, ⟨_, us, U4, rfl⟩, ⟨B4, X4⟩, hbw⟩
          case round =>
            clear U4 X4 B4 hbw
            obtain ⟨j, hjg, rfl, ⟨u2, us2, hU2, hF2⟩, ⟨B6, X6⟩, hbx⟩ := hrel
            have HF2 := Lib.hid hF2
            clear hF2
            cases gk with
            | zero =>
              obtain rfl : j = m := by omega
              have hge : ¬ ((j : Int) < j) := by omega
              have HE2 := Lib.hid (show foldE (withOne n cd) ((ps.map PEl.dat).take (i + 1)) [] = (0, us2.map PEl.dat) by
                rw [HT2.out, ← HF2.out, List.take_of_length_le (by rw [List.length_range, ← HCD.out, List.length_map, HQL.out]; exact Nat.le_refl _)])
              go_wp2
              go_roundg g
              case measure => omega
              case rel => exact ⟨i + 1, by omega, by go_num, ⟨u2, us2, hU2, HE2.out⟩, ⟨B6, X6⟩, hbx⟩
            | succ g2 =>
              have hlt2 : j < m := by omega
              have hVq := HQ.out.step hbx
              obtain ⟨b2, off2, e, hB, hblt2, hej, hmem, hcs, hin⟩ := hVq.1.1.conds.at hlt2
              obtain ⟨x0, x1, x2, x3⟩ := hcs
              have hen := (hVq.1.2.1 e hmem).2.1
              have HVE := Lib.hid (hVq.2.1 e.d (List.mem_map.2 ⟨e, hmem, rfl⟩))
              have HEJ := Lib.hid hej
              obtain ⟨eq, eM, eA, en, ec, eK, exs⟩ := e
              simp only at x0 x1 x2 x3 hin hen
              subst hen
              have hq2 : (j : Int) < m := by omega
              have b5 := below_alloc wr (.cells #[.int .i64 eq, .int .i64 eM, .slice eA en ec, .int .i64 eK] 56)
              have y1 := hin.step b5
              have X1 := CBox.new wr eq eM eA en ec eK
              obtain ⟨er, her⟩ : ∃ er, negE eq eM en exs eK = er := ⟨_, rfl⟩
              have HER := Lib.hid her
              have HT3 := Lib.hid (fold_take (f := cutOne en pd cd) (l := List.range cd.length) (i := j) (x := j) (List.getElem?_range (by rw [← HCD.out, List.length_map, HQL.out]; exact hlt2)) HF2.out)
              have HCJ := Lib.hid (show cd[j]? = some ⟨eq, eM, exs, eK⟩ by rw [← HCD.out, List.getElem?_map, hej]; rfl)
              have hbx1 := hbx.trans (b5.mono hbx.size)
              subst hB
              clear hej hmem hVq hin her
              by_cases h0 : er = 0
              · subst h0
                obtain ⟨nl, hnl⟩ : ∃ nl, negL eq eM en exs eK = nl := ⟨_, rfl⟩
                have HNL := Lib.hid hnl
                have HT4 := Lib.hid (show foldE (cutOne en pd cd) ((List.range cd.length).take (j + 1)) (us.map PEl.dat) = foldE (fun us z => addD en us (pd ++ (cd.take j ++ [z]))) nl (us2.map PEl.dat) by
                  rw [HT3.out]
                  unfold cutOne
                  rw [HCJ.out]
                  simp only [HER.out, HNL.out]
                  rw [if_neg (show ¬ ((0 : Int) ≠ 0) by decide)])
                clear hnl
                go_wp2_with (go_at_call 80; refine (cond_neg eq eM eA en ec eK exs _ y1).mono ?_; rw [HER.out, HNL.out]; rintro e w4 ⟨ul, els3, rfl, hL3, hd3, hn3, hbn⟩; have hb9 := hbx1.trans (hbn.mono hbx1.size); have X4 := (X6.step b5).step hbn; have B4 := (B6.step b5).step hbn; have U4 := (hU2.step b5).step hbn; obtain ⟨lA, lc, rfl⟩ := hL3.slice; have HL3 := Lib.hid (And.intro hL3 (And.intro hd3 hn3)); have hfew3 := hL3.few; clear hL3 hd3 hn3)
                go_loopg [67] els3.length (fun g3 v wz => ∃ z : Nat, z + g3 = els3.length ∧ v = .int .i64 z ∧ (∃ u us3, UN en (w.heap.size + 2) wz b u r us3 ∧ foldE (fun us z => addD en us (pd ++ (cd.take j ++ [z]))) (nl.take z) (us2.map PEl.dat) = (0, us3.map PEl.dat)) ∧ (SetBox wz w.heap.size D (some ⟨b1, off1, none⟩) k c ∧ SetBox wz (w.heap.size + 1) 0 none 0 0) ∧ KeepU w4 wz ∧ Below w.heap.size w wz)
                case atStart => exact ⟨0, by omega, rfl, ⟨_, us2, U4, rfl⟩, ⟨B4, X4⟩, KeepU.refl _, hb9⟩
                case round =>
                  clear U4 X4 B4
                  obtain ⟨z, hzg, rfl, ⟨u3, us3, hU3, hF3⟩, ⟨B8, X8⟩, hku, hbz⟩ := hrel
                  have HF3 := Lib.hid hF3
                  clear hF3
                  cases gk with
                  | zero =>
                    have hge : ¬ ((z : Int) < (els3.length : Nat)) := by omega
                    have HE3 := Lib.hid (show foldE (cutOne en pd cd) ((List.range cd.length).take (j + 1)) (us.map PEl.dat) = (0, us3.map PEl.dat) by
                      have h5 := HF3.out
                      rw [show nl.take z = nl from List.take_of_length_le (by rw [← HL3.out.2.1, List.length_map]; omega)] at h5
                      rw [HT4.out]
                      exact h5)
                    go_wp2
                    go_roundg g2
                    case measure => omega
                    case rel => exact ⟨j + 1, by omega, by go_num, ⟨u3, us3, hU3, HE3.out⟩, ⟨B8, X8⟩, hbz⟩
                  | succ g3 =>
                    have hlt3 : z < els3.length := by omega
                    have hCV := CV.keep ((CV.of_cl HL3.out.1).mono (Nat.zero_le _) (Nat.zero_le _)) hku
                    obtain ⟨b3, off3, f, hB3, hblt3, hej3, hmem3, hcs3, hin3⟩ := hCV.conds.at hlt3
                    obtain ⟨v0, v1, v2, v3⟩ := hcs3
                    have hro3 := hCV.rows f hmem3
                    have hne3 := HL3.out.2.2 f hmem3
                    have hnv : ValidD en f.d := neg_valid hn HVE.out.1 HVE.out.2 f.d (by show f.d ∈ negL eq eM en exs eK; rw [HNL.out, ← HL3.out.2.1]; exact List.mem_map.2 ⟨f, hmem3, rfl⟩)
                    have HT5 := Lib.hid (fold_take (f := fun us z => addD en us (pd ++ (cd.take j ++ [z]))) (l := nl) (i := z) (x := f.d) (by rw [← HL3.out.2.1, List.getElem?_map, hej3]; rfl) HF3.out)
                    have hq3 : (z : Int) < (els3.length : Nat) := by omega
                    have HFD := Lib.hid (And.intro hro3 (And.intro hne3 hnv))
                    obtain ⟨fq, fM, fA, fn, fc, fK, fxs⟩ := f
                    simp only at v0 v1 v2 v3 hin3
                    have X18 := CBox.new wr fq fM fA fn fc fK
                    have b18 := below_alloc wr (.cells #[.int .i64 fq, .int .i64 fM, .slice fA fn fc, .int .i64 fK] 56)
                    have hbz1 := hbz.trans (b18.mono hbz.size)
                    have HVP3 := Lib.hid ((HV.out _ HMP.out).step hbz1)
                    have HVQ3 := Lib.hid (PieceV.take (HQ.out.step hbz1) (Nat.le_of_lt hlt2) c' HQ.out.1.2.2.2.1.1 (Nat.le_trans (Nat.le_of_lt hlt2) HQ.out.1.2.2.2.2))
                    have hin4 := hin3.step b18
                    have U8 := hU3.step b18
                    have X9 := X8.step b18
                    have B9 := B8.step b18
                    have g0 := X18.c0
                    have g1 := X18.c1
                    have g2' := X18.c2
                    have g3' := X18.c3
                    subst hB3
                    clear hej3 hmem3 hin3 hro3 hne3 hnv hCV
                    have hj5 : (j : Int) ≤ c' := by have := HQ.out.1.2.2.2.2; simp only at this; omega
                    have hj6 : (m : Int) ≤ c' := by have := HQ.out.1.2.2.2.2; simp only at this; omega
                    have hj7 : (j : Int) ≤ m := by omega
                    go_wp2
                    have hs18 : (wr.alloc (.cells #[.int .i64 fq, .int .i64 fM, .slice fA fn fc, .int .i64 fK] 56)).heap.size = wr.heap.size + 1 := by simp
                    generalize wr.alloc (.cells #[.int .i64 fq, .int .i64 fM, .slice fA fn fc, .int .i64 fK] 56) = W0 at *
                    have hB1 := below_alloc W0 (.cells #[.int .i64 fq, .int .i64 fM, .slice fA fn fc, .int .i64 fK] 56)
                    have hB2 := below_alloc (W0.alloc (.cells #[.int .i64 fq, .int .i64 fM, .slice fA fn fc, .int .i64 fK] 56)) (.cells #[.slice pA pn pc, .slice (some ⟨b2, off2, none⟩) j c', .slice (some ⟨wr.heap.size + 1, 0, none⟩) 1 1] 34)
                    have hdr := (Below.refl ((W0.alloc (.cells #[.int .i64 fq, .int .i64 fM, .slice fA fn fc, .int .i64 fK] 56)).alloc (.cells #[.slice pA pn pc, .slice (some ⟨b2, off2, none⟩) j c', .slice (some ⟨wr.heap.size + 1, 0, none⟩) 1 1] 34)).heap.size ((W0.alloc (.cells #[.int .i64 fq, .int .i64 fM, .slice fA fn fc, .int .i64 fK] 56)).alloc (.cells #[.slice pA pn pc, .slice (some ⟨b2, off2, none⟩) j c', .slice (some ⟨wr.heap.size + 1, 0, none⟩) 1 1] 34))).drew
                    have hB12 := below_step (below_step hB1 hB2) hdr
                    have hG1 : (W0.alloc (.cells #[.int .i64 fq, .int .i64 fM, .slice fA fn fc, .int .i64 fK] 56)).heap[wr.heap.size + 1]? = some (.cells (ccells [⟨fq, fM, fA, fn, fc, fK, fxs⟩]).toArray 56 (0, 0)) := by
                      rw [← hs18]
                      exact heap_alloc_new W0 _
                    have hONE := ((one_piece hG1 (hin4.step hB1) ((HFD.out.1.step b18).step hB1) HFD.out.2.1 HFD.out.2.2).step hB2).step hdr
                    have HJ3 := Lib.hid (joined (n := en) (w := ((W0.alloc (.cells #[.int .i64 fq, .int .i64 fM, .slice fA fn fc, .int .i64 fK] 56)).alloc (.cells #[.slice pA pn pc, .slice (some ⟨b2, off2, none⟩) j c', .slice (some ⟨wr.heap.size + 1, 0, none⟩) 1 1] 34)).drew) (g := wr.heap.size + 2) (ps := [⟨pA, pn, pc, pels⟩, ⟨some ⟨b2, off2, none⟩, j, c', els.take j⟩, ⟨some ⟨wr.heap.size + 1, 0, none⟩, 1, 1, [⟨fq, fM, fA, fn, fc, fK, fxs⟩]⟩]) 3 3 rfl (by
                      have h5 := heap_alloc_new (W0.alloc (.cells #[.int .i64 fq, .int .i64 fM, .slice fA fn fc, .int .i64 fK] 56)) (.cells #[.slice pA pn pc, .slice (some ⟨b2, off2, none⟩) j c', .slice (some ⟨wr.heap.size + 1, 0, none⟩) 1 1] 34)
                      rw [World.size_alloc, hs18] at h5
                      exact (hdr.block _ (by simp [hs18])).trans h5) (fun x hx => by
                      rcases List.mem_cons.1 hx with rfl | hx
                      · exact HVP3.out.step hB12
                      · rcases List.mem_cons.1 hx with rfl | hx
                        · exact HVQ3.out.step hB12
                        · rw [List.mem_singleton.1 hx]; exact hONE) (by simp))
                    obtain ⟨aw, haw⟩ : ∃ aw, addD en (us3.map PEl.dat) (([(⟨pA, pn, pc, pels⟩ : PEl), ⟨some ⟨b2, off2, none⟩, j, c', els.take j⟩, ⟨some ⟨wr.heap.size + 1, 0, none⟩, 1, 1, [⟨fq, fM, fA, fn, fc, fK, fxs⟩]⟩].flatMap PEl.els).map CEl.d) = aw := ⟨_, rfl⟩
                    obtain ⟨er5, l5⟩ := aw
                    have HAW := Lib.hid haw
                    have HT6 := Lib.hid (show foldE (fun us z => addD en us (pd ++ (cd.take j ++ [z]))) (nl.take (z + 1)) (us2.map PEl.dat) = (er5, l5) by
                      rw [HT5.out, ← haw, ← HPD.out, ← HCD.out]
                      simp [PEl.dat, List.map_take])
                    have HPRE := Lib.hid (fun e (he : e ∈ [(⟨pA, pn, pc, pels⟩ : PEl), ⟨some ⟨b2, off2, none⟩, j, c', els.take j⟩, ⟨some ⟨wr.heap.size + 1, 0, none⟩, 1, 1, [⟨fq, fM, fA, fn, fc, fK, fxs⟩]⟩].flatMap PEl.els) => show PreB en e by
                      obtain ⟨x, hx, he⟩ := List.mem_flatMap.1 he
                      rcases List.mem_cons.1 hx with rfl | hx
                      · exact HVP3.out.pre e he
                      · rcases List.mem_cons.1 hx with rfl | hx
                        · exact HVQ3.out.pre e he
                        · rw [List.mem_singleton.1 hx] at he; exact hONE.pre e he)
                    have HUU := Lib.hid (U8.step hB12)
                    have HB12 := Lib.hid hB12
                    have hN8 : w.heap.size + 2 ≤ W0.heap.size := by have := X9.lt; omega
                    have HN8 := Lib.hid (Nat.le_trans hN8 hB12.size)
                    have HC1 := Lib.hid (fun W (hb : Below (((W0.alloc (.cells #[.int .i64 fq, .int .i64 fM, .slice fA fn fc, .int .i64 fK] 56)).alloc (.cells #[.slice pA pn pc, .slice (some ⟨b2, off2, none⟩) j c', .slice (some ⟨wr.heap.size + 1, 0, none⟩) 1 1] 34)).drew).heap.size (((W0.alloc (.cells #[.int .i64 fq, .int .i64 fM, .slice fA fn fc, .int .i64 fK] 56)).alloc (.cells #[.slice pA pn pc, .slice (some ⟨b2, off2, none⟩) j c', .slice (some ⟨wr.heap.size + 1, 0, none⟩) 1 1] 34)).drew) W) => (show CBox W wr.heap.size fq fM fA fn fc fK from (X18.step HB12.out).step hb))
                    have HC2 := Lib.hid (fun W W' (X : CBox W wr.heap.size fq fM fA fn fc fK) (hk : KeepUR r W W') => (show CBox W' wr.heap.size fq fM fA fn fc fK from hk.u.rows _ _ _ _ X (.inl rfl)))
                    have hn100 : en ≤ 100 := by omega
                    have HS := Lib.hid (fun W (X : CBox W wr.heap.size fq fM fA fn fc fK) => (⟨X.c0, X.c1, X.c2, X.c3⟩ : W.cell? ⟨wr.heap.size, 0, none⟩ = some (.int .i64 fq) ∧ W.cell? ⟨wr.heap.size, 1, none⟩ = some (.int .i64 fM) ∧ W.cell? ⟨wr.heap.size, 2, none⟩ = some (.slice fA fn fc) ∧ W.cell? ⟨wr.heap.size, 3, none⟩ = some (.int .i64 fK)))
                    have HSA := Lib.hid (HS.out _ (X18.step (Below.refl _ W0).drew))
                    have HSB := Lib.hid (HS.out _ ((X18.alloc (.cells #[.int .i64 fq, .int .i64 fM, .slice fA fn fc, .int .i64 fK] 56)).step (Below.refl _ (W0.alloc (.cells #[.int .i64 fq, .int .i64 fM, .slice fA fn fc, .int .i64 fK] 56))).drew))
                    have HSC := Lib.hid (HS.out _ (X18.step HB12.out))
                    clear haw hB12 hB1 hB2 hG1 hONE hdr U8 v0 v1 v2 v3 x0 x1 x2 x3 y1 hin4
                    by_cases h5 : er5 = 0
                    · subst h5
                      go_region_held3 (fun W => W.cell? ⟨wr.heap.size, 0, none⟩ = some (.int .i64 fq) ∧ W.cell? ⟨wr.heap.size, 1, none⟩ = some (.int .i64 fM) ∧ W.cell? ⟨wr.heap.size, 2, none⟩ = some (.slice fA fn fc) ∧ W.cell? ⟨wr.heap.size, 3, none⟩ = some (.int .i64 fK)) (first | with_reducible exact ⟨g0, g1, g2', g3'⟩ | with_reducible exact HSA.out | with_reducible exact HSB.out | with_reducible exact HSC.out | (trace_state; fail))
                        (first
                          | (go_at_call 52; refine HJ3.out.mono ?_; rintro e w5 ⟨A5, k5, c5, rfl, hC5, hk5, hb5⟩; have X5 := HC1.out w5 hb5; clear g0 g1 g2' g3'; have g0 := X5.c0; have g1 := X5.c1; have g2' := X5.c2; have g3' := X5.c3; have UU := HUU.out.step hb5; have hN5 := Nat.le_trans HN8.out hb5.size)
                          | (go_at_call 74; refine (union_adds (c := c5) hn100 _ UU hC5 HPRE.out hk5 hN5 HAW.out).mono ?_; rintro e w6 ⟨rfl, ⟨u6, us6, hd6, U6⟩, hb6, hk6⟩; have X6 := HC2.out w5 w6 X5 hk6; clear g0 g1 g2' g3'; have g0 := X6.c0; have g1 := X6.c1; have g2' := X6.c2; have g3' := X6.c3))
                      rename_i hHeld
                      clear hHeld
                      have B10 := ((B9.step HB12.out).step hb5).below hb6 (by omega)
                      have X10 := ((X9.step HB12.out).step hb5).below hb6 (by omega)
                      have HK10 := Lib.hid (hku.trans ((KeepU.of_below b18).trans ((KeepU.of_below HB12.out).trans ((KeepU.of_below hb5).trans hk6.u))))
                      have HB10 := Lib.hid (((hbz1.trans (HB12.out.mono hbz1.size)).trans (hb5.mono (Nat.le_trans hbz1.size HB12.out.size))).trans (hb6.mono (by omega)))
                      have HR10 := Lib.hid (HT6.out.trans (congrArg (fun l => ((0 : Int), l)) hd6.symm))
                      go_wp2
                      go_roundg g3
                      case measure => omega
                      case rel => exact ⟨z + 1, by omega, by go_num, ⟨u6, us6, U6, HR10.out⟩, ⟨B10, X10⟩, HK10.out, HB10.out⟩
                    · have h0' : (er5 != 0) = true := by simpa using h5
                      have h0'' : (er5 == 0) = false := by simpa using h5
                      go_region_held3 (fun W => W.cell? ⟨wr.heap.size, 0, none⟩ = some (.int .i64 fq) ∧ W.cell? ⟨wr.heap.size, 1, none⟩ = some (.int .i64 fM) ∧ W.cell? ⟨wr.heap.size, 2, none⟩ = some (.slice fA fn fc) ∧ W.cell? ⟨wr.heap.size, 3, none⟩ = some (.int .i64 fK)) (first | with_reducible exact ⟨g0, g1, g2', g3'⟩ | with_reducible exact HSA.out | with_reducible exact HSB.out | with_reducible exact HSC.out | (trace_state; fail))
                        (first
                          | (go_at_call 52; refine HJ3.out.mono ?_; rintro e w5 ⟨A5, k5, c5, rfl, hC5, hk5, hb5⟩; have X5 := HC1.out w5 hb5; clear g0 g1 g2' g3'; have g0 := X5.c0; have g1 := X5.c1; have g2' := X5.c2; have g3' := X5.c3; have UU := HUU.out.step hb5; have hN5 := Nat.le_trans HN8.out hb5.size)
                          | (go_at_call 74; refine (union_adds (c := c5) hn100 _ UU hC5 HPRE.out hk5 hN5 HAW.out).mono ?_; rintro e w4 ⟨rfl, ⟨u6, us6, hd6, U6⟩, hb6, hk6⟩; have X6 := HC2.out w5 w4 X5 hk6; clear g0 g1 g2' g3'; have g0 := X6.c0; have g1 := X6.c1; have g2' := X6.c2; have g3' := X6.c3))
                      rename_i hHeld
                      clear hHeld
                      have X4 := ((X9.step HB12.out).step hb5).below hb6 (by omega)
                      have HB10 := Lib.hid (((hbz1.trans (HB12.out.mono hbz1.size)).trans (hb5.mono (Nat.le_trans hbz1.size HB12.out.size))).trans (hb6.mono (by omega)))
                      have z0 := X4.c0
                      have z1 := X4.c1
                      have f0 := X4.f 0
                      have f1 := X4.f 1
                      go_wp2
                      obtain ⟨X5, hb8⟩ := And.intro (X4.put 0 none 0 0) (below_put (w := w4) (N := w.heap.size) (b := w.heap.size + 1) (Nat.le_succ _) (.int .i64 0) (.slice none 0 0)); generalize (w4.setCell ⟨w.heap.size + 1, 0, none⟩ (.int .i64 0)).setCell ⟨w.heap.size + 1, 1, none⟩ (.slice none 0 0) = w5 at *; have y0 := X5.c0; have y1 := X5.c1; try rw [Exit.noGoto_ret]
                      refine bodyPost_ret (v := .tuple #[setV 0 none 0 0, .int .i64 er5]) (by simp [results, Tryz.results54, go_sem, y0, y1]) rfl ?_
                      have h7 : (foldE (cutOne en pd cd) ((List.range cd.length).take (j + 1)) (us.map PEl.dat)).1 = er5 := by
                        rw [HT4.out, fold_fail HT6.out h5]
                      exact gather_fail (wd_fail HWD.out HT2.out (by rw [fold_fail rfl (by rw [h7]; exact h5)]; exact h7) h5) h5 (HB10.out.trans hb8)
              · have h0' : (er != 0) = true := by simpa using h0
                have h0'' : (er == 0) = false := by simpa using h0
                go_wp2_with (go_at_call 80; refine (cond_neg eq eM eA en ec eK exs _ y1).mono ?_; rw [HER.out]; rintro e w4 ⟨ul, els3, rfl, _, _, _, hbn⟩; have hb9 := hbx1.trans (hbn.mono hbx1.size); have X4 := (X6.step b5).step hbn; have z0 := X4.c0; have z1 := X4.c1; have f0 := X4.f 0; have f1 := X4.f 1)
                obtain ⟨X5, hb8⟩ := And.intro (X4.put 0 none 0 0) (below_put (w := w4) (N := w.heap.size) (b := w.heap.size + 1) (Nat.le_succ _) (.int .i64 0) (.slice none 0 0)); generalize (w4.setCell ⟨w.heap.size + 1, 0, none⟩ (.int .i64 0)).setCell ⟨w.heap.size + 1, 1, none⟩ (.slice none 0 0) = w5 at *; have y0 := X5.c0; have y1 := X5.c1; try rw [Exit.noGoto_ret]
                refine bodyPost_ret (v := .tuple #[setV 0 none 0 0, .int .i64 er]) (by simp [results, Tryz.results54, go_sem, y0, y1]) rfl ?_
                have h7 : (foldE (cutOne en pd cd) ((List.range cd.length).take (j + 1)) (us.map PEl.dat)).1 = er := by
                  rw [HT3.out]
                  unfold cutOne
                  rw [HCJ.out]
                  simp only [HER.out]
                  rw [if_pos h0]
                exact gather_fail (wd_fail HWD.out HT2.out (by rw [fold_fail rfl (by rw [h7]; exact h0)]; exact h7) h0) h0 (hb9.trans hb8)
        · obtain ⟨kp, hkp⟩ : ∃ kp, keepP us ⟨pA, pn, pc, pels⟩ = kp := ⟨_, rfl⟩
          obtain ⟨ek, us2⟩ := kp
          have HW1 := Lib.hid (show withOne n cd (us.map PEl.dat) (⟨pA, pn, pc, pels⟩ : PEl).dat = (ek, us2.map PEl.dat) by
            unfold withOne
            rw [HP1.out]
            rw [if_neg (show ¬ ((0 : Int) ≠ 0) by decide), if_pos rfl, ← keep_dat, hkp])
          have HKP := Lib.hid hkp
          have HWR := Lib.hid (show w.heap.size + 2 ≤ wr.heap.size from X2.lt)
          clear hkp
          by_cases hek : ek = 0
          · subst hek
            go_wp2_with (first
              | (go_at_call 52; refine HJ.out.mono ?_; rintro e w3 ⟨A3, k3, c3, rfl, hC3, hk3, hb3⟩; have hb4 := (below_alloc wr (.cells #[.slice pA pn pc, .slice B m c'] 34)).trans (hb3.mono (below_alloc wr (.cells #[.slice pA pn pc, .slice B m c'] 34)).size))
              | (go_at_call 71; refine (HPR.out w3 k3 A3 c3 hC3 hk3).mono ?_; rw [HDD.out]; rintro e w4 ⟨A4, k4, c4, l4, rfl, hL4, hd4, hn4, hb5⟩; have hb6 := below_step hb4 hb5; have U4 := HU.out.step hb6; have V4 := HVP.out.step hb6)
              | (go_at_call 79; refine (union_keep (by omega) _ U4 ⟨pA, pn, pc, pels⟩ V4.1 (Nat.le_trans HWR.out hb6.size)).mono ?_; rw [HKP.out]; rintro e w5 ⟨⟨u5, rfl, U5⟩, hb7, hk7⟩))
            go_roundg g
            case measure => omega
            case rel => exact ⟨i + 1, by omega, by go_num, ⟨u5, us2, U5, HT.out.trans HW1.out⟩, ⟨((B2.step hb6).below hb7 (by omega)), ((X2.step hb6).below hb7 (by omega))⟩, hbr.trans ((hb6.mono hbr.size).trans (hb7.mono (by omega)))⟩
          · have h0' : (ek != 0) = true := by simpa using hek
            have h0'' : (ek == 0) = false := by simpa using hek
            go_wp2_with (first
              | (go_at_call 52; refine HJ.out.mono ?_; rintro e w3 ⟨A3, k3, c3, rfl, hC3, hk3, hb3⟩; have hb4 := (below_alloc wr (.cells #[.slice pA pn pc, .slice B m c'] 34)).trans (hb3.mono (below_alloc wr (.cells #[.slice pA pn pc, .slice B m c'] 34)).size))
              | (go_at_call 71; refine (HPR.out w3 k3 A3 c3 hC3 hk3).mono ?_; rw [HDD.out]; rintro e w9 ⟨A4, k4, c4, l4, rfl, hL4, hd4, hn4, hb5⟩; have hb6 := below_step hb4 hb5; have U4 := HU.out.step hb6; have V4 := HVP.out.step hb6)
              | (go_at_call 79; refine (union_keep (by omega) _ U4 ⟨pA, pn, pc, pels⟩ V4.1 (Nat.le_trans HWR.out hb6.size)).mono ?_; rw [HKP.out]; rintro e w4 ⟨⟨u5, rfl, U5⟩, hb7, hk7⟩; have X4 := (X2.step hb6).below hb7 (by omega); have z0 := X4.c0; have z1 := X4.c1; have f0 := X4.f 0; have f1 := X4.f 1))
            obtain ⟨X5, hb8⟩ := And.intro (X4.put 0 none 0 0) (below_put (w := w4) (N := w.heap.size) (b := w.heap.size + 1) (Nat.le_succ _) (.int .i64 0) (.slice none 0 0)); generalize (w4.setCell ⟨w.heap.size + 1, 0, none⟩ (.int .i64 0)).setCell ⟨w.heap.size + 1, 1, none⟩ (.slice none 0 0) = w5 at *; have y0 := X5.c0; have y1 := X5.c1; try rw [Exit.noGoto_ret]
            refine bodyPost_ret (v := .tuple #[setV 0 none 0 0, .int .i64 ek]) (by simp [results, Tryz.results54, go_sem, y0, y1]) rfl ?_
            exact gather_fail (wd_fail HWD.out HT.out (congrArg Prod.fst HW1.out) hek) hek (hbr.trans ((hb6.mono hbr.size).trans ((hb7.mono (by omega)).trans hb8)))
      · have h0' : (er != 0) = true := by simpa using h0
        have h0'' : (er == 0) = false := by simpa using h0
        go_wp2_with (first
          | (go_at_call 52; refine HJ.out.mono ?_; rintro e w3 ⟨A3, k3, c3, rfl, hC3, hk3, hb3⟩; have hb4 := (below_alloc wr (.cells #[.slice pA pn pc, .slice B m c'] 34)).trans (hb3.mono (below_alloc wr (.cells #[.slice pA pn pc, .slice B m c'] 34)).size))
          | (go_at_call 71; refine (HPR.out w3 k3 A3 c3 hC3 hk3).mono ?_; rw [HDD.out]; rintro e w4 ⟨A4, k4, c4, l4, rfl, hL4, hd4, hn4, hb5⟩; have hb6 := below_step hb4 hb5; have X4 := X2.step hb6; have z0 := X4.c0; have z1 := X4.c1; have f0 := X4.f 0; have f1 := X4.f 1))
        obtain ⟨X5, hb8⟩ := And.intro (X4.put 0 none 0 0) (below_put (w := w4) (N := w.heap.size) (b := w.heap.size + 1) (Nat.le_succ _) (.int .i64 0) (.slice none 0 0)); generalize (w4.setCell ⟨w.heap.size + 1, 0, none⟩ (.int .i64 0)).setCell ⟨w.heap.size + 1, 1, none⟩ (.slice none 0 0) = w5 at *; have y0 := X5.c0; have y1 := X5.c1; try rw [Exit.noGoto_ret]
        refine bodyPost_ret (v := .tuple #[setV 0 none 0 0, .int .i64 er]) (by simp [results, Tryz.results54, go_sem, y0, y1]) rfl ?_
        exact gather_fail (wd_fail HWD.out HT.out (by unfold withOne; rw [HP1.out]; exact congrArg Prod.fst (if_pos h0)) h0) h0 (hbr.trans ((hb6.mono hbr.size).trans hb8))
    | zero =>
      obtain rfl : i = k := by omega
      have hge : ¬ ((i : Int) < i) := by omega
      have HDN := Lib.hid (show wd = (0, us.map PEl.dat) by
        rw [← HWD.out]
        unfold withoutD
        rw [← HF.out, List.take_of_length_le (by rw [List.length_map, HLP.out]; exact Nat.le_refl _)])
      have x0 := B2.c0
      have x1 := B2.c1
      have HPC := Lib.hid (union_pieces (wr.drew) (hU.step (Below.refl _ wr).drew))
      have HU4 := Lib.hid hU
      obtain ⟨uA, uc, hu⟩ := hU.slice
      subst hu
      clear hU
      go_wp2
      have d0 := X2.c0
      have d1 := X2.c1
      have e0 := X2.f 0
      have e1 := X2.f 1
      go_region_held3 (fun W => W.cell? ⟨w.heap.size, 0, none⟩ = some (.int .i64 D)) (first | with_reducible exact x0 | go_keep)
        (first | (go_at_call 75; refine HPC.out.mono ?_; rintro e w3 ⟨rfl, rfl⟩))
      all_goals
        rename_i hHeld
        clear hHeld
        have X5 := (X2.put D uA us.length uc).step (Below.refl _ _).drew
        have hU5 := (((HU4.out.set (a := ⟨w.heap.size + 1, 0, none⟩) (by show w.heap.size + 1 < _; omega) X2 (by decide) (by decide) (by decide) (.int .i64 D)).set (a := ⟨w.heap.size + 1, 1, none⟩) (by show w.heap.size + 1 < _; omega) (show (wr.setCell ⟨w.heap.size + 1, 0, none⟩ (.int .i64 D)).heap[w.heap.size + 1]? = some (Obj.cells #[.int .i64 D, .slice none 0 0] 24 (0, 0)) by
          unfold SetBox at X2
          simp only [World.setCell]
          rw [Array.getElem?_modify, if_pos rfl, X2]
          rfl) (by decide) (by decide) (by decide) (.slice uA us.length uc))).step (Below.refl _ _).drew
        have hb7 := (hbr.trans (below_put (w := wr) (N := w.heap.size) (b := w.heap.size + 1) (Nat.le_succ _) (.int .i64 D) (.slice uA us.length uc))).drew
        clear d0 d1 e0 e1 HPC HU4
        generalize ((wr.setCell ⟨w.heap.size + 1, 0, none⟩ (.int .i64 D)).setCell ⟨w.heap.size + 1, 1, none⟩ (.slice uA us.length uc)).drew = w5 at *
        have y0 := X5.c0
        have y1 := X5.c1
        obtain ⟨A5, c5, he5, hP5, hA5⟩ := hU5.pieces
        cases he5
        go_wp2
        try rw [Exit.noGoto_ret]
        refine bodyPost_ret (v := .tuple #[setV D uA us.length uc, .int .i64 0]) (by simp [results, Tryz.results54, go_sem, y0, y1]) rfl ?_
        rw [HDN.out]
        exact ⟨uA, us.length, uc, us, rfl, hP5, hU5.ok, rfl, (fun h => let ⟨g, o, h1, h2⟩ := hA5 h; ⟨g, o, h1, by omega⟩), hb7⟩
end Go.Proofs.YtkgnlloioaobiaaGreat

/-
  set.both: the error that two sets together cause.
-/
namespace Go.Proofs.YtkgnlloioaobiaaGreat
open Go.RowKit
set_option linter.unusedVariables false
set_option linter.unusedSimpArgs false
set_option maxRecDepth 100000

def bothE (D : Int) (ps : List PEl) (D' : Int) (ps' : List PEl) : Int := if validS D ps = true ∧ validS D' ps' = true then (if D = D' then 0 else 2) else 1
theorem both_inv {D : Int} {ps : List PEl} {D' : Int} {ps' : List PEl} (h : validS D ps = false ∨ validS D' ps' = false) : bothE D ps D' ps' = 1 := by
  unfold bothE
  rw [if_neg]
  rintro ⟨h1, h2⟩
  rcases h with h | h <;> simp_all
theorem both_ok {D : Int} {ps : List PEl} {D' : Int} {ps' : List PEl} (h : bothE D ps D' ps' = 0) : validS D ps = true ∧ validS D' ps' = true ∧ D = D' := by
  unfold bothE at h
  split at h
  · rename_i hv
    split at h
    · rename_i hd; exact ⟨hv.1, hv.2, hd⟩
    · cases h
  · cases h


set_option maxHeartbeats 4000000 in
theorem set_both (D : Int) (A : Option Addr) (n c : Nat) (ps : List PEl) (D' : Int) (A' : Option Addr) (n' c' : Nat) (ps' : List PEl) (w : World) (h : PiecesAt w A n ps) (h' : PiecesAt w A' n' ps') :
    Calls Tryz.prog 48 #[setV D A n c, setV D' A' n' c'] w fun e w' => e = .returned (.int .i64 (bothE D ps D' ps')) ∧ Below w.heap.size w w' := by
  have B1 := below_step (below_alloc w (.cells #[.int .i64 D, .slice A n c] 24)) (below_alloc _ (.cells #[.int .i64 D', .slice A' n' c'] 24))
  have X1 := (SetBox.new w D A n c).alloc (.cells #[.int .i64 D', .slice A' n' c'] 24)
  have X2 := SetBox.new (w.alloc (.cells #[.int .i64 D, .slice A n c] 24)) D' A' n' c'
  rw [World.size_alloc] at X2
  have P1 := h.step B1
  have P2 := h'.step B1
  have c0 := X1.c0
  have c1 := X1.c1
  have d0 := X2.c0
  have d1 := X2.c1
  have T1 : True := trivial
  obtain ⟨v1, hv1⟩ : ∃ v, validS D ps = v := ⟨_, rfl⟩
  obtain ⟨v2, hv2⟩ : ∃ v, validS D' ps' = v := ⟨_, rfl⟩
  have HV1 := Lib.hid hv1
  have HV2 := Lib.hid hv2
  obtain ⟨er, her⟩ : ∃ er, bothE D ps D' ps' = er := ⟨_, rfl⟩
  rw [her]
  have HE := Lib.hid her
  clear hv1 hv2 her h h'
  cases v1
  · have HR := Lib.hid (show er = 1 by rw [← HE.out]; exact both_inv (.inl HV1.out))
    go_enter Tryz.func48, Tryz.ntmps48
    go_wp2_with (first | (go_at_call 43; have t1 := T1; clear T1 t1; refine (set_valid D A n c ps _ P1).mono ?_; rintro e w1 ⟨rfl, hb⟩; rw [HV1.out]; replace B1 := below_step B1 hb; replace P2 := P2.step hb; replace X1 := X1.step hb; replace X2 := X2.step hb; clear c0 c1 d0 d1; have c0 := X1.c0; have c1 := X1.c1; have d0 := X2.c0; have d1 := X2.c1))
    go_ret
    exact ⟨ret1 (vint HR.out.symm), B1⟩
  · cases v2
    · have HR := Lib.hid (show er = 1 by rw [← HE.out]; exact both_inv (.inr HV2.out))
      go_enter Tryz.func48, Tryz.ntmps48
      go_wp2_with (first | (go_at_call 43; have t1 := T1; clear T1 t1; refine (set_valid D A n c ps _ P1).mono ?_; rintro e w1 ⟨rfl, hb⟩; rw [HV1.out]; replace B1 := below_step B1 hb; replace P2 := P2.step hb; replace X1 := X1.step hb; replace X2 := X2.step hb; clear c0 c1 d0 d1; have c0 := X1.c0; have c1 := X1.c1; have d0 := X2.c0; have d1 := X2.c1) | (go_at_call 43; refine (set_valid D' A' n' c' ps' _ P2).mono ?_; rintro e w2 ⟨rfl, hb⟩; rw [HV2.out]; replace B1 := below_step B1 hb; replace X1 := X1.step hb; replace X2 := X2.step hb; clear c0 c1 d0 d1; have c0 := X1.c0; have c1 := X1.c1; have d0 := X2.c0; have d1 := X2.c1))
      go_ret
      exact ⟨ret1 (vint HR.out.symm), B1⟩
    · by_cases hd : D = D'
      · have HR := Lib.hid (show er = 0 by rw [← HE.out]; unfold bothE; rw [if_pos ⟨HV1.out, HV2.out⟩, if_pos hd])
        have q1 : (D != D') = false := by simpa using hd
        have q2 : (D == D') = true := by simpa using hd
        clear hd
        go_enter Tryz.func48, Tryz.ntmps48
        go_wp2_with (first | (go_at_call 43; have t1 := T1; clear T1 t1; refine (set_valid D A n c ps _ P1).mono ?_; rintro e w1 ⟨rfl, hb⟩; rw [HV1.out]; replace B1 := below_step B1 hb; replace P2 := P2.step hb; replace X1 := X1.step hb; replace X2 := X2.step hb; clear c0 c1 d0 d1; have c0 := X1.c0; have c1 := X1.c1; have d0 := X2.c0; have d1 := X2.c1) | (go_at_call 43; refine (set_valid D' A' n' c' ps' _ P2).mono ?_; rintro e w2 ⟨rfl, hb⟩; rw [HV2.out]; replace B1 := below_step B1 hb; replace X1 := X1.step hb; replace X2 := X2.step hb; clear c0 c1 d0 d1; have c0 := X1.c0; have c1 := X1.c1; have d0 := X2.c0; have d1 := X2.c1))
        go_ret
        exact ⟨ret1 (vint HR.out.symm), B1⟩
      · have HR := Lib.hid (show er = 2 by rw [← HE.out]; unfold bothE; rw [if_pos ⟨HV1.out, HV2.out⟩, if_neg hd])
        have q1 : (D != D') = true := by simpa using hd
        have q2 : (D == D') = false := by simpa using hd
        clear hd
        go_enter Tryz.func48, Tryz.ntmps48
        go_wp2_with (first | (go_at_call 43; have t1 := T1; clear T1 t1; refine (set_valid D A n c ps _ P1).mono ?_; rintro e w1 ⟨rfl, hb⟩; rw [HV1.out]; replace B1 := below_step B1 hb; replace P2 := P2.step hb; replace X1 := X1.step hb; replace X2 := X2.step hb; clear c0 c1 d0 d1; have c0 := X1.c0; have c1 := X1.c1; have d0 := X2.c0; have d1 := X2.c1) | (go_at_call 43; refine (set_valid D' A' n' c' ps' _ P2).mono ?_; rintro e w2 ⟨rfl, hb⟩; rw [HV2.out]; replace B1 := below_step B1 hb; replace X1 := X1.step hb; replace X2 := X2.step hb; clear c0 c1 d0 d1; have c0 := X1.c0; have c1 := X1.c1; have d0 := X2.c0; have d1 := X2.c1))
        go_ret
        exact ⟨ret1 (vint HR.out.symm), B1⟩
end Go.Proofs.YtkgnlloioaobiaaGreat

/-
  The pieces that set.without and set.Minus leave are valid.
-/
namespace Go.Proofs.YtkgnlloioaobiaaGreat
open Go.RowKit
set_option linter.unusedVariables false
set_option linter.unusedSimpArgs false

theorem without_good {n : Nat} (hn : n ≤ 12) {ps : List (List CD)} {c : List CD} (hp : GoodU n ps) (hc : (∀ d ∈ c, ValidD n d) ∧ c.length ≤ 96) : GoodU n (withoutD n ps c).2 := by
  unfold withoutD
  refine fold_good (P := GoodU n) ⟨(fun u h => nomatch h), by simp⟩ fun p hpm us hu => ?_
  unfold withOne
  split
  · exact hu
  · split
    · exact keep_good hu (hp.1 p hpm)
    · refine fold_good (P := GoodU n) hu fun i hi us hu => ?_
      unfold cutOne
      split
      · rename_i d hd
        have hv := hc.1 d (List.mem_of_getElem? hd)
        split
        · exact hu
        · refine fold_good (P := GoodU n) hu fun z hz us hu => add_good hu ?_
          intro x hx
          rcases List.mem_append.1 hx with hx | hx
          · exact ((hp.1 p hpm).1 x hx).kind
          · rcases List.mem_append.1 hx with hx | hx
            · exact (hc.1 x (List.mem_of_mem_take hx)).kind
            · rw [List.mem_singleton.1 hx]; exact (neg_valid hn hv.1 hv.2 z hz).kind
      · exact hu
theorem minus_good {n : Nat} (hn : n ≤ 12) {qs ps : List (List CD)} (hp : GoodU n ps) (hq : GoodU n qs) : GoodU n (foldE (withoutD n) qs ps).2 :=
  fold_good (P := GoodU n) hp fun q hqm us hu => without_good hn hu (hq.1 q hqm)
end Go.Proofs.YtkgnlloioaobiaaGreat
