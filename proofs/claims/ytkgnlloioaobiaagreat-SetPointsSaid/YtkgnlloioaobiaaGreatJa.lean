/-
  Part 1 of the texts that the laws stand on.
-/
import Derived.WalkKit
import Derived.ProofKit
import Derived.OpenShut
import Derived.SizedLaws
import Derived.Handy
import Derived.Deep.Draws
import Derived.Test.YtkgnlloioaobiaaGreatProg
import Derived.Deep.QuietTactic
import Derived.BigQuiet
import Derived.Lib.Hide
import Derived.OwnWalk
import Derived.Laws.OwnMore
import Derived.RangeFuncNested
import Derived.RangeFuncBound
import Derived.RangeFuncCalls
import Derived.RangeFuncLeaves
import Derived.Shelf.Abstract
import Derived.Shelf.RegionOpen
import Derived.OwnWalkIn
import Derived.TacticsInMore
import Derived.LoopNIn
import Derived.LoopIn
import Derived.OrdersIn
import Derived.OrdersHeld
import Derived.Orders
import Derived.TacticsIn
import Derived.Deep.RegionHeld3
import Derived.BigRegion
import Derived.Deep.Cut
import Derived.Laws.AppendOwn
import Derived.Below
import Derived.Deep.AppendLies
import Derived.Lib.SliceRun
import Derived.Maps.AppendAt
import Derived.Sort.Grow
import Derived.Deep.LoopGhost
import Derived.Laws.IdiomStrings
import Derived.Lib.SmallJoins
import Derived.Deep.Strs
import Derived.RangeFuncWrites
import Derived.Maps.OwnOps
import Derived.Maps.OwnSet
import Derived.Maps.Views
import Derived.Laws.AppendOwnNone
import Derived.Lib.AppendZerosOnto
import Derived.Lib.Walk
import Derived.Shelf.SlSortCmp.WholeK
set_option linter.unusedVariables false
set_option linter.unusedSimpArgs false
set_option maxRecDepth 100000
namespace Go.Proofs.YtkgnlloioaobiaaGreat
open Go.ChangeShapes Go.WideShapes Go.ChangeAt Go.RowKit
section lift
variable {H : Type} {enc : TypeId × Value → H} {P : Program}
theorem args_stay (hl : laidOutB P = true) {W W' : World} (hb : Below W.heap.size W W') :
    ∀ {ts : List TypeId} {vs : List Value} {ds : List (DataW H)} {p : List MemPlace}, (∀ t ∈ ts, P.readableRec t = true ∧ t < P.types.size) → (∀ x ∈ p, x.block < W.heap.size) →
      DataW.TrodAll enc P W 0 (fun _ => true) true ts vs ds p → DataW.TrodAll enc P W' 0 (fun b => decide (b < W.heap.size)) true ts vs ds p
  | [], vs, ds, p, _, _, h => by
    obtain ⟨rfl, rfl, rfl⟩ := trodAll_nil h
    exact trodAll_mk0
  | t :: ts, vs, ds, p, ht, hp, h => by
    obtain ⟨v, vs', d, ds', p1, p2, rfl, rfl, rfl, h1, h2⟩ := trodAll_cons h
    have a := ht t List.mem_cons_self
    exact trodAll_cons_mk (Below.trod hl a.1 a.2 h1 hb fun x hx => hp x (List.mem_append_left _ hx))
      (args_stay hl hb (fun t' h' => ht t' (List.mem_cons_of_mem _ h')) (fun x hx => hp x (List.mem_append_right _ hx)) h2)
theorem law_post {f : Func} {s : ChangeSpec} {W W' : World} {args : Array Value} {ds gs : List (DataW H)} {before : List MemPlace} {tb : TypeId}
    (hl : laidOutB P = true) (hr : ∀ t ∈ f.params.toList, P.readableRec t = true ∧ t < P.types.size) (hvars : s.vars = []) (hres : f.resultTypes = #[tb]) (htb : P.underlying tb = some .bool)
    (hfn : s.fn H (ds ++ gs) = { results := [.lit (.bool true)], args := ds })
    (hW : DataW.Whole enc P f.params.toList s.vars false W args.toList ds gs before) (hb : Below W.heap.size W W') :
    s.post enc P f false true false false W args (.bool true) W' := by
  have hlt := hW.lt
  have hW' := hW
  obtain ⟨p, q, hA, hV, rfl, _, _⟩ := hW
  rw [hvars] at hV
  obtain ⟨rfl, rfl⟩ := trodVars_none hV
  refine ⟨ds, [], p ++ [], [], p, [], hW', ?_, ?_, ?_, hb.frame _, fun h => by cases h⟩
  · rw [hfn, hres]; exact trodAll_mk1 (shut_bool htb _)
  · rw [hfn]; exact args_stay hl hb hr (fun x hx => hlt x (List.mem_append_left _ hx)) hA
  · rw [hfn, hvars]; exact rfl
theorem weights_cons {q : Nat → Bool} {t : TypeId} {ts : List TypeId} {d : DataW H} {ds : List (DataW H)} (h : (DataW.weightsEach P (t :: ts) (d :: ds)).all q = true) :
    (d.weights P t).all q = true ∧ (DataW.weightsEach P ts ds).all q = true := by
  simpa only [DataW.weightsEach, List.all_append, Bool.and_eq_true] using h
end lift
theorem below_of_drewN {w : World} (k : Nat) : Below w.heap.size w (w.drewN k) := ⟨rfl, rfl, rfl, Nat.le_refl _, fun _ _ => rfl⟩
structure Ints (w : World) (B : Nat) (A : Option Addr) (n : Nat) (xs : List Int) : Prop where
  len : xs.length = n
  small : n ≤ 17592186044416
  wf : ∀ x ∈ xs, -9223372036854775808 ≤ x ∧ x ≤ 9223372036854775807
  cells : 0 < n → ∃ b off, A = some ⟨b, off, none⟩ ∧ b < B ∧ ∀ j, j < n → w.cell? ⟨b, off + j, none⟩ = some (.int .i64 (xs[j]?.getD 0))
theorem Ints.below {w w' : World} {B B' n : Nat} {A : Option Addr} {xs : List Int} (h : Ints w B A n xs) (hb : Below B' w w') (hB : B ≤ B') : Ints w' B A n xs :=
  ⟨h.len, h.small, h.wf, fun hn => by
    obtain ⟨b, off, e, hlt, hc⟩ := h.cells hn
    exact ⟨b, off, e, hlt, fun j hj => (hb.cell (p := ⟨b, off + j, none⟩) (by show b < B'; omega)).trans (hc j hj)⟩⟩
theorem Ints.rng {w : World} {B n : Nat} {A : Option Addr} {xs : List Int} (h : Ints w B A n xs) (j : Nat) : -9223372036854775808 ≤ xs[j]?.getD 0 ∧ xs[j]?.getD 0 ≤ 9223372036854775807 := by
  by_cases hj : j < xs.length
  · have : xs[j]?.getD 0 = xs[j] := by simp [hj]
    rw [this]; exact h.wf _ (List.getElem_mem hj)
  · have : xs[j]?.getD 0 = 0 := by simp [hj]
    rw [this]; omega
theorem Ints.mem {w : World} {B n : Nat} {A : Option Addr} {xs : List Int} (h : Ints w B A n xs) {j : Nat} (hj : j < n) : xs[j]?.getD 0 ∈ xs := by
  have hj' : j < xs.length := by rw [h.len]; exact hj
  have : xs[j]?.getD 0 = xs[j] := by simp [hj']
  rw [this]; exact List.getElem_mem hj'
theorem foldl_take {α : Type} (f : α → Int → α) (a : α) (xs : List Int) {i : Nat} (hi : i < xs.length) : (xs.take (i + 1)).foldl f a = f ((xs.take i).foldl f a) (xs[i]?.getD 0) := by
  rw [List.take_succ_eq_append_getElem hi, List.foldl_append]
  simp [hi]
end Go.Proofs.YtkgnlloioaobiaaGreat
namespace Go.Proofs.YtkgnlloioaobiaaGreat
theorem tmod_cases (a b : Int) (hb : 1 ≤ b) : (a.tmod b = a % b ∧ a.tdiv b = a / b ∧ (0 ≤ a ∨ a % b = 0)) ∨ (a.tmod b = a % b - b ∧ a.tdiv b = a / b + 1 ∧ a < 0 ∧ a % b ≠ 0) := by
  have h1 := @Int.tdiv_eq_ediv a b
  have h2 := @Int.tmod_eq_emod a b
  have hs : b.sign = 1 := Int.sign_eq_one_of_pos (by omega)
  have hn : (b.natAbs : Int) = b := by omega
  rw [hs] at h1
  by_cases h : 0 ≤ a ∨ b ∣ a
  · rw [if_pos h] at h1 h2
    refine .inl ⟨by omega, by omega, ?_⟩
    rcases h with h | h
    · exact .inl h
    · exact .inr (Int.emod_eq_zero_of_dvd h)
  · rw [if_neg h] at h1 h2
    refine .inr ⟨by omega, h1, by omega, fun hz => h (.inr (Int.dvd_of_emod_eq_zero hz))⟩
theorem div_bd (a b : Int) (hb : 1 ≤ b) : (0 ≤ a → 0 ≤ a / b ∧ a / b ≤ a) ∧ (a < 0 → a ≤ a / b ∧ a / b < 0) := by
  refine ⟨fun h => ⟨Int.ediv_nonneg h (by omega), Int.ediv_le_self b h⟩, fun h => ⟨?_, Int.ediv_neg_of_neg_of_pos h (by omega)⟩⟩
  rw [Int.le_ediv_iff_mul_le (by omega)]
  have := Int.mul_le_mul_of_nonpos_left (a := a) (show a ≤ 0 by omega) hb
  omega
end Go.Proofs.YtkgnlloioaobiaaGreat
namespace Go.Proofs.YtkgnlloioaobiaaGreat
open Go.RowKit
theorem own : ownKnob Tryz.prog.godebug = none := by kernel_rfl
theorem laidOut : laidOutB Tryz.prog = true := by kernel_rfl
theorem ret_bool {a b : Bool} (h : a = b) : Ending.returned (.bool a) = .returned (.bool b) := by rw [h]
theorem ret1 {a b : Value} (h : a = b) : Ending.returned a = .returned b := by rw [h]
theorem ret2 {a b c d : Value} (h : a = b) (h' : c = d) : Ending.returned (.tuple #[a, c]) = .returned (.tuple #[b, d]) := by rw [h, h']
theorem vint {k : IntKind} {a b : Int} (h : a = b) : Value.int k a = .int k b := by rw [h]
def fitsB (n : Int) : Bool := decide (-1048576 ≤ n ∧ n ≤ 1048576)
theorem fitsB_true {n : Int} : fitsB n = true ↔ -1048576 ≤ n ∧ n ≤ 1048576 := by unfold fitsB; simp
theorem num_fits (n : Int) (w : World) : Calls Tryz.prog 111 #[.int .i64 n] w fun e w' => e = .returned (.bool (fitsB n)) ∧ w = w' := by
  by_cases h1 : -1048576 ≤ n
  all_goals
    go_enter Tryz.func111, Tryz.ntmps111
    go_wp2
    go_ret
    exact ⟨ret_bool (by unfold fitsB; simp; omega), rfl⟩
theorem headlandref01_fits (n : Int) (w : World) : Calls Tryz.prog 108 #[.int .i64 n] w fun e w' => e = .returned (.bool (fitsB n)) ∧ w = w' := by
  by_cases h1 : -1048576 ≤ n
  all_goals
    go_enter Tryz.func108, Tryz.ntmps108
    go_wp2
    go_ret
    exact ⟨ret_bool (by unfold fitsB; simp; omega), rfl⟩
theorem headlandref01_floor (a b : Int) (wa : -9223372036854775808 ≤ a) (wa' : a ≤ 9223372036854775807) (wb : b ≤ 9223372036854775807) (hb : 1 ≤ b) (w : World) : Calls Tryz.prog 104 #[.int .i64 a, .int .i64 b] w fun e w' => e = .returned (.tuple #[.int .i64 (a / b), .int .i64 0]) ∧ w = w' := by
  have hc := tmod_cases a b hb
  have hd := div_bd a b hb
  have m0 := Int.emod_nonneg a (show b ≠ 0 by omega)
  have m1 := Int.emod_lt_of_pos a (show 0 < b by omega)
  rcases hc with ⟨h1, h2, h3⟩ | ⟨h1, h2, h3, h4⟩
  · have HC := Lib.hid (And.intro h1 h2)
    clear h1 h2
    have g1 : 0 ≤ a.tmod b := by have := HC.out; omega
    clear m0 m1 hd
    go_enter Tryz.func104, Tryz.ntmps104
    go_wp2
    go_ret2
    exact ⟨ret2 (vint HC.out.2) rfl, rfl⟩
  · have HC := Lib.hid (And.intro h1 (And.intro h2 (And.intro h3 (And.intro hd h4))))
    have g1 : a.tmod b < 0 := by omega
    clear h1 h2 h4 hd m0 m1
    go_enter Tryz.func104, Tryz.ntmps104
    go_wp2
    go_ret2
    exact ⟨ret2 (vint (by have := HC.out; unfold wrap64; omega)) rfl, rfl⟩
theorem headlandref01_mod (a b : Int) (wa : -9223372036854775808 ≤ a) (wa' : a ≤ 9223372036854775807) (wb : b ≤ 9223372036854775807) (hb : 1 ≤ b) (w : World) : Calls Tryz.prog 106 #[.int .i64 a, .int .i64 b] w fun e w' => e = .returned (.tuple #[.int .i64 (a % b), .int .i64 0]) ∧ w = w' := by
  have hc := tmod_cases a b hb
  have m0 := Int.emod_nonneg a (show b ≠ 0 by omega)
  have m1 := Int.emod_lt_of_pos a (show 0 < b by omega)
  have HC := Lib.hid (And.intro hc (And.intro m0 m1))
  clear hc m0 m1
  by_cases g1 : a.tmod b < 0
  · go_enter Tryz.func106, Tryz.ntmps106
    go_wp2
    go_ret2
    exact ⟨ret2 (vint (by have := HC.out; unfold wrap64; omega)) rfl, rfl⟩
  · go_enter Tryz.func106, Tryz.ntmps106
    go_wp2
    go_ret2
    exact ⟨ret2 (vint (by have := HC.out; omega)) rfl, rfl⟩
end Go.Proofs.YtkgnlloioaobiaaGreat
namespace Go.Proofs.YtkgnlloioaobiaaGreat
open Go.RowKit
def IntsAt (w : World) (A : Option Addr) (n : Nat) (xs : List Int) : Prop := Ints w w.heap.size A n xs
theorem Ints.mono {w : World} {B B' n : Nat} {A : Option Addr} {xs : List Int} (h : Ints w B A n xs) (hB : B ≤ B') : Ints w B' A n xs :=
  ⟨h.len, h.small, h.wf, fun hn => by
    obtain ⟨b, off, e, hlt, hc⟩ := h.cells hn
    exact ⟨b, off, e, by omega, hc⟩⟩
theorem IntsAt.step {w w' : World} {n : Nat} {A : Option Addr} {xs : List Int} (h : IntsAt w A n xs) (hb : Below w.heap.size w w') : IntsAt w' A n xs :=
  (Ints.below h hb (Nat.le_refl _)).mono hb.size
theorem below_step {w0 w w' : World} (h : Below w0.heap.size w0 w) (hb : Below w.heap.size w w') : Below w0.heap.size w0 w' := h.trans (hb.mono h.size)
theorem below_alloc (w : World) (o : Obj) : Below w.heap.size w (w.alloc o) := (Below.refl _ w).alloc (Nat.le_refl _) o
def validB (xs : List Int) (K : Int) : Bool := decide (xs.length ≤ 12) && fitsB K && xs.all fitsB
theorem validB_true {xs : List Int} {K : Int} : validB xs K = true ↔ xs.length ≤ 12 ∧ fitsB K = true ∧ ∀ x ∈ xs, fitsB x = true := by
  unfold validB; simp [and_assoc]
theorem getD_mem {xs : List Int} {j : Nat} (h : j < xs.length) : xs[j]?.getD 0 ∈ xs := by
  have e : xs[j]?.getD 0 = xs[j] := by simp [h]
  rw [e]; exact List.getElem_mem h
theorem all_getD {xs : List Int} {p : Int → Prop} : (∀ x ∈ xs, p x) ↔ ∀ j, j < xs.length → p (xs[j]?.getD 0) :=
  ⟨fun h j hj => h _ (getD_mem hj), fun h x hx => by
    obtain ⟨j, hj, rfl⟩ := List.getElem_of_mem hx
    have := h j hj
    have e : xs[j]?.getD 0 = xs[j] := by simp [hj]
    rwa [e] at this⟩
def Row (w : World) (g : Nat) (xs : List Int) : Prop := w.heap[g]? = some (.cells (xs.map (Value.int .i64)).toArray 3 (0, 0))
theorem Row.lt {w : World} {g : Nat} {xs : List Int} (h : Row w g xs) : g < w.heap.size := (Array.getElem?_eq_some_iff.1 h).1
theorem Row.cell {w : World} {g : Nat} {xs : List Int} (h : Row w g xs) {j : Nat} (hj : j < xs.length) : w.cell? ⟨g, j, none⟩ = some (.int .i64 (xs[j]?.getD 0)) := by
  rw [cell_of_row w g j _ _ (0, 0) h]; simp [hj]
theorem Row.free {w : World} {g : Nat} {xs : List Int} (h : Row w g xs) (j : Nat) : w.frozen? ⟨g, j, none⟩ = false := by
  unfold Row at h; simp [World.frozen?, h]
theorem Row.below {w w' : World} {g B : Nat} {xs : List Int} (h : Row w g xs) (hb : Below B w w') (hg : g < B) : Row w' g xs := (hb.block g hg).trans h
theorem Row.step {w w' : World} {g : Nat} {xs : List Int} (h : Row w g xs) (hb : Below w.heap.size w w') : Row w' g xs := h.below hb h.lt
theorem Row.drewN {w : World} {g : Nat} {xs : List Int} (h : Row w g xs) (k : Nat) : Row (w.drewN k) g xs := h
theorem Row.other {w : World} {g : Nat} {xs : List Int} (h : Row w g xs) {a : Addr} (ha : g ≠ a.block) (u : Value) : Row (w.setCell a u) g xs := (Below.heap_setCell w a u g ha).trans h
theorem Row.set {w : World} {g : Nat} {xs : List Int} (h : Row w g xs) {j : Nat} (hj : j < xs.length) (x : Int) : Row (w.setCell ⟨g, j, none⟩ (.int .i64 x)) g (xs.set j x) := by
  have hlt := h.lt
  unfold Row at h ⊢
  simp only [World.setCell]
  rw [Array.getElem?_modify]
  simp [h, List.map_set]
theorem Row.new (w : World) (xs : List Int) : Row (w.alloc (.cells (xs.map (Value.int .i64)).toArray 3)) w.heap.size xs := heap_alloc_new w _
theorem Row.ints {w : World} {g n : Nat} {xs : List Int} (h : Row w g xs) (hn : xs.length = n) (hs : n ≤ 17592186044416) (hw : ∀ x ∈ xs, -9223372036854775808 ≤ x ∧ x ≤ 9223372036854775807) : IntsAt w (some ⟨g, 0, none⟩) n xs :=
  ⟨hn, hs, hw, fun _ => ⟨g, 0, rfl, h.lt, fun j hj => by simpa using h.cell (j := j) (by omega)⟩⟩
def zeros (n : Nat) : List Int := List.replicate n 0
theorem zeros_len (n : Nat) : (zeros n).length = n := by simp [zeros]
theorem ints_nil (w : World) (A : Option Addr) : IntsAt w A 0 [] := ⟨rfl, (by omega), (fun x hx => by cases hx), (fun h => absurd h (by omega))⟩
theorem infoInt : (Tryz.prog.info? 3).map (fun i => (i.zero, i.size, i.bytes)) = some (some (.int .i64 0), 1, 8) := by kernel_rfl
theorem make_ints (n : Nat) (hn : n ≤ 17592186044416) (w : World) :
    (Instr.makeSlice 38 (.int .i64 (n : Int)) (.int .i64 (n : Int))).run Tryz.prog w = .ok (.slice (some ⟨w.heap.size, 0, none⟩) n n) (w.alloc (.cells ((zeros n).map (Value.int .i64)).toArray 3)) := by
  obtain ⟨i0, hi, hz0, hz1, hz2⟩ := info_parts infoInt
  have h := run_make (P := Tryz.prog) w 38 3 i0 _ Tryz.underlying38 hi hz0 .i64 .i64 (n : Int) (n : Int) (by omega) (by omega) (by rw [hz2]; omega) (by omega)
  rw [h, hz1]
  have e : madeCells (Value.int .i64 0).cells (n * 1) = ((zeros n).map (Value.int .i64)).toArray := by
    apply Array.ext'
    simp [madeCells, zeros, Value.cells, Nat.mod_one, List.eq_replicate_iff]
  simp only [Int.toNat_natCast]
  rw [e]
def LBox (w : World) (b : Nat) (A : Option Addr) (n c : Nat) (K : Int) : Prop := w.heap[b]? = some (.cells #[.slice A n c, .int .i64 K] 54 (0, 0))
theorem LBox.new (w : World) (A : Option Addr) (n c : Nat) (K : Int) : LBox (w.alloc (.cells #[.slice A n c, .int .i64 K] 54)) w.heap.size A n c K := heap_alloc_new w _
theorem LBox.lt {w : World} {b : Nat} {A : Option Addr} {n c : Nat} {K : Int} (h : LBox w b A n c K) : b < w.heap.size := (Array.getElem?_eq_some_iff.1 h).1
theorem LBox.alloc {w : World} {b : Nat} {A : Option Addr} {n c : Nat} {K : Int} (h : LBox w b A n c K) (o : Obj) : LBox (w.alloc o) b A n c K := (Below.heap_alloc w o b h.lt).trans h
theorem LBox.below {w w' : World} {b B : Nat} {A : Option Addr} {n c : Nat} {K : Int} (h : LBox w b A n c K) (hb : Below B w w') (hB : b < B) : LBox w' b A n c K := (hb.block b hB).trans h
theorem LBox.step {w w' : World} {b : Nat} {A : Option Addr} {n c : Nat} {K : Int} (h : LBox w b A n c K) (hb : Below w.heap.size w w') : LBox w' b A n c K := h.below hb h.lt
theorem LBox.c0 {w : World} {b : Nat} {A : Option Addr} {n c : Nat} {K : Int} (h : LBox w b A n c K) : w.cell? ⟨b, 0, none⟩ = some (.slice A n c) := by
  rw [cell_of_row w b 0 _ _ (0, 0) h]; rfl
theorem LBox.c1 {w : World} {b : Nat} {A : Option Addr} {n c : Nat} {K : Int} (h : LBox w b A n c K) : w.cell? ⟨b, 1, none⟩ = some (.int .i64 K) := by
  rw [cell_of_row w b 1 _ _ (0, 0) h]; rfl
theorem LBox.f {w : World} {b : Nat} {A : Option Addr} {n c : Nat} {K : Int} (h : LBox w b A n c K) (j : Nat) : w.frozen? ⟨b, j, none⟩ = false := by
  unfold LBox at h; simp [World.frozen?, h]
theorem LBox.store {w : World} {b : Nat} {A : Option Addr} {n c : Nat} {K : Int} (h : LBox w b A n c K) (A' : Option Addr) (n' c' : Nat) (K' : Int) :
    LBox ((w.setCell ⟨b, 0, none⟩ (.slice A' n' c')).setCell ⟨b, 1, none⟩ (.int .i64 K')) b A' n' c' K' := by
  unfold LBox at h ⊢
  simp only [World.setCell]
  rw [Array.getElem?_modify, if_pos rfl, Array.getElem?_modify, if_pos rfl, h]
  rfl
theorem LBox.s0 {w : World} {b : Nat} {A : Option Addr} {n c : Nat} {K : Int} (h : LBox w b A n c K) (v : Value) : (w.setCell ⟨b, 0, none⟩ v).cell? ⟨b, 0, none⟩ = some v :=
  World.cell?_setCell_same' _ _ _ (by rw [h.c0]; rfl)
theorem below_store2 {w0 w : World} (h : Below w0.heap.size w0 w) {b : Nat} (hb : w0.heap.size ≤ b) (u v : Value) : Below w0.heap.size w0 ((w.setCell ⟨b, 0, none⟩ u).setCell ⟨b, 1, none⟩ v) :=
  (h.setCell (p := ⟨b, 0, none⟩) hb u).setCell (p := ⟨b, 1, none⟩) hb v
end Go.Proofs.YtkgnlloioaobiaaGreat
namespace Go.Proofs.YtkgnlloioaobiaaGreat
open Go.RowKit Go.Shelf
attribute [local go_sem] Oper.semAt_some
abbrev NzAt (n : Nat) (xs : List Int) : Type := { i : Nat // i < n ∧ xs[i]?.getD 0 ≠ 0 }
def nzl (n : Nat) (xs : List Int) : Nat → List (NzAt n xs)
  | 0 => []
  | k + 1 => if h : k < n ∧ xs[k]?.getD 0 ≠ 0 then nzl n xs k ++ [⟨k, h⟩] else nzl n xs k
theorem nzl_len (n : Nat) (xs : List Int) : ∀ k, (nzl n xs k).length ≤ k
  | 0 => Nat.le_refl _
  | k + 1 => by
    have := nzl_len n xs k
    rw [nzl]
    split
    · rw [List.length_append, List.length_singleton]; omega
    · omega
theorem nzl_hit {n : Nat} {xs : List Int} {k : Nat} (h : k < n ∧ xs[k]?.getD 0 ≠ 0) : nzl n xs (k + 1) = nzl n xs k ++ [⟨k, h⟩] := by rw [nzl, dif_pos h]
theorem nzl_miss {n : Nat} {xs : List Int} {k : Nat} (h : xs[k]?.getD 0 = 0) : nzl n xs (k + 1) = nzl n xs k := by rw [nzl, dif_neg (fun h' => h'.2 h)]
theorem nzl_mem {n : Nat} {xs : List Int} : ∀ {k : Nat} (i : NzAt n xs), i.1 < k → i ∈ nzl n xs k
  | k + 1, i, hi => by
    rw [nzl]
    split
    · rcases Nat.lt_or_eq_of_le (Nat.le_of_lt_succ hi) with h | h
      · exact List.mem_append_left _ (nzl_mem i h)
      · exact List.mem_append_right _ (List.mem_singleton.2 (Subtype.ext h))
    · rename_i hno
      rcases Nat.lt_or_eq_of_le (Nat.le_of_lt_succ hi) with h | h
      · exact nzl_mem i h
      · exact absurd (h ▸ i.2) hno
def nzEnc (n : Nat) (xs : List Int) (i : NzAt n xs) : Array Value := #[.int .i64 (i.1 : Int), .int .i64 (xs[i.1]?.getD 0)]
set_option maxRecDepth 100000 in
set_option maxHeartbeats 2000000 in
theorem terms1_in (F : Fence) (N : Nat) (hf : F.fn 133) (hro : F.round = none) (hN : 1 ≤ N) (l Bs n₀ : Nat) (A : Option Addr) (n c : Nat) (K : Int) (xs : List Int) (J Jx : List (NzAt n xs) → World → Prop)
    (hY : ∀ pre x W, J pre W → pre.length < n → YieldAt F (N - 1) Tryz.prog l (nzEnc n xs x) W fun e W' =>
      (e = .returned (.bool true) ∧ J (pre ++ [x]) W' ∧ Below n₀ W W') ∨ (e = .returned (.bool false) ∧ Jx (pre ++ [x]) W'))
    (W : World) (hBs : W.cell? ⟨Bs, 0, none⟩ = some (.slice A n c)) (hI : Ints W n₀ A n xs) (h0 : J [] W) :
    CallsIn F N Tryz.prog 133 #[.func (.yield l) #[] #[], .pointer (some ⟨Bs, 0, none⟩)] W fun e W' => (∃ v, e = .returned v) ∧
      ((∃ ys, ys = nzl n xs n ∧ J ys W') ∨ (∃ pre, (∃ k, k ≤ n ∧ pre = nzl n xs k) ∧ Jx pre W')) := by
  have hsm := hI.small
  refine callsIn_of_wp Tryz.func133 rfl hf ?_ hro
  simp only [Tryz.ntmps133, List.size_toArray, List.length_cons, List.length_nil, Nat.reduceAdd, Nat.reduceSub, Array.replicate_succ, Array.replicate_zero, List.push_toArray, List.append_toArray, List.nil_append, List.cons_append]
  gi_wp2
  gi_loopw [8] (fun i wr => ∃ k : Nat, k ≤ n ∧ i = .int .i64 k ∧ J (nzl n xs k) wr ∧ Below n₀ W wr) (fun i _ => n - (intOf i).toNat)
  case atStart => exact ⟨0, Nat.zero_le _, rfl, h0, Below.refl _ _⟩
  case round =>
    obtain ⟨k, hk, rfl, hJs, hnx⟩ := hrel
    by_cases hlt : k < n
    · obtain ⟨b, off, rfl, hb, hc⟩ := hI.cells (by omega)
      have hcx : wr.cell? ⟨b, off + k, none⟩ = some (.int .i64 (xs[k]?.getD 0)) := (hnx.cell (p := ⟨b, off + k, none⟩) hb).trans (hc k hlt)
      clear hc
      by_cases hz : xs[k]?.getD 0 = 0
      · have HM := Lib.hid (nzl_miss (n := n) hz)
        rw [hz] at hcx
        clear hz
        gi_wp2
        refine ⟨fun _ h => (by cases h), ?_⟩
        gi_wp2
        go_roundw
        case rel => exact ⟨k + 1, by omega, by simp, by rw [HM.out]; exact hJs, hnx⟩
        case measure => simp [intOf]; omega
      · obtain ⟨x, hx, hm⟩ : ∃ x : NzAt n xs, x.1 = k ∧ nzl n xs (k + 1) = nzl n xs k ++ [x] := ⟨⟨k, hlt, hz⟩, rfl, nzl_hit ⟨hlt, hz⟩⟩
        have HM := Lib.hid hm
        obtain ⟨fn, tmps, assign, body, hy, hR⟩ := hY _ x wr hJs (by have := nzl_len n xs k; omega)
        dsimp only [nzEnc] at hy
        rw [hx] at hy
        clear hm hx
        have hz' : (xs[k]?.getD 0 != 0) = true := by simpa using hz
        have hz'' : (xs[k]?.getD 0 == 0) = false := by simpa using hz
        clear hz
        gi_wp2
        refine hR.mono ?_
        rintro e W3 (⟨rfl, hJ3, hk3⟩ | ⟨rfl, hJx3⟩)
        · gi_wp2
          go_roundw
          case rel => exact ⟨k + 1, by omega, by simp, by rw [HM.out]; exact hJ3, hnx.trans hk3⟩
          case measure => simp [intOf]; omega
        · gi_wp2
          refine bodyPost_ret (results_none rfl _ _ _) rfl ?_
          exact ⟨⟨_, rfl⟩, .inr ⟨_, ⟨k + 1, by omega, HM.out.symm⟩, hJx3⟩⟩
    · obtain rfl : k = n := by omega
      gi_wp2
      go_end0
      exact ⟨⟨_, rfl⟩, .inl ⟨_, rfl, hJs⟩⟩
set_option maxHeartbeats 1000000 in
theorem terms_in (F : Fence) (N : Nat) (hf : F.fn 112) (hro : F.round = none) (A : Option Addr) (n c : Nat) (K : Int) (w : World) :
    CallsIn F N Tryz.prog 112 #[.agg #[.slice A n c, .int .i64 K]] w fun e w' => e = .returned (.func (.func 133) #[] #[.pointer (some ⟨w.heap.size, 0, none⟩)]) ∧ w' = w.alloc (.cells #[.slice A n c, .int .i64 K] 54) := by
  refine callsIn_of_wp Tryz.func112 rfl hf ?_ hro
  simp only [Tryz.ntmps112, List.size_toArray, List.length_cons, List.length_nil, Nat.reduceAdd, Nat.reduceSub, Array.replicate_succ, Array.replicate_zero, List.push_toArray, List.append_toArray, List.nil_append, List.cons_append]
  gi_wp2
  go_ret
  exact ⟨rfl, rfl⟩
theorem terms_stops (F : Fence) (N : Nat) (hf : F.fn 133) (hro : F.round = none) (hN : 1 ≤ N) (Bs n₀ : Nat) (A : Option Addr) (n c : Nat) (K : Int) (xs : List Int) (w : World) (hBs : Bs < w.heap.size) (hn₀ : n₀ ≤ w.heap.size)
    (hc : w.cell? ⟨Bs, 0, none⟩ = some (.slice A n c)) (hI : Ints w n₀ A n xs) :
    SeqStopsK F N Tryz.prog 133 #[.pointer (some ⟨Bs, 0, none⟩)] (nzEnc n xs) (Below n₀) (fun ys => ys = nzl n xs n) (fun pre => ∃ k, k ≤ n ∧ pre = nzl n xs k) n w := fun l J Jx W hW _ _ hY h0 => by
  have hc' := (hW.cell (p := ⟨Bs, 0, none⟩) hBs).trans hc
  exact terms1_in F N hf hro hN l Bs n₀ A n c K xs J Jx hY W hc' (hI.below hW hn₀) h0
set_option maxRecDepth 100000 in
set_option maxHeartbeats 4000000 in
theorem lin_valid (A : Option Addr) (n c : Nat) (K : Int) (xs : List Int) (w : World) (hI : IntsAt w A n xs) :
    Calls Tryz.prog 91 #[.agg #[.slice A n c, .int .i64 K]] w fun e w' => e = .returned (.bool (validB xs K)) ∧ Below w.heap.size w w' := by
  have hro : Fence.wide.round = none := rfl
  have h1 : 1 ≤ 5 := by omega
  refine (callsIn_wide (n := 5)).1 ?_
  refine callsIn_of_wp_marks Tryz.func91 rfl trivial ?_ hro
  simp only [Tryz.ntmps91, List.size_toArray, List.length_cons, List.length_nil, Nat.reduceAdd, Nat.reduceSub, Array.replicate_succ, Array.replicate_zero, List.push_toArray, List.append_toArray, List.nil_append, List.cons_append]
  have hlen := hI.len
  have hB0 : Below w.heap.size w ((w.alloc (.cells #[.slice A n c, .int .i64 K] 54)).alloc (.cells #[.bool false] 4)) := ((Below.refl _ w).alloc (Nat.le_refl _) _).alloc (by simp) _
  by_cases h12 : 12 < n
  · have HV := Lib.hid (show validB xs K = false by unfold validB; rw [hlen, decide_eq_false (by omega)]; rfl)
    have h12' : (12 : Int) < n := by omega
    gi_wp2_with (refine ⟨trivial, ?_⟩)
    refine ⟨.bool false, ?_, ?_⟩
    · simp [results, Tryz.f91, go_sem]
    · exact ⟨by rw [HV.out], hB0⟩
  · have h12' : decide ((12 : Int) < n) = false := by simp; omega
    cases hK : fitsB K
    · have HV := Lib.hid (show validB xs K = false by unfold validB; rw [hK]; simp)
      gi_wp2_with (refine ⟨trivial, ?_⟩; gi_at_call 111; refine (callsIn_wide.2 (num_fits _ _)).mono ?_; rintro e w' ⟨rfl, rfl⟩)
      refine ⟨.bool false, ?_, ?_⟩
      · simp [results, Tryz.f91, go_sem]
      · exact ⟨by rw [HV.out], hB0⟩
    · gi_wp2_with (first
        | (refine ⟨trivial, ?_⟩; gi_at_call 111; refine (callsIn_wide.2 (num_fits _ _)).mono ?_; rintro e w' ⟨rfl, rfl⟩)
        | (refine ⟨trivial, ?_⟩; gi_at_call 112; refine (terms_in Fence.wide _ trivial hro _ _ _ _ _).mono ?_; rintro e w' ⟨rfl, rfl⟩))
      have bR := (Boxed.new (w.alloc (.cells #[.slice A n c, .int .i64 K] 54)) 4 (.bool false)).alloc (.cells #[.slice A n c, .int .i64 K] 54)
      rw [World.size_alloc] at bR
      have hB1 := hB0.alloc (by simp; omega) (.cells #[.slice A n c, .int .i64 K] 54)
      have hcl : ((((w.alloc (.cells #[.slice A n c, .int .i64 K] 54)).alloc (.cells #[.bool false] 4)).alloc (.cells #[.slice A n c, .int .i64 K] 54))).cell? ⟨w.heap.size + 1 + 1, 0, none⟩ = some (.slice A n c) := by
        rw [World.cell?_alloc_at _ _ _ _ (by simp)]; rfl
      refine wpIn_rangeFunc_ownG hro h1 (gf := 133) (lb := #[.pointer (some ⟨w.heap.size + 1 + 1, 0, none⟩)]) rfl trivial (enters_of Tryz.func133 (by kernel_rfl) rfl)
        (terms_stops Fence.wide (5 - 1) trivial hro (by omega) (w.heap.size + 1 + 1) w.heap.size A n c K xs _ (by simp) (by simp; omega) hcl (hI.below hB1 (Nat.le_refl _))) belowK_t (belowK_b (by simp; omega)) (Below.refl _ _) (fun _ => rfl)
        (fun pre W => ((∀ i ∈ pre, fitsB (xs[i.1]?.getD 0) = true) ∧ W.cell? ⟨w.heap.size + 1, 0, none⟩ = some (.bool false) ∧ W.frozen? ⟨w.heap.size + 1, 0, none⟩ = false) ∧ Below w.heap.size w W)
        (fun cd pre W => (cd = .ret ∧ validB xs K = false ∧ W.cell? ⟨w.heap.size + 1, 0, none⟩ = some (.bool false)) ∧ Below w.heap.size w W)
        (OwnFrom.and (Own.from (fun s A B row hs hg hr => ⟨hs.1, cell_kept hs.2.1 hg hr, (frozen_kept hs.2.1 hg hr).trans hs.2.2⟩) _) (ownFrom_below (Nat.le_refl _) (by simp; omega)))
        (fun cd => OwnFrom.and (Own.from (fun s A B row hs hg hr => ⟨hs.1, hs.2.1, cell_kept hs.2.2 hg hr⟩) _) (ownFrom_below (Nat.le_refl _) (by simp; omega)))
        ⟨⟨by simp, bR.cell, bR.frozen⟩, hB1⟩
        (fun x => { tmps := #[.agg #[.slice A n c, .int .i64 K], .pointer (some ⟨w.heap.size, 0, none⟩), .pointer (some ⟨w.heap.size + 1, 0, none⟩), undef, .int .i64 (xs[x.1]?.getD 0), .pointer (some ⟨w.heap.size, 0, none⟩), .slice A n c, .int .i64 n, .bool false, .bool false,
          .pointer (some ⟨w.heap.size, 1, none⟩), .int .i64 K, .bool true, .bool false, .bool false, .agg #[.slice A n c, .int .i64 K], .func (.func 133) #[] #[.pointer (some ⟨w.heap.size + 1 + 1, 0, none⟩)], .int .i64 (x.1 : Int), .int .i64 (xs[x.1]?.getD 0), undef, undef, undef], defers := [] }) ?assign ?body ?done ?stop
      case assign =>
        intro l x W K hK
        dsimp only [nzEnc]
        gi_wp2
        exact hK
      case body =>
        rintro l pre x W ⟨⟨hp, hcr, hfr⟩, hB⟩ _
        cases hx : fitsB (xs[x.1]?.getD 0)
        · have HV := Lib.hid (show validB xs K = false by
            rw [Bool.eq_false_iff]; intro h; have := (validB_true.1 h).2.2 _ (hI.mem x.2.1); rw [hx] at this; cases this)
          gi_wp2_with (refine ⟨trivial, ?_⟩; gi_at_call 111; refine (CallsIn.inRound l (callsIn_wide.2 (num_fits _ _))).mono ?_; rintro e w' ⟨rfl, rfl⟩)
          exact ⟨(KeepsOthers.setCell _ _ _).from _, ⟨rfl, HV.out, World.cell?_setCell_same' _ _ _ (by rw [hcr]; rfl)⟩, hB.setCell (p := ⟨w.heap.size + 1, 0, none⟩) (by simp) _⟩
        · gi_wp2_with (refine ⟨trivial, ?_⟩; gi_at_call 111; refine (CallsIn.inRound l (callsIn_wide.2 (num_fits _ _))).mono ?_; rintro e w' ⟨rfl, rfl⟩)
          exact ⟨KeepsFrom.refl _ _, Below.refl _ _, ⟨fun p hp' => (List.mem_append.1 hp').elim (hp p) (fun e => by rw [List.mem_singleton] at e; subst e; exact hx), hcr, hfr⟩, hB⟩
      case done =>
        rintro D ys W hD rfl ⟨⟨hne, hcr, hfr⟩, hB⟩ hK'
        have HV := Lib.hid (show validB xs K = true from validB_true.2 ⟨by omega, hK, (all_getD (p := fun x => fitsB x = true)).2 fun j hj => by
          by_cases hz : xs[j]?.getD 0 = 0
          · rw [hz]; rfl
          · exact hne ⟨j, by omega, hz⟩ (nzl_mem _ (by show j < n; omega))⟩)
        clear hne
        gi_wp2
        have hK2 := (KeepsOthers.setCell W ⟨w.heap.size + 1, 0, none⟩ (.bool true)).same D _ hK' rfl
        refine ⟨by simp, .inl ⟨_, _, rfl, run_takeDeferred hK2, ?_⟩⟩
        have hc5 := cell_kept (World.cell?_setCell_same' W ⟨w.heap.size + 1, 0, none⟩ (.bool true) (by rw [hcr]; rfl)) (grownBy_putObj' _ D (.deferred none)) (fun r e => by cases e; exact ⟨_, hK2, rfl⟩)
        refine ⟨.bool true, ?_, by rw [HV.out], (hB.setCell (p := ⟨w.heap.size + 1, 0, none⟩) (by simp) _).trans (belowK_b (w := w) (Nat.le_refl _) _ D _ _ (by simp at hD; omega) hK2 rfl rfl)⟩
        simp [results, Tryz.f91, go_sem, hc5]
      case stop =>
        rintro D cd pre W hD _ ⟨⟨rfl, hv, hcr⟩, hB⟩ hK'
        have HV := Lib.hid hv
        clear hv
        gi_wp2
        refine ⟨by simp, .inl ⟨_, _, rfl, run_takeDeferred hK', ?_⟩⟩
        have hc5 := cell_kept hcr (grownBy_putObj' _ D (.deferred none)) (fun r e => by cases e; exact ⟨_, hK', rfl⟩)
        refine ⟨.bool false, ?_, by rw [HV.out], hB.trans (belowK_b (w := w) (Nat.le_refl _) W D _ _ (by simp at hD; omega) hK' rfl rfl)⟩
        simp [results, Tryz.f91, go_sem, hc5]
end Go.Proofs.YtkgnlloioaobiaaGreat
namespace Go.Proofs.YtkgnlloioaobiaaGreat
open Go.RowKit
def dotSum (cs xs : List Int) : Nat → Int
  | 0 => 0
  | i + 1 => dotSum cs xs i + cs[i]?.getD 0 * xs[i]?.getD 0
end Go.Proofs.YtkgnlloioaobiaaGreat
namespace Go.Proofs.YtkgnlloioaobiaaGreat
open Go.RowKit
theorem ref_valid (A : Option Addr) (n c : Nat) (K : Int) (xs : List Int) (w : World) (hI : IntsAt w A n xs) :
    Calls Tryz.prog 85 #[.agg #[.slice A n c, .int .i64 K]] w fun e w' => e = .returned (.bool (validB xs K)) ∧ Below w.heap.size w w' := by
  have hB := below_alloc w (.cells #[.slice A n c, .int .i64 K] 54)
  have h := hI.step hB
  have HL := Lib.hid hI.len
  have hsm := hI.small
  go_enter Tryz.func85, Tryz.ntmps85
  go_wp2
  go_loop [8] (fun v => ∃ i : Nat, i ≤ n ∧ v = .int .i64 i ∧ ∀ j, j < i → fitsB (xs[j]?.getD 0) = true) (fun v => n - (intOf v).toNat)
  case atStart => exact ⟨0, Nat.zero_le _, rfl, fun j hj => absurd hj (by omega)⟩
  case round =>
    obtain ⟨i, hi, rfl, hg⟩ := hrel
    have HG := Lib.hid hg
    clear hg
    by_cases hlt : i < n
    · obtain ⟨b, off, rfl, hb, hc⟩ := h.cells (by omega)
      have hcell := hc i hlt
      clear hc
      cases hx : fitsB (xs[i]?.getD 0)
      · have HV := Lib.hid (show validB xs K = false by
          rw [Bool.eq_false_iff]; intro h'; have := (validB_true.1 h').2.2 _ (hI.mem hlt); rw [hx] at this; cases this)
        go_wp2_with (go_at_call 108; refine (headlandref01_fits _ _).mono ?_; rintro e w' ⟨rfl, rfl⟩)
        go_ret
        exact ⟨ret_bool HV.out.symm, hB⟩
      · have HX := Lib.hid hx
        go_wp2_with (go_at_call 108; refine (headlandref01_fits _ _).mono ?_; rintro e w' ⟨rfl, rfl⟩)
        go_round
        case rel => exact ⟨i + 1, by omega, by go_num, fun j hj => by
          rcases Nat.lt_or_eq_of_le (Nat.le_of_lt_succ hj) with h1 | h1
          · exact HG.out j h1
          · exact h1 ▸ HX.out⟩
        case measure => simp [intOf]; omega
    · obtain rfl : i = n := by omega
      have hall : ∀ x ∈ xs, fitsB x = true := (all_getD (p := fun x => fitsB x = true)).2 fun j hj => HG.out j (by have := HL.out; omega)
      by_cases h12 : 12 < i
      · have HV := Lib.hid (show validB xs K = false by unfold validB; rw [HL.out, decide_eq_false (by omega)]; rfl)
        have h12' : (12 : Int) < i := by omega
        clear hall
        go_wp2
        go_ret
        exact ⟨ret_bool HV.out.symm, hB⟩
      · have HV := Lib.hid (show validB xs K = fitsB K by
          cases hk : fitsB K
          · unfold validB; rw [hk]; simp
          · exact validB_true.2 ⟨by have := HL.out; omega, hk, hall⟩)
        have h12' : (i : Int) ≤ 12 := by omega
        clear hall
        go_wp2_with (go_at_call 108; refine (headlandref01_fits _ _).mono ?_; rintro e w' ⟨rfl, rfl⟩)
        go_ret
        exact ⟨ret_bool HV.out.symm, hB⟩
def sameB (xs : List Int) (K : Int) (ys : List Int) (L : Int) : Bool := decide (xs = ys ∧ K = L)
theorem sameB_self (xs : List Int) (K : Int) : sameB xs K xs K = true := by unfold sameB; simp
theorem sameB_true {xs ys : List Int} {K L : Int} : sameB xs K ys L = true ↔ xs = ys ∧ K = L := by unfold sameB; simp
theorem ref_same (A : Option Addr) (n c : Nat) (K : Int) (xs : List Int) (A' : Option Addr) (n' c' : Nat) (L : Int) (ys : List Int) (w : World) (hI : IntsAt w A n xs) (hI' : IntsAt w A' n' ys) :
    Calls Tryz.prog 124 #[.agg #[.slice A n c, .int .i64 K], .agg #[.slice A' n' c', .int .i64 L]] w fun e w' => e = .returned (.bool (sameB xs K ys L)) ∧ Below w.heap.size w w' := by
  obtain ⟨o1, ho1⟩ : ∃ o, o = Obj.cells #[.slice A n c, .int .i64 K] 54 := ⟨_, rfl⟩
  obtain ⟨o2, ho2⟩ : ∃ o, o = Obj.cells #[.slice A' n' c', .int .i64 L] 54 := ⟨_, rfl⟩
  have hB := below_step (below_alloc w o1) (below_alloc (w.alloc o1) o2)
  have h := hI.step hB
  have h' := hI'.step hB
  rw [ho1, ho2] at h h' hB
  clear ho1 ho2
  have HL := Lib.hid hI.len
  have HL' := Lib.hid hI'.len
  have hsm := hI.small
  have hsm' := hI'.small
  by_cases hn : n = n'
  · subst hn
    by_cases hk : K = L
    · subst hk
      go_enter Tryz.func124, Tryz.ntmps124
      go_wp2
      go_loopw [23] (fun v wr => ∃ i k : Nat, i ≤ n ∧ v = .int .i64 i ∧ (∀ j, j < i → xs[j]?.getD 0 = ys[j]?.getD 0) ∧ wr = ((w.alloc (.cells #[.slice A n c, .int .i64 K] 54)).alloc (.cells #[.slice A' n c', .int .i64 K] 54)).drewN k) (fun v _ => n - (intOf v).toNat)
      case atStart => exact ⟨0, 0, Nat.zero_le _, rfl, fun j hj => absurd hj (by omega), rfl⟩
      case round =>
        obtain ⟨i, k, hi, rfl, hg, rfl⟩ := hrel
        have HG := Lib.hid hg
        clear hg
        by_cases hlt : i < n
        · obtain ⟨b, off, rfl, hb, hc⟩ := h.cells (by omega)
          obtain ⟨b', off', rfl, hb', hc'⟩ := h'.cells (by omega)
          have hcell := hc i hlt
          have hcell' := hc' i hlt
          clear hc hc'
          by_cases hx : xs[i]?.getD 0 = ys[i]?.getD 0
          · have HX := Lib.hid hx
            rw [hx] at hcell
            clear hx
            go_wp2
            go_quiet (fail)
            go_wp2
            go_roundw
            case rel => exact ⟨i + 1, _, by omega, by go_num, (fun j hj => by
              rcases Nat.lt_or_eq_of_le (Nat.le_of_lt_succ hj) with h1 | h1
              · exact HG.out j h1
              · exact h1 ▸ HX.out), rfl⟩
            case measure => simp [intOf]; omega
          · have HV := Lib.hid (show sameB xs K ys K = false by
              rw [Bool.eq_false_iff]; intro h'; exact hx (by rw [(sameB_true.1 h').1]))
            have hx1 : (xs[i]?.getD 0 != ys[i]?.getD 0) = true := by simpa using hx
            have hx2 : (xs[i]?.getD 0 == ys[i]?.getD 0) = false := by simpa using hx
            clear hx
            go_wp2
            go_quiet (fail)
            go_wp2
            go_ret
            exact ⟨ret_bool HV.out.symm, by first | exact below_step hB (below_of_drewN _) | (simp only [World.drewN_drewN]; exact below_step hB (below_of_drewN _))⟩
        · obtain rfl : i = n := by omega
          have HV := Lib.hid (show sameB xs K ys K = true from sameB_true.2 ⟨by
            apply List.ext_getElem (by rw [HL.out, HL'.out])
            intro j h1 h2
            have := HG.out j (by have := HL.out; omega)
            simpa [h1, h2] using this, rfl⟩)
          go_wp2
          go_ret
          exact ⟨ret_bool HV.out.symm, by first | exact below_step hB (below_of_drewN _) | (simp only [World.drewN_drewN]; exact below_step hB (below_of_drewN _))⟩
    · have HV := Lib.hid (show sameB xs K ys L = false by
        rw [Bool.eq_false_iff]; intro h'; exact hk (sameB_true.1 h').2)
      have hk1 : (K != L) = true := by simpa using hk
      have hk2 : (K == L) = false := by simpa using hk
      clear hk
      go_enter Tryz.func124, Tryz.ntmps124
      go_wp2
      go_ret
      exact ⟨ret_bool HV.out.symm, hB⟩
  · have HV := Lib.hid (show sameB xs K ys L = false by
      rw [Bool.eq_false_iff]; intro h'; exact hn (by rw [← HL.out, ← HL'.out, (sameB_true.1 h').1]))
    have hk1 : ((n : Int) != (n' : Int)) = true := by simpa using fun e => hn (by omega)
    have hk2 : ((n : Int) == (n' : Int)) = false := by simpa using fun e => hn (by omega)
    clear hn
    go_enter Tryz.func124, Tryz.ntmps124
    go_wp2
    go_ret
    exact ⟨ret_bool HV.out.symm, hB⟩
end Go.Proofs.YtkgnlloioaobiaaGreat
namespace Go.Proofs.YtkgnlloioaobiaaGreat
open Go.RowKit
abbrev condV (q M : Int) (A : Option Addr) (n c : Nat) (K : Int) : Value := .agg #[.int .i64 q, .int .i64 M, .slice A n c, .int .i64 K]
def CBox (w : World) (b : Nat) (q M : Int) (A : Option Addr) (n c : Nat) (K : Int) : Prop := w.heap[b]? = some (.cells #[.int .i64 q, .int .i64 M, .slice A n c, .int .i64 K] 56 (0, 0))
section
variable {w w' : World} {b : Nat} {q M : Int} {A : Option Addr} {n c : Nat} {K : Int}
theorem CBox.new (w : World) (q M : Int) (A : Option Addr) (n c : Nat) (K : Int) : CBox (w.alloc (.cells #[.int .i64 q, .int .i64 M, .slice A n c, .int .i64 K] 56)) w.heap.size q M A n c K := heap_alloc_new w _
theorem CBox.lt (h : CBox w b q M A n c K) : b < w.heap.size := (Array.getElem?_eq_some_iff.1 h).1
theorem CBox.below {B : Nat} (h : CBox w b q M A n c K) (hb : Below B w w') (hB : b < B) : CBox w' b q M A n c K := (hb.block b hB).trans h
theorem CBox.step (h : CBox w b q M A n c K) (hb : Below w.heap.size w w') : CBox w' b q M A n c K := h.below hb h.lt
theorem CBox.alloc (h : CBox w b q M A n c K) (o : Obj) : CBox (w.alloc o) b q M A n c K := h.step (below_alloc w o)
theorem CBox.c0 (h : CBox w b q M A n c K) : w.cell? ⟨b, 0, none⟩ = some (.int .i64 q) := by rw [cell_of_row w b 0 _ _ (0, 0) h]; rfl
theorem CBox.c1 (h : CBox w b q M A n c K) : w.cell? ⟨b, 1, none⟩ = some (.int .i64 M) := by rw [cell_of_row w b 1 _ _ (0, 0) h]; rfl
theorem CBox.c2 (h : CBox w b q M A n c K) : w.cell? ⟨b, 2, none⟩ = some (.slice A n c) := by rw [cell_of_row w b 2 _ _ (0, 0) h]; rfl
theorem CBox.c3 (h : CBox w b q M A n c K) : w.cell? ⟨b, 3, none⟩ = some (.int .i64 K) := by rw [cell_of_row w b 3 _ _ (0, 0) h]; rfl
end
theorem CBox.f {w : World} {b : Nat} {q M : Int} {A : Option Addr} {n c : Nat} {K : Int} (h : CBox w b q M A n c K) (j : Nat) : w.frozen? ⟨b, j, none⟩ = false := by
  unfold CBox at h; simp [World.frozen?, h]
theorem CBox.four {w : World} {b : Nat} {q M : Int} {A : Option Addr} {n c : Nat} {K : Int} (h : CBox w b q M A n c K) (q' M' : Int) (A' : Option Addr) (n' c' : Nat) (K' : Int) :
    (w.setCell ⟨b, 0, none⟩ (.int .i64 q')).cell? ⟨b, 0, none⟩ = some (.int .i64 q') ∧
    ((w.setCell ⟨b, 0, none⟩ (.int .i64 q')).setCell ⟨b, 1, none⟩ (.int .i64 M')).cell? ⟨b, 1, none⟩ = some (.int .i64 M') ∧
    (((w.setCell ⟨b, 0, none⟩ (.int .i64 q')).setCell ⟨b, 1, none⟩ (.int .i64 M')).setCell ⟨b, 2, none⟩ (.slice A' n' c')).cell? ⟨b, 2, none⟩ = some (.slice A' n' c') ∧
    ((((w.setCell ⟨b, 0, none⟩ (.int .i64 q')).setCell ⟨b, 1, none⟩ (.int .i64 M')).setCell ⟨b, 2, none⟩ (.slice A' n' c')).setCell ⟨b, 3, none⟩ (.int .i64 K')).cell? ⟨b, 3, none⟩ = some (.int .i64 K') := by
  have s1 : (w.setCell ⟨b, 0, none⟩ (.int .i64 q')).heap[b]? = some (.cells #[.int .i64 q', .int .i64 M, .slice A n c, .int .i64 K] 56 (0, 0)) := by
    unfold CBox at h; simp only [World.setCell]; rw [Array.getElem?_modify, if_pos rfl, h]; rfl
  have s2 : ((w.setCell ⟨b, 0, none⟩ (.int .i64 q')).setCell ⟨b, 1, none⟩ (.int .i64 M')).heap[b]? = some (.cells #[.int .i64 q', .int .i64 M', .slice A n c, .int .i64 K] 56 (0, 0)) := by
    show (Array.modify _ b _)[b]? = _
    rw [Array.getElem?_modify, if_pos rfl, s1]; rfl
  have s3 : (((w.setCell ⟨b, 0, none⟩ (.int .i64 q')).setCell ⟨b, 1, none⟩ (.int .i64 M')).setCell ⟨b, 2, none⟩ (.slice A' n' c')).heap[b]? = some (.cells #[.int .i64 q', .int .i64 M', .slice A' n' c', .int .i64 K] 56 (0, 0)) := by
    show (Array.modify _ b _)[b]? = _
    rw [Array.getElem?_modify, if_pos rfl, s2]; rfl
  have s4 : ((((w.setCell ⟨b, 0, none⟩ (.int .i64 q')).setCell ⟨b, 1, none⟩ (.int .i64 M')).setCell ⟨b, 2, none⟩ (.slice A' n' c')).setCell ⟨b, 3, none⟩ (.int .i64 K')).heap[b]? = some (.cells #[.int .i64 q', .int .i64 M', .slice A' n' c', .int .i64 K'] 56 (0, 0)) := by
    show (Array.modify _ b _)[b]? = _
    rw [Array.getElem?_modify, if_pos rfl, s3]; rfl
  exact ⟨by rw [cell_of_row _ b 0 _ _ (0, 0) s1]; rfl, by rw [cell_of_row _ b 1 _ _ (0, 0) s2]; rfl, by rw [cell_of_row _ b 2 _ _ (0, 0) s3]; rfl, by rw [cell_of_row _ b 3 _ _ (0, 0) s4]; rfl⟩
theorem below_store4 {w0 w : World} (h : Below w0.heap.size w0 w) {b : Nat} (hb : w0.heap.size ≤ b) (u v x y : Value) : Below w0.heap.size w0 ((((w.setCell ⟨b, 0, none⟩ u).setCell ⟨b, 1, none⟩ v).setCell ⟨b, 2, none⟩ x).setCell ⟨b, 3, none⟩ y) :=
  (((h.setCell (p := ⟨b, 0, none⟩) hb u).setCell (p := ⟨b, 1, none⟩) hb v).setCell (p := ⟨b, 2, none⟩) hb x).setCell (p := ⟨b, 3, none⟩) hb y
def validC (q M : Int) (xs : List Int) (K : Int) : Bool := validB xs K && (if q = 2 then decide (1 ≤ M ∧ M ≤ 512) else decide ((q = 0 ∨ q = 1) ∧ M = 0))
set_option maxHeartbeats 2000000 in
theorem cond_valid (q M : Int) (A : Option Addr) (n c : Nat) (K : Int) (xs : List Int) (w : World) (hI : IntsAt w A n xs) :
    Calls Tryz.prog 84 #[condV q M A n c K] w fun e w' => e = .returned (.bool (validC q M xs K)) ∧ Below w.heap.size w w' := by
  have hB := below_alloc w (.cells #[.int .i64 q, .int .i64 M, .slice A n c, .int .i64 K] 56)
  have h1 := hI.step hB
  have B1 := CBox.new w q M A n c K
  obtain ⟨v, hv⟩ : ∃ v, validB xs K = v := ⟨_, rfl⟩
  have HV := Lib.hid hv
  rcases (show q = 0 ∨ q = 1 ∨ q = 2 ∨ (q ≠ 0 ∧ q ≠ 1 ∧ q ≠ 2) by omega) with rfl | rfl | rfl | ⟨g0, g1, g2⟩
  · by_cases hM : M = 0
    · subst hM
      have HE := Lib.hid (show validC 0 0 xs K = v by unfold validC; rw [hv]; simp)
      clear hv hI
      cases v
      all_goals
        go_enter Tryz.func84, Tryz.ntmps84
        go_wp2_with (go_at_call 91; refine (lin_valid _ _ _ _ xs _ h1).mono ?_; rintro e w1 ⟨rfl, hb⟩; rw [HV.out]; replace hB := below_step hB hb; replace B1 := B1.step hb; have c0 := B1.c0; have c1 := B1.c1; have c2 := B1.c2; have c3 := B1.c3)
        all_goals
          go_ret
          exact ⟨ret_bool (by first | exact HE.out.symm | (rw [HE.out]; simp; omega)), hB⟩
    · have HE := Lib.hid (show validC 0 M xs K = false by unfold validC; simp [hM])
      have q1 : (M == 0) = false := by simpa using hM
      clear hv hI hM
      cases v
      all_goals
        go_enter Tryz.func84, Tryz.ntmps84
        go_wp2_with (go_at_call 91; refine (lin_valid _ _ _ _ xs _ h1).mono ?_; rintro e w1 ⟨rfl, hb⟩; rw [HV.out]; replace hB := below_step hB hb; replace B1 := B1.step hb; have c0 := B1.c0; have c1 := B1.c1; have c2 := B1.c2; have c3 := B1.c3)
        all_goals
          go_ret
          exact ⟨ret_bool (by first | exact HE.out.symm | (rw [HE.out]; simp; omega)), hB⟩
  · by_cases hM : M = 0
    · subst hM
      have HE := Lib.hid (show validC 1 0 xs K = v by unfold validC; rw [hv]; simp)
      clear hv hI
      cases v
      all_goals
        go_enter Tryz.func84, Tryz.ntmps84
        go_wp2_with (go_at_call 91; refine (lin_valid _ _ _ _ xs _ h1).mono ?_; rintro e w1 ⟨rfl, hb⟩; rw [HV.out]; replace hB := below_step hB hb; replace B1 := B1.step hb; have c0 := B1.c0; have c1 := B1.c1; have c2 := B1.c2; have c3 := B1.c3)
        all_goals
          go_ret
          exact ⟨ret_bool (by first | exact HE.out.symm | (rw [HE.out]; simp; omega)), hB⟩
    · have HE := Lib.hid (show validC 1 M xs K = false by unfold validC; simp [hM])
      have q1 : (M == 0) = false := by simpa using hM
      clear hv hI hM
      cases v
      all_goals
        go_enter Tryz.func84, Tryz.ntmps84
        go_wp2_with (go_at_call 91; refine (lin_valid _ _ _ _ xs _ h1).mono ?_; rintro e w1 ⟨rfl, hb⟩; rw [HV.out]; replace hB := below_step hB hb; replace B1 := B1.step hb; have c0 := B1.c0; have c1 := B1.c1; have c2 := B1.c2; have c3 := B1.c3)
        all_goals
          go_ret
          exact ⟨ret_bool (by first | exact HE.out.symm | (rw [HE.out]; simp; omega)), hB⟩
  · rcases (show (1 ≤ M ∧ M ≤ 512) ∨ M < 1 ∨ (1 ≤ M ∧ 512 < M) by omega) with ⟨hM, hM'⟩ | hM | ⟨hM, hM'⟩
    · have HE := Lib.hid (show validC 2 M xs K = v by unfold validC; rw [hv]; simp [hM, hM'])
      clear hv hI
      cases v
      all_goals
        go_enter Tryz.func84, Tryz.ntmps84
        go_wp2_with (go_at_call 91; refine (lin_valid _ _ _ _ xs _ h1).mono ?_; rintro e w1 ⟨rfl, hb⟩; rw [HV.out]; replace hB := below_step hB hb; replace B1 := B1.step hb; have c0 := B1.c0; have c1 := B1.c1; have c2 := B1.c2; have c3 := B1.c3)
        all_goals
          go_ret
          exact ⟨ret_bool (by first | exact HE.out.symm | (rw [HE.out]; simp; omega)), hB⟩
    · have HE := Lib.hid (show validC 2 M xs K = false by unfold validC; simp; omega)
      clear hv hI
      cases v
      all_goals
        go_enter Tryz.func84, Tryz.ntmps84
        go_wp2_with (go_at_call 91; refine (lin_valid _ _ _ _ xs _ h1).mono ?_; rintro e w1 ⟨rfl, hb⟩; rw [HV.out]; replace hB := below_step hB hb; replace B1 := B1.step hb; have c0 := B1.c0; have c1 := B1.c1; have c2 := B1.c2; have c3 := B1.c3)
        all_goals
          go_ret
          exact ⟨ret_bool (by first | exact HE.out.symm | (rw [HE.out]; simp; omega)), hB⟩
    · have HE := Lib.hid (show validC 2 M xs K = false by unfold validC; simp; omega)
      clear hv hI
      cases v
      all_goals
        go_enter Tryz.func84, Tryz.ntmps84
        go_wp2_with (go_at_call 91; refine (lin_valid _ _ _ _ xs _ h1).mono ?_; rintro e w1 ⟨rfl, hb⟩; rw [HV.out]; replace hB := below_step hB hb; replace B1 := B1.step hb; have c0 := B1.c0; have c1 := B1.c1; have c2 := B1.c2; have c3 := B1.c3)
        all_goals
          go_ret
          exact ⟨ret_bool (by first | exact HE.out.symm | (rw [HE.out]; simp; omega)), hB⟩
  · have HE := Lib.hid (show validC q M xs K = false by unfold validC; simp [g0, g1, g2])
    have q0 : (q == 0) = false := by simpa using g0
    have q1 : (q == 1) = false := by simpa using g1
    have q2 : (q == 2) = false := by simpa using g2
    clear hv hI g0 g1 g2
    cases v
    all_goals
      go_enter Tryz.func84, Tryz.ntmps84
      go_wp2_with (go_at_call 91; refine (lin_valid _ _ _ _ xs _ h1).mono ?_; rintro e w1 ⟨rfl, hb⟩; rw [HV.out]; replace hB := below_step hB hb; replace B1 := B1.step hb; have c0 := B1.c0; have c1 := B1.c1; have c2 := B1.c2; have c3 := B1.c3)
      all_goals
        go_ret
        exact ⟨ret_bool (by first | exact HE.out.symm | (rw [HE.out]; simp; omega)), hB⟩
set_option maxHeartbeats 2000000 in
theorem ref_cvalid (q M : Int) (A : Option Addr) (n c : Nat) (K : Int) (xs : List Int) (w : World) (hI : IntsAt w A n xs) :
    Calls Tryz.prog 58 #[condV q M A n c K] w fun e w' => e = .returned (.bool (validC q M xs K)) ∧ Below w.heap.size w w' := by
  have hB := below_alloc w (.cells #[.int .i64 q, .int .i64 M, .slice A n c, .int .i64 K] 56)
  have h1 := hI.step hB
  have B1 := CBox.new w q M A n c K
  obtain ⟨v, hv⟩ : ∃ v, validB xs K = v := ⟨_, rfl⟩
  have HV := Lib.hid hv
  rcases (show q = 0 ∨ q = 1 ∨ q = 2 ∨ (q ≠ 0 ∧ q ≠ 1 ∧ q ≠ 2) by omega) with rfl | rfl | rfl | ⟨g0, g1, g2⟩
  · by_cases hM : M = 0
    · subst hM
      have HE := Lib.hid (show validC 0 0 xs K = v by unfold validC; rw [hv]; simp)
      clear hv hI
      cases v
      all_goals
        go_enter Tryz.func58, Tryz.ntmps58
        go_wp2_with (go_at_call 85; refine (ref_valid _ _ _ _ xs _ h1).mono ?_; rintro e w1 ⟨rfl, hb⟩; rw [HV.out]; replace hB := below_step hB hb; replace B1 := B1.step hb; have c0 := B1.c0; have c1 := B1.c1; have c2 := B1.c2; have c3 := B1.c3)
        all_goals
          go_ret
          exact ⟨ret_bool (by first | exact HE.out.symm | (rw [HE.out]; simp; omega)), hB⟩
    · have HE := Lib.hid (show validC 0 M xs K = false by unfold validC; simp [hM])
      have q1 : (M == 0) = false := by simpa using hM
      clear hv hI hM
      cases v
      all_goals
        go_enter Tryz.func58, Tryz.ntmps58
        go_wp2_with (go_at_call 85; refine (ref_valid _ _ _ _ xs _ h1).mono ?_; rintro e w1 ⟨rfl, hb⟩; rw [HV.out]; replace hB := below_step hB hb; replace B1 := B1.step hb; have c0 := B1.c0; have c1 := B1.c1; have c2 := B1.c2; have c3 := B1.c3)
        all_goals
          go_ret
          exact ⟨ret_bool (by first | exact HE.out.symm | (rw [HE.out]; simp; omega)), hB⟩
  · by_cases hM : M = 0
    · subst hM
      have HE := Lib.hid (show validC 1 0 xs K = v by unfold validC; rw [hv]; simp)
      clear hv hI
      cases v
      all_goals
        go_enter Tryz.func58, Tryz.ntmps58
        go_wp2_with (go_at_call 85; refine (ref_valid _ _ _ _ xs _ h1).mono ?_; rintro e w1 ⟨rfl, hb⟩; rw [HV.out]; replace hB := below_step hB hb; replace B1 := B1.step hb; have c0 := B1.c0; have c1 := B1.c1; have c2 := B1.c2; have c3 := B1.c3)
        all_goals
          go_ret
          exact ⟨ret_bool (by first | exact HE.out.symm | (rw [HE.out]; simp; omega)), hB⟩
    · have HE := Lib.hid (show validC 1 M xs K = false by unfold validC; simp [hM])
      have q1 : (M == 0) = false := by simpa using hM
      clear hv hI hM
      cases v
      all_goals
        go_enter Tryz.func58, Tryz.ntmps58
        go_wp2_with (go_at_call 85; refine (ref_valid _ _ _ _ xs _ h1).mono ?_; rintro e w1 ⟨rfl, hb⟩; rw [HV.out]; replace hB := below_step hB hb; replace B1 := B1.step hb; have c0 := B1.c0; have c1 := B1.c1; have c2 := B1.c2; have c3 := B1.c3)
        all_goals
          go_ret
          exact ⟨ret_bool (by first | exact HE.out.symm | (rw [HE.out]; simp; omega)), hB⟩
  · rcases (show (1 ≤ M ∧ M ≤ 512) ∨ M < 1 ∨ (1 ≤ M ∧ 512 < M) by omega) with ⟨hM, hM'⟩ | hM | ⟨hM, hM'⟩
    · have HE := Lib.hid (show validC 2 M xs K = v by unfold validC; rw [hv]; simp [hM, hM'])
      clear hv hI
      cases v
      all_goals
        go_enter Tryz.func58, Tryz.ntmps58
        go_wp2_with (go_at_call 85; refine (ref_valid _ _ _ _ xs _ h1).mono ?_; rintro e w1 ⟨rfl, hb⟩; rw [HV.out]; replace hB := below_step hB hb; replace B1 := B1.step hb; have c0 := B1.c0; have c1 := B1.c1; have c2 := B1.c2; have c3 := B1.c3)
        all_goals
          go_ret
          exact ⟨ret_bool (by first | exact HE.out.symm | (rw [HE.out]; simp; omega)), hB⟩
    · have HE := Lib.hid (show validC 2 M xs K = false by unfold validC; simp; omega)
      clear hv hI
      cases v
      all_goals
        go_enter Tryz.func58, Tryz.ntmps58
        go_wp2_with (go_at_call 85; refine (ref_valid _ _ _ _ xs _ h1).mono ?_; rintro e w1 ⟨rfl, hb⟩; rw [HV.out]; replace hB := below_step hB hb; replace B1 := B1.step hb; have c0 := B1.c0; have c1 := B1.c1; have c2 := B1.c2; have c3 := B1.c3)
        all_goals
          go_ret
          exact ⟨ret_bool (by first | exact HE.out.symm | (rw [HE.out]; simp; omega)), hB⟩
    · have HE := Lib.hid (show validC 2 M xs K = false by unfold validC; simp; omega)
      clear hv hI
      cases v
      all_goals
        go_enter Tryz.func58, Tryz.ntmps58
        go_wp2_with (go_at_call 85; refine (ref_valid _ _ _ _ xs _ h1).mono ?_; rintro e w1 ⟨rfl, hb⟩; rw [HV.out]; replace hB := below_step hB hb; replace B1 := B1.step hb; have c0 := B1.c0; have c1 := B1.c1; have c2 := B1.c2; have c3 := B1.c3)
        all_goals
          go_ret
          exact ⟨ret_bool (by first | exact HE.out.symm | (rw [HE.out]; simp; omega)), hB⟩
  · have HE := Lib.hid (show validC q M xs K = false by unfold validC; simp [g0, g1, g2])
    have q0 : (q == 0) = false := by simpa using g0
    have q1 : (q == 1) = false := by simpa using g1
    have q2 : (q == 2) = false := by simpa using g2
    clear hv hI g0 g1 g2
    cases v
    all_goals
      go_enter Tryz.func58, Tryz.ntmps58
      go_wp2_with (go_at_call 85; refine (ref_valid _ _ _ _ xs _ h1).mono ?_; rintro e w1 ⟨rfl, hb⟩; rw [HV.out]; replace hB := below_step hB hb; replace B1 := B1.step hb; have c0 := B1.c0; have c1 := B1.c1; have c2 := B1.c2; have c3 := B1.c3)
      all_goals
        go_ret
        exact ⟨ret_bool (by first | exact HE.out.symm | (rw [HE.out]; simp; omega)), hB⟩
end Go.Proofs.YtkgnlloioaobiaaGreat
namespace Go.Proofs.YtkgnlloioaobiaaGreat
open Go.RowKit
def OwnRow (w : World) (g n : Nat) (xs : List Int) : Prop := xs.length = n ∧ ∃ cur : Array Value, w.heap[g]? = some (.cells cur 3 (0, 0)) ∧ n ≤ cur.size ∧ ∀ j, j < n → cur[j]? = some (.int .i64 (xs[j]?.getD 0))
section
variable {w w' : World} {g n : Nat} {xs : List Int}
theorem OwnRow.len (h : OwnRow w g n xs) : xs.length = n := h.1
theorem OwnRow.lt (h : OwnRow w g n xs) : g < w.heap.size := by obtain ⟨_, cur, hc, _⟩ := h; exact (Array.getElem?_eq_some_iff.1 hc).1
theorem OwnRow.cell (h : OwnRow w g n xs) {j : Nat} (hj : j < n) : w.cell? ⟨g, j, none⟩ = some (.int .i64 (xs[j]?.getD 0)) := by
  obtain ⟨_, cur, hc, _, hx⟩ := h
  rw [cell_of_row w g j _ _ (0, 0) hc]; exact hx j hj
theorem OwnRow.free (h : OwnRow w g n xs) (j : Nat) : w.frozen? ⟨g, j, none⟩ = false := by
  obtain ⟨_, cur, hc, _⟩ := h
  simp [World.frozen?, hc]
theorem OwnRow.below {B : Nat} (h : OwnRow w g n xs) (hb : Below B w w') (hg : g < B) : OwnRow w' g n xs := by
  obtain ⟨hl, cur, hc, hx⟩ := h
  exact ⟨hl, cur, (hb.block g hg).trans hc, hx⟩
theorem OwnRow.step (h : OwnRow w g n xs) (hb : Below w.heap.size w w') : OwnRow w' g n xs := h.below hb h.lt
theorem OwnRow.drewN (h : OwnRow w g n xs) (k : Nat) : OwnRow (w.drewN k) g n xs := h
theorem OwnRow.other (h : OwnRow w g n xs) {a : Addr} (ha : g ≠ a.block) (u : Value) : OwnRow (w.setCell a u) g n xs := by
  obtain ⟨hl, cur, hc, hx⟩ := h
  exact ⟨hl, cur, (Below.heap_setCell w a u g ha).trans hc, hx⟩
theorem OwnRow.set (h : OwnRow w g n xs) {j : Nat} (hj : j < n) (x : Int) : OwnRow (w.setCell ⟨g, j, none⟩ (.int .i64 x)) g n (xs.set j x) := by
  obtain ⟨hl, cur, hc, hs, hx⟩ := h
  refine ⟨by simp [hl], cur.setIfInBounds j (.int .i64 x), ?_, by simpa using hs, fun k hk => ?_⟩
  · simp only [World.setCell]
    rw [Array.getElem?_modify]
    simp [hc]
  · by_cases e : j = k
    · subst e
      have h1 : j < cur.size := by omega
      have h2 : j < xs.length := by omega
      simp [h1, h2]
    · rw [Array.getElem?_setIfInBounds_ne e, List.getElem?_set_ne e]
      exact hx k hk
theorem OwnRow.ints (h : OwnRow w g n xs) (hs : n ≤ 17592186044416) (hw : ∀ x ∈ xs, -9223372036854775808 ≤ x ∧ x ≤ 9223372036854775807) : IntsAt w (some ⟨g, 0, none⟩) n xs :=
  ⟨h.len, hs, hw, fun _ => ⟨g, 0, rfl, h.lt, fun j hj => by simpa using h.cell (j := j) hj⟩⟩
theorem OwnRow.new (w : World) (xs : List Int) (n : Nat) (hn : xs.length = n) : OwnRow (w.alloc (.cells (xs.map (Value.int .i64)).toArray 3)) w.heap.size n xs :=
  ⟨hn, _, heap_alloc_new w _, by simp [hn], fun j hj => by simp [hn, hj]⟩
theorem ownRow_of_owns {base : Nat} {v : Value} (h : w.ownsRow base 3 1 v n (xs.map (Value.int .i64))) (hn : 0 < n) : ∃ g cap, v = .slice (some ⟨g, 0, none⟩) n cap ∧ base ≤ g ∧ OwnRow w g n xs := by
  obtain ⟨hl, ⟨_, h0⟩ | ⟨g, cap, cur, rfl, hb, hh, hnc, hm, hcs, ht⟩⟩ := h
  · omega
  · have hlen : xs.length = n := by simpa using hl
    refine ⟨g, cap, rfl, hb, hlen, cur, hh, by omega, fun j hj => ?_⟩
    have h1 : (cur.toList.take (n * 1))[j]? = cur[j]? := by rw [List.getElem?_take, if_pos (by omega)]; simp
    rw [← h1, ht]
    simp [hlen, hj]
end
theorem run_eql_slice_nil (w : World) (A : Option Addr) (n c : Nat) :
    (binOp .eql 38 (.slice A n c) (.slice none 0 0)).run Tryz.prog w = .ok (.bool A.isNone) w := by
  have h : ∀ d : Nat, (Op.equalIn (d + 1) 38 (.slice A n c) (.slice none 0 0)).run Tryz.prog w = .ok A.isNone w := fun d => by
    cases A <;> simp [Op.equalIn, run_underlying Tryz.underlying38]
  simp only [binOp]
  simp [Op.equal, Op.maxDepth, h 9999]
theorem clone_in (b off n c : Nat) (xs : List Int) (w : World) (hn : 0 < n) (hsm : n ≤ 17592186044416) (hlen : xs.length = n) (hcells : ∀ j, j < n → w.cell? ⟨b, off + j, none⟩ = some (.int .i64 (xs[j]?.getD 0))) (hb : b < w.heap.size) :
    Calls Tryz.prog 148 #[.slice (some ⟨b, off, none⟩) n c] w fun e w' => ∃ g cap, e = .returned (.slice (some ⟨g, 0, none⟩) n cap) ∧ w.heap.size ≤ g ∧ OwnRow w' g n xs ∧ Below w.heap.size w w' := by
  obtain ⟨i0, hi, hz0, hz1, hz2⟩ := info_parts infoInt
  have hown := World.ownsRow_lit (base := w.heap.size) (e := 3) (size := 1) w #[] 0 (Nat.le_refl _) (by decide) (by simp)
  have heq := fun w => run_eql_slice_nil w (some ⟨b, off, none⟩) n c
  have HC := Lib.hid hcells
  have HL := Lib.hid hlen
  clear hcells hlen
  go_enter Tryz.func148, Tryz.ntmps148
  go_wp2_with (at_builtin; refine wpList_append_own _ rfl _ _ 38 rfl w.heap.size 3 i0 (.int .i64 0) 1 8 Tryz.underlying38 hi hz0 hz1 hz2 rfl (by decide) _ _ _ rfl hown ⟨b, off, none⟩ n c (xs.map (Value.int .i64)) rfl ?c0 ?c1 ?c2 ?c3 ?c4 ?c5 ?_)
  case c0 => first | exact HL.out | (simp; exact HL.out)
  case c1 =>
    intro j a h
    obtain ⟨hj, e⟩ := List.getElem?_eq_some_iff.1 h
    rw [HC.out j (by rw [← HL.out]; exact hj)]
    simp [h]
  case c2 => intro a _; rfl
  case c3 => unfold maxLen; omega
  case c4 => omega
  intro v' w1 hown' hgrow _
  have hx : w1.ownsRow w.heap.size 3 1 v' n (xs.map (Value.int .i64)) := by simpa using hown'
  obtain ⟨g, cap, rfl, hg, hr⟩ := ownRow_of_owns hx hn
  have hB : Below w.heap.size w w1 := (below_alloc w _).grown hgrow (by simp) (fun k e => by cases e; exact Nat.le_refl _)
  clear hown' hgrow hx
  go_wp2
  go_ret
  exact ⟨g, cap, rfl, hg, hr, hB⟩
end Go.Proofs.YtkgnlloioaobiaaGreat
namespace Go.Proofs.YtkgnlloioaobiaaGreat
open Go.RowKit Go.Shelf
attribute [local go_sem] Oper.semAt_some
def RetO (w : World) (e : Ending) (w' : World) (ys : List Int) (K err : Int) : Prop :=
  ∃ A n c, e = .returned (.tuple #[.agg #[.slice A n c, .int .i64 K], .int .i64 err]) ∧ IntsAt w' A n ys ∧ Below w.heap.size w w' ∧ (n = 0 ∨ ∃ g, A = some ⟨g, 0, none⟩ ∧ w.heap.size ≤ g ∧ OwnRow w' g n ys)
theorem OwnRow.store2 {w : World} {g n b : Nat} {xs : List Int} (h : OwnRow w g n xs) (hne : b ≠ g) (u v : Value) : OwnRow ((w.setCell ⟨b, 0, none⟩ u).setCell ⟨b, 1, none⟩ v) g n xs :=
  (h.other (a := ⟨b, 0, none⟩) (fun e => hne e.symm) u).other (a := ⟨b, 1, none⟩) (fun e => hne e.symm) v
def IBox (w : World) (b : Nat) (i : Int) : Prop := w.heap[b]? = some (.cells #[.int .i64 i] 3 (0, 0))
section
variable {w w' : World} {b : Nat} {i : Int}
theorem IBox.new (w : World) (i : Int) : IBox (w.alloc (.cells #[.int .i64 i] 3)) w.heap.size i := heap_alloc_new w _
theorem IBox.lt (h : IBox w b i) : b < w.heap.size := (Array.getElem?_eq_some_iff.1 h).1
theorem IBox.below {B : Nat} (h : IBox w b i) (hb : Below B w w') (hB : b < B) : IBox w' b i := (hb.block b hB).trans h
theorem IBox.step (h : IBox w b i) (hb : Below w.heap.size w w') : IBox w' b i := h.below hb h.lt
theorem IBox.alloc (h : IBox w b i) (o : Obj) : IBox (w.alloc o) b i := h.step (below_alloc w o)
theorem IBox.other (h : IBox w b i) {a : Addr} (ha : b ≠ a.block) (u : Value) : IBox (w.setCell a u) b i := (Below.heap_setCell w a u b ha).trans h
theorem LBox.other {A : Option Addr} {n c : Nat} {K : Int} (h : LBox w b A n c K) {a : Addr} (ha : b ≠ a.block) (u : Value) : LBox (w.setCell a u) b A n c K := (Below.heap_setCell w a u b ha).trans h
theorem IBox.c (h : IBox w b i) : w.cell? ⟨b, 0, none⟩ = some (.int .i64 i) := by rw [cell_of_row w b 0 _ _ (0, 0) h]; rfl
end
theorem block_kept {W W' : World} {row : Option Nat} {b : Nat} {cs : Array Value} {t : TypeId} {fr : Nat × Nat} (h : W.heap[b]? = some (.cells cs t fr)) (hg : W.grownBy W' row) (hr : ∀ r, row = some r → ∃ o : Obj, W.heap[r]? = some o ∧ o.isCells = false) : W'.heap[b]? = some (.cells cs t fr) := by
  refine (hg.block b (Array.getElem?_eq_some_iff.1 h).1 fun e => ?_).trans h
  obtain ⟨o, ho, hc⟩ := hr b e.symm
  rw [h] at ho
  cases ho
  cases hc
theorem OwnRow.kept {W W' : World} {row : Option Nat} {g n : Nat} {xs : List Int} (h : OwnRow W g n xs) (hg : W.grownBy W' row) (hr : ∀ r, row = some r → ∃ o : Obj, W.heap[r]? = some o ∧ o.isCells = false) : OwnRow W' g n xs := by
  obtain ⟨hl, cur, hc, hx⟩ := h
  exact ⟨hl, cur, block_kept hc hg hr, hx⟩
section
variable {n : Nat} {xs : List Int} {K : Int} {i : Nat} {ys : List Int} {L : Int}
theorem valid_at (h : validB xs K = true) (j : Nat) : -1048576 ≤ xs[j]?.getD 0 ∧ xs[j]?.getD 0 ≤ 1048576 := by
  by_cases hj : j < xs.length
  · exact fitsB_true.1 ((validB_true.1 h).2.2 _ (getD_mem hj))
  · have : xs[j]?.getD 0 = 0 := by simp [hj]
    omega
theorem tab_get {n : Nat} (f : Nat → Int) {j : Nat} (hj : j < n) : ((List.range n).map f)[j]?.getD 0 = f j := by simp [hj]
theorem tab_set {n : Nat} (f : Nat → Int) {k : Nat} (v : Int) : ((List.range n).map f).set k v = (List.range n).map fun j => if j = k then v else f j := by
  apply List.ext_getElem (by simp)
  intro j h1 h2
  simp only [List.getElem_set, List.getElem_map, List.getElem_range]
  by_cases e : k = j
  · rw [if_pos e, if_pos e.symm]
  · rw [if_neg e, if_neg (fun e' => e e'.symm)]
end
end Go.Proofs.YtkgnlloioaobiaaGreat
namespace Go.Proofs.YtkgnlloioaobiaaGreat
open Go.RowKit
theorem zeros_wf (m : Nat) : ∀ x ∈ zeros m, -9223372036854775808 ≤ x ∧ x ≤ 9223372036854775807 := fun x hx => by
  have := (List.mem_replicate.1 hx).2
  omega
end Go.Proofs.YtkgnlloioaobiaaGreat
namespace Go.Proofs.YtkgnlloioaobiaaGreat
open Go.RowKit
def Tame (xs : List Int) : Prop := ∀ j : Nat, -1048576 ≤ xs[j]?.getD 0 ∧ xs[j]?.getD 0 ≤ 1048576
end Go.Proofs.YtkgnlloioaobiaaGreat
namespace Go.Proofs.YtkgnlloioaobiaaGreat
open Go.RowKit
def holdB (q M v : Int) : Bool := if q = 0 then decide (0 ≤ v) else if q = 1 then decide (v = 0) else decide (v % M = 0)
theorem validC_kind {q M : Int} {xs : List Int} {K : Int} (h : validC q M xs K = true) : validB xs K = true ∧ ((q = 0 ∧ M = 0) ∨ (q = 1 ∧ M = 0) ∨ (q = 2 ∧ 1 ≤ M ∧ M ≤ 512)) := by
  unfold validC at h
  rw [Bool.and_eq_true] at h
  refine ⟨h.1, ?_⟩
  have h2 := h.2
  split at h2
  · rename_i e; simp at h2; exact .inr (.inr ⟨e, h2.1, h2.2⟩)
  · simp at h2
    rcases h2 with ⟨h2 | h2, h3⟩
    · exact .inl ⟨h2, h3⟩
    · exact .inr (.inl ⟨h2, h3⟩)
end Go.Proofs.YtkgnlloioaobiaaGreat
namespace Go.Proofs.YtkgnlloioaobiaaGreat
def gcdStep (a : Nat) (n : Int) : Nat := Nat.gcd a n.natAbs
theorem gcd_fold (ys : List Int) : ∀ a : Nat, ys.foldl gcdStep a ∣ a ∧ (∀ y ∈ ys, ys.foldl gcdStep a ∣ y.natAbs) ∧ ∀ d, d ∣ a → (∀ y ∈ ys, d ∣ y.natAbs) → d ∣ ys.foldl gcdStep a := by
  induction ys with
  | nil => intro a; simp
  | cons y r ih =>
    intro a
    rw [List.foldl_cons]
    obtain ⟨h1, h2, h3⟩ := ih (gcdStep a y)
    refine ⟨Nat.dvd_trans h1 (Nat.gcd_dvd_left _ _), fun z hz => ?_, fun d hd hz => h3 d (Nat.dvd_gcd hd (hz y List.mem_cons_self)) fun z h' => hz z (List.mem_cons_of_mem _ h')⟩
    rcases List.mem_cons.1 hz with rfl | hz
    · exact Nat.dvd_trans h1 (Nat.gcd_dvd_right _ _)
    · exact h2 z hz
theorem gcd_fold_le (ys : List Int) (hy : ∀ y ∈ ys, -9223372036854775808 ≤ y ∧ y ≤ 9223372036854775807) : ∀ a : Nat, a ≤ 9223372036854775808 → ys.foldl gcdStep a ≤ 9223372036854775808 := by
  induction ys with
  | nil => intro a h; simpa using h
  | cons y r ih =>
    intro a h
    rw [List.foldl_cons]
    refine ih (fun z hz => hy z (List.mem_cons_of_mem _ hz)) _ ?_
    unfold gcdStep
    have := hy y List.mem_cons_self
    by_cases h0 : a = 0
    · subst h0; rw [Nat.gcd_zero_left]; omega
    · exact Nat.le_trans (Nat.gcd_le_left _ (by omega)) h
end Go.Proofs.YtkgnlloioaobiaaGreat
namespace Go.Proofs.YtkgnlloioaobiaaGreat
open Go.RowKit
theorem wide_floor (a b : Int) (wa : -9223372036854775808 ≤ a) (wa' : a ≤ 9223372036854775807) (wb : b ≤ 9223372036854775807) (hb : 1 ≤ b) (w : World) : Calls Tryz.prog 161 #[.int .i64 a, .int .i64 b] w fun e w' => e = .returned (.int .i64 (a / b)) ∧ w = w' := by
  have hc := tmod_cases a b hb
  have hd := div_bd a b hb
  have m0 := Int.emod_nonneg a (show b ≠ 0 by omega)
  have m1 := Int.emod_lt_of_pos a (show 0 < b by omega)
  rcases hc with ⟨h1, h2, h3⟩ | ⟨h1, h2, h3, h4⟩
  · have HC := Lib.hid (And.intro h1 h2)
    clear h1 h2
    have g1 : 0 ≤ a.tmod b := by have := HC.out; omega
    clear m0 m1 hd
    go_enter Tryz.func161, Tryz.ntmps161
    go_wp2
    go_ret
    exact ⟨ret1 (vint HC.out.2), rfl⟩
  · have HC := Lib.hid (And.intro h1 (And.intro h2 (And.intro h3 (And.intro hd h4))))
    have g1 : a.tmod b < 0 := by omega
    clear h1 h2 h4 hd m0 m1
    go_enter Tryz.func161, Tryz.ntmps161
    go_wp2
    go_ret
    exact ⟨ret1 (vint (by have := HC.out; unfold wrap64; omega)), rfl⟩
theorem wide_mod (a b : Int) (wa : -9223372036854775808 ≤ a) (wa' : a ≤ 9223372036854775807) (wb : b ≤ 9223372036854775807) (hb : 1 ≤ b) (w : World) : Calls Tryz.prog 162 #[.int .i64 a, .int .i64 b] w fun e w' => e = .returned (.int .i64 (a % b)) ∧ w = w' := by
  have hc := tmod_cases a b hb
  have m0 := Int.emod_nonneg a (show b ≠ 0 by omega)
  have m1 := Int.emod_lt_of_pos a (show 0 < b by omega)
  have HC := Lib.hid (And.intro hc (And.intro m0 m1))
  clear hc m0 m1
  by_cases g1 : a.tmod b < 0
  · go_enter Tryz.func162, Tryz.ntmps162
    go_wp2
    go_ret
    exact ⟨ret1 (vint (by have := HC.out; unfold wrap64; omega)), rfl⟩
  · go_enter Tryz.func162, Tryz.ntmps162
    go_wp2
    go_ret
    exact ⟨ret1 (vint (by have := HC.out; omega)), rfl⟩
def gcdA (g : Nat) (xs : List Int) : Nat := xs.foldl (fun a x => Nat.gcd a x.natAbs) g
theorem gcdA_step {g : Nat} {xs : List Int} {i : Nat} (hi : i < xs.length) : gcdA g (xs.take (i + 1)) = Nat.gcd (gcdA g (xs.take i)) (xs[i]?.getD 0).natAbs := by
  unfold gcdA; exact foldl_take _ _ _ hi
theorem natAbs_tmod (a b : Int) : (a.tmod b).natAbs = a.natAbs % b.natAbs := by
  rw [Int.natAbs_tmod]
set_option maxHeartbeats 2000000 in
theorem wide_divisor (g : Int) (hg : -4611686018427387904 ≤ g ∧ g ≤ 4611686018427387904) (A : Option Addr) (n c : Nat) (xs : List Int) (hx : ∀ x ∈ xs, -4611686018427387904 ≤ x ∧ x ≤ 4611686018427387904) (w : World) (h : IntsAt w A n xs) :
    Calls Tryz.prog 128 #[.int .i64 g, .slice A n c] w fun e w' => e = .returned (.int .i64 (gcdA g.natAbs xs : Nat)) ∧ ∃ k, w' = w.drewN k := by
  have hsm := h.small
  have HL := Lib.hid h.len
  have HX := Lib.hid hx
  clear hx
  go_enter Tryz.func128, Tryz.ntmps128
  go_wp2
  go_loopw [0, 9] (fun u v wr => ∃ (i k : Nat) (a : Int), i ≤ n ∧ v = .int .i64 i ∧ u = .int .i64 a ∧ (-4611686018427387904 ≤ a ∧ a ≤ 4611686018427387904) ∧ a.natAbs = gcdA g.natAbs (xs.take i) ∧ wr = w.drewN k) (fun _ v _ => n - (intOf v).toNat)
  case atStart => exact ⟨0, 0, g, Nat.zero_le _, rfl, rfl, hg, by simp [gcdA], rfl⟩
  case round =>
    obtain ⟨i, k, a, hi, rfl, rfl, ha, hga, rfl⟩ := hrel
    have HG := Lib.hid hga
    clear hga
    by_cases hlt : i < n
    · have hmem := h.mem hlt
      have hr := HX.out _ hmem
      obtain ⟨b, off, rfl, hb, hc⟩ := h.cells (by omega)
      have hcell := hc i hlt
      have HS := Lib.hid (gcdA_step (g := g.natAbs) (xs := xs) (i := i) (by rw [HL.out]; exact hlt))
      clear hc hmem
      obtain ⟨x, hxx⟩ : ∃ x, xs[i]?.getD 0 = x := ⟨_, rfl⟩
      rw [hxx] at hcell hr HS
      clear hxx
      have hlt' : (i : Int) < n := by omega
      go_wp2
      go_loopw [0, 6] (fun u v wr => ∃ (a' x' : Int) (k' : Nat), u = .int .i64 a' ∧ v = .int .i64 x' ∧ (-4611686018427387904 ≤ a' ∧ a' ≤ 4611686018427387904) ∧ (-4611686018427387904 ≤ x' ∧ x' ≤ 4611686018427387904) ∧ Nat.gcd a'.natAbs x'.natAbs = Nat.gcd a.natAbs x.natAbs ∧ wr = w.drewN k') (fun _ v _ => (intOf v).natAbs)
      case atStart => exact ⟨a, x, k, rfl, rfl, ha, hr, rfl, rfl⟩
      case round =>
        obtain ⟨a', x', k', rfl, rfl, ha', hx', hgg, rfl⟩ := hrel
        have HH := Lib.hid hgg
        clear hgg
        by_cases h0 : x' = 0
        · subst h0
          go_wp2
          go_roundw
          case rel => exact ⟨i + 1, _, a', by omega, by go_num, rfl, ha', by have := HH.out; rw [HS.out, ← HG.out, ← this]; simp, by first | rfl | (simp only [World.drewN_drewN]; rfl)⟩
          case measure => simp [intOf]; omega
        · have q1 : (x' != 0) = true := by simpa using h0
          have q2 : (x' == 0) = false := by simpa using h0
          have hlt2 : (a'.tmod x').natAbs < x'.natAbs := by rw [natAbs_tmod]; exact Nat.mod_lt _ (by omega)
          have hg2 : Nat.gcd x'.natAbs (a'.tmod x').natAbs = Nat.gcd a'.natAbs x'.natAbs := by
            rw [natAbs_tmod, Nat.gcd_comm a'.natAbs x'.natAbs, Nat.gcd_rec x'.natAbs a'.natAbs]
            exact Nat.gcd_comm _ _
          have HH2 := Lib.hid (hg2.trans HH.out)
          have hw : IntKind.i64.wrap (a'.tmod x') = a'.tmod x' := IntWalk.i64_in _ (by omega)
          have HL2 := Lib.hid hlt2
          clear hg2
          go_wp2
          go_quiet (fail)
          go_wp2
          go_roundw
          case rel => exact ⟨x', a'.tmod x', _, rfl, by first | rfl | simp [hw], hx', by have := HL2.out; omega, HH2.out, by first | rfl | (simp only [World.drewN_drewN]; rfl)⟩
          case measure => first | (simp only [intOf]; exact HL2.out) | (simp [intOf, hw]; exact HL2.out)
    · obtain rfl : i = n := by omega
      have hge : ¬ ((i : Int) < i) := by omega
      have HT := Lib.hid (show a.natAbs = gcdA g.natAbs xs by rw [HG.out, List.take_of_length_le (by rw [HL.out]; exact Nat.le_refl _)])
      go_wp2
      all_goals
        go_ret
        exact ⟨ret1 (vint (by have := HT.out; omega)), _, rfl⟩
theorem wide_verdict (b : Bool) (w : World) : Calls Tryz.prog 159 #[.bool b] w fun e w' => e = .returned (.tuple #[condV 0 0 none 0 0 0, .int .i64 (if b then 1 else -1)]) ∧ Below w.heap.size w w' := by
  have hB := below_alloc w (.cells #[.int .i64 0, .int .i64 0, .slice none 0 0, .int .i64 0] 56)
  have B1 := CBox.new w 0 0 none 0 0 0
  cases b
  all_goals
    go_enter Tryz.func159, Tryz.ntmps159
    go_wp2
    first
      | exact bodyPost_ret (v := .tuple #[condV 0 0 none 0 0 0, .int .i64 (-1)]) (by simp [results, Tryz.results159, go_sem]) rfl ⟨rfl, hB⟩
      | exact bodyPost_ret (v := .tuple #[condV 0 0 none 0 0 0, .int .i64 1]) (by simp [results, Tryz.results159, go_sem]) rfl ⟨rfl, hB⟩
def quoTo (n : Nat) (xs : List Int) (b : Int) (i : Nat) : List Int := (List.range n).map fun j => if j < i then (xs[j]?.getD 0).tdiv b else 0
def quoL (n : Nat) (xs : List Int) (b : Int) : List Int := (List.range n).map fun j => (xs[j]?.getD 0).tdiv b
theorem quo_zero (n : Nat) (xs : List Int) (b : Int) : quoTo n xs b 0 = zeros n := by
  apply List.ext_getElem (by simp [quoTo, zeros])
  intro j h1 h2
  simp [quoTo, zeros]
theorem quo_step (n : Nat) (xs : List Int) (b : Int) (i : Nat) : (quoTo n xs b i).set i ((xs[i]?.getD 0).tdiv b) = quoTo n xs b (i + 1) := by
  unfold quoTo
  rw [tab_set]
  apply List.map_congr_left
  intro j _
  by_cases e : j = i
  · subst e; simp
  · have : (j < i + 1) ↔ (j < i) := by omega
    simp [e, this]
theorem quo_all (n : Nat) (xs : List Int) (b : Int) : quoTo n xs b n = quoL n xs b := by
  apply List.map_congr_left
  intro j hj
  rw [if_pos (List.mem_range.1 hj)]
theorem tdiv_bd (x b : Int) (hb : b ≠ 0) : (x.tdiv b).natAbs ≤ x.natAbs := by
  rw [Int.natAbs_tdiv]; exact Nat.div_le_self _ _
theorem quo_wf {n : Nat} {xs : List Int} {b : Int} (hb : b ≠ 0) (hx : ∀ x ∈ xs, -4611686018427387904 ≤ x ∧ x ≤ 4611686018427387904) : ∀ z ∈ quoL n xs b, -4611686018427387904 ≤ z ∧ z ≤ 4611686018427387904 := by
  intro z hz
  obtain ⟨j, _, rfl⟩ := List.mem_map.1 hz
  have h := tdiv_bd (xs[j]?.getD 0) b hb
  by_cases hj : j < xs.length
  · have := hx _ (getD_mem hj)
    omega
  · have e : xs[j]?.getD 0 = 0 := by simp [hj]
    rw [e] at h ⊢
    simp
set_option maxHeartbeats 2000000 in
theorem wide_quotients (A : Option Addr) (n c : Nat) (xs : List Int) (b : Int) (hb : b ≠ 0) (hbw : -4611686018427387904 ≤ b ∧ b ≤ 4611686018427387904) (hx : ∀ x ∈ xs, -4611686018427387904 ≤ x ∧ x ≤ 4611686018427387904) (w : World) (hI : IntsAt w A n xs) :
    Calls Tryz.prog 160 #[.slice A n c, .int .i64 b] w fun e w' => ∃ g, e = .returned (.slice (some ⟨g, 0, none⟩) n n) ∧ w.heap.size ≤ g ∧ OwnRow w' g n (quoL n xs b) ∧ Below w.heap.size w w' := by
  have hsm := hI.small
  have hmk := make_ints n hsm
  have hrow0 := OwnRow.new w (zeros n) n (zeros_len n)
  have hB0 := below_alloc w (.cells ((zeros n).map (Value.int .i64)).toArray 3)
  have HX := Lib.hid hx
  have q0 : (b == 0) = false := by simpa using hb
  clear hx
  go_enter Tryz.func160, Tryz.ntmps160
  go_wp2
  go_loopw [13] (fun v wr => ∃ i : Nat, i ≤ n ∧ v = .int .i64 i ∧ OwnRow wr w.heap.size n (quoTo n xs b i) ∧ Below w.heap.size w wr) (fun v _ => n - (intOf v).toNat)
  case atStart => exact ⟨0, Nat.zero_le _, rfl, by rw [quo_zero]; exact hrow0, hB0⟩
  case round =>
    obtain ⟨i, hi, rfl, hrow, hBw⟩ := hrel
    clear hrow0 hB0 hmk
    by_cases hlt : i < n
    · have hr := HX.out _ (hI.mem hlt)
      obtain ⟨bl, off, rfl, hbl, hc⟩ := hI.cells (by omega)
      have hcell := (hBw.cell (p := ⟨bl, off + i, none⟩) hbl).trans (hc i hlt)
      have hfr := hrow.free i
      have hcr := hrow.cell hlt
      have q1 : (i : Int) < n := by omega
      have R := (hrow.set hlt ((xs[i]?.getD 0).tdiv b))
      rw [quo_step] at R
      have hW := hBw.setCell (p := ⟨w.heap.size, i, none⟩) (Nat.le_refl _) (.int .i64 ((xs[i]?.getD 0).tdiv b))
      generalize xs[i]?.getD 0 = x at *
      have hq := tdiv_bd x b hb
      have hw : IntKind.i64.wrap (x.tdiv b) = x.tdiv b := IntWalk.i64_in _ (by omega)
      have HR := Lib.hid R
      clear hc R hq
      go_wp2
      go_roundw
      case rel => exact ⟨i + 1, by omega, by go_num, HR.out, hW⟩
      case measure => simp [intOf]; omega
    · obtain rfl : i = n := by omega
      rw [quo_all] at hrow
      have hge : ¬ ((i : Int) < i) := by omega
      go_wp2
      go_ret
      exact ⟨_, rfl, Nat.le_refl _, hrow, hBw⟩
def leadI : List Int → Int
  | [] => 0
  | x :: xs => if x = 0 then leadI xs else x
theorem lead_skip : ∀ (i : Nat) (xs : List Int), i ≤ xs.length → (∀ j, j < i → xs[j]?.getD 0 = 0) → leadI xs = leadI (xs.drop i)
  | 0, _, _, _ => rfl
  | i + 1, [], h, _ => by simp at h
  | i + 1, x :: xs, h, hz => by
    have h0 : x = 0 := by simpa using hz 0 (by omega)
    have := lead_skip i xs (by simpa using h) (fun j hj => by simpa using hz (j + 1) (by omega))
    simp only [leadI, if_pos h0, List.drop_succ_cons]
    exact this
theorem lead_at {i : Nat} {xs : List Int} (hi : i < xs.length) (hz : ∀ j, j < i → xs[j]?.getD 0 = 0) (hx : xs[i]?.getD 0 ≠ 0) : leadI xs = xs[i]?.getD 0 := by
  rw [lead_skip i xs (by omega) hz, List.drop_eq_getElem_cons hi]
  have e : xs[i]?.getD 0 = xs[i] := by simp [hi]
  rw [e] at hx ⊢
  simp only [leadI, if_neg hx]
theorem wide_lead (A : Option Addr) (n c : Nat) (xs : List Int) (w : World) (hI : IntsAt w A n xs) :
    Calls Tryz.prog 146 #[.slice A n c] w fun e w' => e = .returned (.int .i64 (leadI xs)) ∧ w = w' := by
  have hsm := hI.small
  have HL := Lib.hid hI.len
  go_enter Tryz.func146, Tryz.ntmps146
  go_wp2
  go_loop [7] (fun v => ∃ i : Nat, i ≤ n ∧ v = .int .i64 i ∧ ∀ j, j < i → xs[j]?.getD 0 = 0) (fun v => n - (intOf v).toNat)
  case atStart => exact ⟨0, Nat.zero_le _, rfl, fun j hj => absurd hj (by omega)⟩
  case round =>
    obtain ⟨i, hi, rfl, hz⟩ := hrel
    have HZ := Lib.hid hz
    clear hz
    by_cases hlt : i < n
    · obtain ⟨bl, off, rfl, hbl, hc⟩ := hI.cells (by omega)
      have hcell := hc i hlt
      have q1 : (i : Int) < n := by omega
      clear hc
      by_cases hx : xs[i]?.getD 0 = 0
      · have HXX := Lib.hid hx
        rw [hx] at hcell
        clear hx
        go_wp2
        go_round
        case rel => exact ⟨i + 1, by omega, by go_num, fun j hj => by
          rcases Nat.lt_or_eq_of_le (Nat.le_of_lt_succ hj) with h1 | h1
          · exact HZ.out j h1
          · exact h1 ▸ HXX.out⟩
        case measure => simp [intOf]; omega
      · have HV := Lib.hid (lead_at (by rw [HL.out]; exact hlt) HZ.out hx)
        generalize xs[i]?.getD 0 = x at *
        have q2 : (x != 0) = true := by simpa using hx
        have q3 : (x == 0) = false := by simpa using hx
        clear hx
        go_wp2
        go_ret
        exact ⟨ret1 (vint HV.out.symm), rfl⟩
    · obtain rfl : i = n := by omega
      have HV := Lib.hid (show leadI xs = 0 by rw [lead_skip i xs (by rw [HL.out]; exact Nat.le_refl _) HZ.out, List.drop_of_length_le (by rw [HL.out]; exact Nat.le_refl _)]; rfl)
      have hge : ¬ ((i : Int) < i) := by omega
      go_wp2
      go_ret
      exact ⟨ret1 (vint HV.out.symm), rfl⟩
end Go.Proofs.YtkgnlloioaobiaaGreat
namespace Go.Proofs.YtkgnlloioaobiaaGreat
open Go.RowKit
def CondRet (w : World) (e : Ending) (w' : World) (q M : Int) (X : List Int) (K s : Int) : Prop :=
  ∃ A n c, e = .returned (.tuple #[condV q M A n c K, .int .i64 s]) ∧ IntsAt w' A n X ∧ Below w.heap.size w w' ∧ (n = 0 ∨ ∃ g, A = some ⟨g, 0, none⟩ ∧ w.heap.size ≤ g ∧ OwnRow w' g n X)
theorem OwnRow.store4 {w : World} {g n b : Nat} {xs : List Int} (h : OwnRow w g n xs) (hne : b ≠ g) (u v x y : Value) : OwnRow ((((w.setCell ⟨b, 0, none⟩ u).setCell ⟨b, 1, none⟩ v).setCell ⟨b, 2, none⟩ x).setCell ⟨b, 3, none⟩ y) g n xs :=
  (((h.other (a := ⟨b, 0, none⟩) (fun e => hne e.symm) u).other (a := ⟨b, 1, none⟩) (fun e => hne e.symm) v).other (a := ⟨b, 2, none⟩) (fun e => hne e.symm) x).other (a := ⟨b, 3, none⟩) (fun e => hne e.symm) y
abbrev shapeV (q M : Int) (A : Option Addr) (n c : Nat) (K g : Int) : Value := .agg #[.int .i64 q, .int .i64 M, .slice A n c, .int .i64 K, .int .i64 g]
def SBox (w : World) (b : Nat) (q M : Int) (A : Option Addr) (n c : Nat) (K g : Int) : Prop := w.heap[b]? = some (.cells #[.int .i64 q, .int .i64 M, .slice A n c, .int .i64 K, .int .i64 g] 143 (0, 0))
section
variable {w w' : World} {b : Nat} {q M : Int} {A : Option Addr} {n c : Nat} {K g : Int}
theorem SBox.new (w : World) (q M : Int) (A : Option Addr) (n c : Nat) (K g : Int) : SBox (w.alloc (.cells #[.int .i64 q, .int .i64 M, .slice A n c, .int .i64 K, .int .i64 g] 143)) w.heap.size q M A n c K g := heap_alloc_new w _
theorem SBox.lt (h : SBox w b q M A n c K g) : b < w.heap.size := (Array.getElem?_eq_some_iff.1 h).1
theorem SBox.step (h : SBox w b q M A n c K g) (hb : Below w.heap.size w w') : SBox w' b q M A n c K g := (hb.block b h.lt).trans h
theorem SBox.c1 (h : SBox w b q M A n c K g) : w.cell? ⟨b, 1, none⟩ = some (.int .i64 M) := by rw [cell_of_row w b 1 _ _ (0, 0) h]; rfl
theorem SBox.c2 (h : SBox w b q M A n c K g) : w.cell? ⟨b, 2, none⟩ = some (.slice A n c) := by rw [cell_of_row w b 2 _ _ (0, 0) h]; rfl
theorem SBox.c3 (h : SBox w b q M A n c K g) : w.cell? ⟨b, 3, none⟩ = some (.int .i64 K) := by rw [cell_of_row w b 3 _ _ (0, 0) h]; rfl
theorem SBox.c4 (h : SBox w b q M A n c K g) : w.cell? ⟨b, 4, none⟩ = some (.int .i64 g) := by rw [cell_of_row w b 4 _ _ (0, 0) h]; rfl
end
set_option maxHeartbeats 4000000 in
theorem at_least (q M : Int) (A : Option Addr) (n c : Nat) (K : Int) (xs : List Int) (g : Nat) (hg : g ≤ 4611686018427387904) (hK : -4611686018427387904 ≤ K ∧ K ≤ 4611686018427387904) (hx : ∀ x ∈ xs, -4611686018427387904 ≤ x ∧ x ≤ 4611686018427387904) (w : World) (hI : IntsAt w A n xs) :
    Calls Tryz.prog 149 #[shapeV q M A n c K g] w fun e w' => CondRet w e w' 0 0 (if g = 0 then [] else quoL n xs g) (if g = 0 then 0 else K / g) (if g = 0 then (if 0 ≤ K then 1 else -1) else 0) := by
  have hB := below_step (below_alloc w (.cells #[.int .i64 q, .int .i64 M, .slice A n c, .int .i64 K, .int .i64 g] 143)) (below_alloc _ (.cells #[.int .i64 0, .int .i64 0, .slice none 0 0, .int .i64 0] 56))
  have h1 := hI.step hB
  have B1 := (SBox.new w q M A n c K g).step (below_alloc _ (.cells #[.int .i64 0, .int .i64 0, .slice none 0 0, .int .i64 0] 56))
  have B2 := CBox.new (w.alloc (.cells #[.int .i64 q, .int .i64 M, .slice A n c, .int .i64 K, .int .i64 g] 143)) 0 0 none 0 0 0
  rw [World.size_alloc] at B2
  by_cases h0 : g = 0
  · subst h0
    simp only [if_true]
    obtain ⟨s, hs⟩ : ∃ s : Int, (if 0 ≤ K then (1 : Int) else -1) = s := ⟨_, rfl⟩
    have HS := Lib.hid (show (if decide (0 ≤ K) = true then (1 : Int) else -1) = s by rw [← hs]; simp)
    rw [hs]
    clear hs
    go_enter Tryz.func149, Tryz.ntmps149
    go_wp2_with (go_at_call 159; refine (wide_verdict _ _).mono ?_; rintro e w1 ⟨rfl, hb⟩; rw [HS.out]; replace hB := below_step hB hb; replace B2 := B2.step hb; have c0 := B2.c0; have c1 := B2.c1; have c2 := B2.c2; have c3 := B2.c3; have f0 := B2.f 0; have f1 := B2.f 1; have f2 := B2.f 2; have f3 := B2.f 3; obtain ⟨e0, e1, e2, e3⟩ := B2.four 0 0 none 0 0 0)
    refine bodyPost_ret (v := .tuple #[condV 0 0 none 0 0 0, .int .i64 s]) (by simp [results, Tryz.results149, go_sem, e0, e1, e2, e3]) rfl ?_
    exact ⟨none, 0, 0, rfl, ints_nil _ _, below_store4 hB (by omega) _ _ _ _, .inl rfl⟩
  · simp only [if_neg h0]
    have q0 : ((g : Int) == 0) = false := by simpa using h0
    have hg1 : (1 : Int) ≤ g := by omega
    have hg0 : (g : Int) ≠ 0 := by omega
    have c12 := B1.c2
    have c13 := B1.c3
    have c14 := B1.c4
    have hsm := hI.small
    obtain ⟨w1, hw1⟩ : ∃ w1, w1 = ((w.alloc (.cells #[.int .i64 q, .int .i64 M, .slice A n c, .int .i64 K, .int .i64 g] 143)).alloc (.cells #[.int .i64 0, .int .i64 0, .slice none 0 0, .int .i64 0] 56)) := ⟨_, rfl⟩
    rw [← hw1] at hB h1 B1 B2 c12 c13 c14
    have HQ := Lib.hid (wide_quotients A n c xs g hg0 (by omega) hx w1.drew (h1.step (Below.refl _ w1).drew))
    have HW := Lib.hid (quo_wf (n := n) hg0 hx)
    have l1 := B1.lt
    have l2 := B2.lt
    generalize hX : quoL n xs g = X at *
    obtain ⟨k, hk⟩ : ∃ k, K / (g : Int) = k := ⟨_, rfl⟩
    have HK := Lib.hid hk
    rw [hk]
    clear hI hX hk hx h0
    go_enter Tryz.func149, Tryz.ntmps149
    go_wp2
    rw [← hw1]
    clear hw1
    have n1 : w.heap.size ≠ w.heap.size + 1 := by omega
    go_region_held3 (fun W => W.cell? ⟨w.heap.size, 2, none⟩ = some (.slice A n c) ∧ W.cell? ⟨w.heap.size, 3, none⟩ = some (.int .i64 K) ∧ W.cell? ⟨w.heap.size, 4, none⟩ = some (.int .i64 g)) (go_keep)
      (first
        | (go_at_call 160; refine HQ.out.mono ?_; rintro e w2 ⟨g5, rfl, hg5, O5, hb2⟩; have hb2' := (Below.refl w1.heap.size w1).drew.trans hb2; have k0 := (hb2'.cell (p := ⟨w.heap.size, 2, none⟩) l1).trans c12; have k1 := (hb2'.cell (p := ⟨w.heap.size, 3, none⟩) l1).trans c13; have k2 := (hb2'.cell (p := ⟨w.heap.size, 4, none⟩) l1).trans c14; have B4 := B2.step hb2'; have d0 := B4.c0; have d1 := B4.c1; have d2 := B4.c2; have d3 := B4.c3; have f0 := B4.f 0; have f1 := B4.f 1; have f2 := B4.f 2; have f3 := B4.f 3)
        | (go_at_call 161; refine (wide_floor _ _ (by omega) (by omega) (by omega) hg1 _).mono ?_; rintro e w' ⟨rfl, rfl⟩; rw [HK.out]))
    all_goals
      obtain ⟨e0, e1, e2, e3⟩ := B4.four 0 0 (some ⟨g5, 0, none⟩) n n k
      have hEnd := below_step hB hb2'
      have hg6 : w1.heap.size ≤ g5 := hg5
      have R := O5.store4 (b := w.heap.size + 1) (by omega) (.int .i64 0) (.int .i64 0) (.slice (some ⟨g5, 0, none⟩) n n) (.int .i64 k)
      clear k0 k1 k2 c12 c13 c14
      go_wp2
      refine bodyPost_ret (v := .tuple #[condV 0 0 (some ⟨g5, 0, none⟩) n n k, .int .i64 0]) (by simp [results, Tryz.results149, go_sem, e0, e1, e2, e3]) rfl ?_
      exact ⟨some ⟨g5, 0, none⟩, n, n, rfl, R.ints hsm (fun x hx => by have := HW.out x hx; omega), below_store4 hEnd (by omega) _ _ _ _, .inr ⟨g5, rfl, by omega, R⟩⟩
set_option maxHeartbeats 4000000 in
theorem equal_zero (q M : Int) (A : Option Addr) (n c : Nat) (K : Int) (xs : List Int) (hK : -4611686018427387904 ≤ K ∧ K ≤ 4611686018427387904) (w : World) (hI : IntsAt w A n xs) :
    Calls Tryz.prog 150 #[shapeV q M A n c K 0] w fun e w' => CondRet w e w' 0 0 [] 0 (if K = 0 then 1 else -1) := by
  have hB := below_step (below_alloc w (.cells #[.int .i64 q, .int .i64 M, .slice A n c, .int .i64 K, .int .i64 0] 143)) (below_alloc _ (.cells #[.int .i64 0, .int .i64 0, .slice none 0 0, .int .i64 0] 56))
  have B2 := CBox.new (w.alloc (.cells #[.int .i64 q, .int .i64 M, .slice A n c, .int .i64 K, .int .i64 0] 143)) 0 0 none 0 0 0
  rw [World.size_alloc] at B2
  obtain ⟨s, hs⟩ : ∃ s : Int, (if K = 0 then (1 : Int) else -1) = s := ⟨_, rfl⟩
  have HS := Lib.hid (show (if (K == 0) = true then (1 : Int) else -1) = s by rw [← hs]; simp)
  rw [hs]
  clear hs
  go_enter Tryz.func150, Tryz.ntmps150
  go_wp2_with (go_at_call 159; refine (wide_verdict _ _).mono ?_; rintro e w1 ⟨rfl, hb⟩; rw [HS.out]; replace hB := below_step hB hb; replace B2 := B2.step hb; have c0 := B2.c0; have c1 := B2.c1; have c2 := B2.c2; have c3 := B2.c3; have f0 := B2.f 0; have f1 := B2.f 1; have f2 := B2.f 2; have f3 := B2.f 3; obtain ⟨e0, e1, e2, e3⟩ := B2.four 0 0 none 0 0 0)
  refine bodyPost_ret (v := .tuple #[condV 0 0 none 0 0 0, .int .i64 s]) (by simp [results, Tryz.results150, go_sem, e0, e1, e2, e3]) rfl ?_
  exact ⟨none, 0, 0, rfl, ints_nil _ _, below_store4 hB (by omega) _ _ _ _, .inl rfl⟩
set_option maxHeartbeats 4000000 in
theorem equal_never (q M : Int) (A : Option Addr) (n c : Nat) (K : Int) (xs : List Int) (g : Nat) (hg : g ≤ 4611686018427387904) (hg1 : 1 ≤ g) (hK : -4611686018427387904 ≤ K ∧ K ≤ 4611686018427387904) (hr : K.tmod g ≠ 0) (w : World) (hI : IntsAt w A n xs) :
    Calls Tryz.prog 150 #[shapeV q M A n c K g] w fun e w' => CondRet w e w' 0 0 [] 0 (-1) := by
  have hB := below_step (below_alloc w (.cells #[.int .i64 q, .int .i64 M, .slice A n c, .int .i64 K, .int .i64 g] 143)) (below_alloc _ (.cells #[.int .i64 0, .int .i64 0, .slice none 0 0, .int .i64 0] 56))
  have h1 := hI.step hB
  have B1 := (SBox.new w q M A n c K g).step (below_alloc _ (.cells #[.int .i64 0, .int .i64 0, .slice none 0 0, .int .i64 0] 56))
  have B2 := CBox.new (w.alloc (.cells #[.int .i64 q, .int .i64 M, .slice A n c, .int .i64 K, .int .i64 g] 143)) 0 0 none 0 0 0
  rw [World.size_alloc] at B2
  have q0 : ((g : Int) == 0) = false := by simp; omega
  have hg0 : (g : Int) ≠ 0 := by omega
  have q1 : (K.tmod g != 0) = true := by simpa using hr
  have q2 : (K.tmod g == 0) = false := by simpa using hr
  have hm : (K.tmod (g : Int)).natAbs ≤ K.natAbs := by rw [Int.natAbs_tmod]; exact Nat.mod_le _ _
  have hw : IntKind.i64.wrap (K.tmod g) = K.tmod g := IntWalk.i64_in _ (by omega)
  clear hr hm
  go_enter Tryz.func150, Tryz.ntmps150
  go_wp2
  refine bodyPost_ret (v := .tuple #[condV 0 0 none 0 0 0, .int .i64 (-1)]) (by simp [results, Tryz.results150, go_sem]) rfl ?_
  exact ⟨none, 0, 0, rfl, ints_nil _ _, hB, .inl rfl⟩
def leadBy (xs : List Int) (g : Nat) : Int := if leadI xs < 0 then -(g : Int) else g
set_option maxHeartbeats 8000000 in
theorem equal_open (q M : Int) (A : Option Addr) (n c : Nat) (K : Int) (xs : List Int) (g : Nat) (hg : g ≤ 4611686018427387904) (hg1 : 1 ≤ g) (hK : -4611686018427387904 ≤ K ∧ K ≤ 4611686018427387904) (hr : K.tmod g = 0) (hx : ∀ x ∈ xs, -4611686018427387904 ≤ x ∧ x ≤ 4611686018427387904) (w : World) (hI : IntsAt w A n xs) :
    Calls Tryz.prog 150 #[shapeV q M A n c K g] w fun e w' => CondRet w e w' 1 0 (quoL n xs (leadBy xs g)) (K.tdiv (leadBy xs g)) 0 := by
  have hB := below_step (below_alloc w (.cells #[.int .i64 q, .int .i64 M, .slice A n c, .int .i64 K, .int .i64 g] 143)) (below_alloc _ (.cells #[.int .i64 0, .int .i64 0, .slice none 0 0, .int .i64 0] 56))
  have h1 := hI.step hB
  have B1 := (SBox.new w q M A n c K g).step (below_alloc _ (.cells #[.int .i64 0, .int .i64 0, .slice none 0 0, .int .i64 0] 56))
  have B2 := CBox.new (w.alloc (.cells #[.int .i64 q, .int .i64 M, .slice A n c, .int .i64 K, .int .i64 g] 143)) 0 0 none 0 0 0
  rw [World.size_alloc] at B2
  have q0 : ((g : Int) == 0) = false := by simp; omega
  have hg0 : (g : Int) ≠ 0 := by omega
  have hgN : g ≠ 0 := by omega
  have hwm : IntKind.i64.wrap (K.tmod g) = 0 := by rw [hr]; rfl
  have HLE := Lib.hid (rfl : leadI xs = leadI xs)
  have c12 := B1.c2
  have c13 := B1.c3
  have c14 := B1.c4
  have hsm := hI.small
  have hbb : leadBy xs g ≠ 0 ∧ -4611686018427387904 ≤ leadBy xs g ∧ leadBy xs g ≤ 4611686018427387904 := by unfold leadBy; split <;> omega
  obtain ⟨w1, hw1⟩ : ∃ w1, w1 = ((w.alloc (.cells #[.int .i64 q, .int .i64 M, .slice A n c, .int .i64 K, .int .i64 g] 143)).alloc (.cells #[.int .i64 0, .int .i64 0, .slice none 0 0, .int .i64 0] 56)) := ⟨_, rfl⟩
  rw [← hw1] at hB h1 B1 B2 c12 c13 c14
  have HQ := Lib.hid (wide_quotients A n c xs (leadBy xs g) hbb.1 hbb.2 hx w1.drew (h1.step (Below.refl _ w1).drew))
  have HLD := Lib.hid (wide_lead A n c xs w1 h1)
  have HW := Lib.hid (quo_wf (n := n) hbb.1 hx)
  have l1 := B1.lt
  have l2 := B2.lt
  obtain ⟨by_, hby⟩ : ∃ b, leadBy xs g = b := ⟨_, rfl⟩
  obtain ⟨ld, hld⟩ : ∃ l, leadI xs = l := ⟨_, rfl⟩
  have hby2 : by_ = if ld < 0 then -(g : Int) else g := by rw [← hby, ← hld]; rfl
  rw [hby] at HQ HW hbb ⊢
  rw [hld] at HLD
  generalize hX : quoL n xs by_ = X at *
  have hkd := tdiv_bd K by_ hbb.1
  obtain ⟨k, hk⟩ : ∃ k, K.tdiv by_ = k := ⟨_, rfl⟩
  rw [hk] at hkd ⊢
  have hkw : IntKind.i64.wrap (K.tdiv by_) = k := by rw [hk]; exact IntWalk.i64_in _ (by omega)
  have hb0 : (by_ == 0) = false := by simpa using hbb.1
  have hbne := hbb.1
  have HBB := Lib.hid hbb
  have HG := Lib.hid (And.intro hg hg1)
  have hwn : IntKind.i64.wrap (-(g : Int)) = -(g : Int) := IntWalk.i64_in _ (by omega)
  have HKR := Lib.hid hK
  clear hI hX hx hby hld HLE hbb hk hkd hg hg1 hwm hK
  by_cases hneg : ld < 0
  · rw [if_pos hneg] at hby2
    subst hby2
    have hkw2 : IntKind.i64.wrap (-(K.tdiv (g : Int))) = k := by rw [← Int.tdiv_neg]; exact hkw
    go_enter Tryz.func150, Tryz.ntmps150
    go_wp2_with (go_at_call 146; rw [← hw1]; refine HLD.out.mono ?_; rintro e w' ⟨rfl, rfl⟩)
    rw [← hw1]
    clear hw1
    have n1 : w.heap.size ≠ w.heap.size + 1 := by omega
    go_region_held3 (fun W => W.cell? ⟨w.heap.size, 2, none⟩ = some (.slice A n c) ∧ W.cell? ⟨w.heap.size, 3, none⟩ = some (.int .i64 K) ∧ W.cell? ⟨w.heap.size, 4, none⟩ = some (.int .i64 g)) (go_keep)
      (first
        | (go_at_call 160; refine HQ.out.mono ?_; rintro e w2 ⟨g5, rfl, hg5, O5, hb2⟩; have hb2' := (Below.refl w1.heap.size w1).drew.trans hb2; have k0 := (hb2'.cell (p := ⟨w.heap.size, 2, none⟩) l1).trans c12; have k1 := (hb2'.cell (p := ⟨w.heap.size, 3, none⟩) l1).trans c13; have k2 := (hb2'.cell (p := ⟨w.heap.size, 4, none⟩) l1).trans c14; have B4 := B2.step hb2'; have d0 := B4.c0; have d1 := B4.c1; have d2 := B4.c2; have d3 := B4.c3; have f0 := B4.f 0; have f1 := B4.f 1; have f2 := B4.f 2; have f3 := B4.f 3))
    all_goals
      obtain ⟨e0, e1, e2, e3⟩ := B4.four 1 0 (some ⟨g5, 0, none⟩) n n k
      have hEnd := below_step hB hb2'
      have hg6 : w1.heap.size ≤ g5 := hg5
      have R := O5.store4 (b := w.heap.size + 1) (by omega) (.int .i64 1) (.int .i64 0) (.slice (some ⟨g5, 0, none⟩) n n) (.int .i64 k)
      clear k0 k1 k2 c12 c13 c14
      go_wp2
      refine bodyPost_ret (v := .tuple #[condV 1 0 (some ⟨g5, 0, none⟩) n n k, .int .i64 0]) (by simp [results, Tryz.results150, go_sem, e0, e1, e2, e3]) rfl ?_
      exact ⟨some ⟨g5, 0, none⟩, n, n, rfl, R.ints hsm (fun x hx => by have := HW.out x hx; omega), below_store4 hEnd (by omega) _ _ _ _, .inr ⟨g5, rfl, by omega, R⟩⟩
  · rw [if_neg hneg] at hby2
    subst hby2
    go_enter Tryz.func150, Tryz.ntmps150
    go_wp2_with (go_at_call 146; rw [← hw1]; refine HLD.out.mono ?_; rintro e w' ⟨rfl, rfl⟩)
    rw [← hw1]
    clear hw1
    have n1 : w.heap.size ≠ w.heap.size + 1 := by omega
    go_region_held3 (fun W => W.cell? ⟨w.heap.size, 2, none⟩ = some (.slice A n c) ∧ W.cell? ⟨w.heap.size, 3, none⟩ = some (.int .i64 K) ∧ W.cell? ⟨w.heap.size, 4, none⟩ = some (.int .i64 g)) (go_keep)
      (first
        | (go_at_call 160; refine HQ.out.mono ?_; rintro e w2 ⟨g5, rfl, hg5, O5, hb2⟩; have hb2' := (Below.refl w1.heap.size w1).drew.trans hb2; have k0 := (hb2'.cell (p := ⟨w.heap.size, 2, none⟩) l1).trans c12; have k1 := (hb2'.cell (p := ⟨w.heap.size, 3, none⟩) l1).trans c13; have k2 := (hb2'.cell (p := ⟨w.heap.size, 4, none⟩) l1).trans c14; have B4 := B2.step hb2'; have d0 := B4.c0; have d1 := B4.c1; have d2 := B4.c2; have d3 := B4.c3; have f0 := B4.f 0; have f1 := B4.f 1; have f2 := B4.f 2; have f3 := B4.f 3))
    all_goals
      obtain ⟨e0, e1, e2, e3⟩ := B4.four 1 0 (some ⟨g5, 0, none⟩) n n k
      have hEnd := below_step hB hb2'
      have hg6 : w1.heap.size ≤ g5 := hg5
      have R := O5.store4 (b := w.heap.size + 1) (by omega) (.int .i64 1) (.int .i64 0) (.slice (some ⟨g5, 0, none⟩) n n) (.int .i64 k)
      clear k0 k1 k2 c12 c13 c14
      go_wp2
      refine bodyPost_ret (v := .tuple #[condV 1 0 (some ⟨g5, 0, none⟩) n n k, .int .i64 0]) (by simp [results, Tryz.results150, go_sem, e0, e1, e2, e3]) rfl ?_
      exact ⟨some ⟨g5, 0, none⟩, n, n, rfl, R.ints hsm (fun x hx => by have := HW.out x hx; omega), below_store4 hEnd (by omega) _ _ _ _, .inr ⟨g5, rfl, by omega, R⟩⟩
end Go.Proofs.YtkgnlloioaobiaaGreat
namespace Go.Proofs.YtkgnlloioaobiaaGreat
open Go.RowKit
theorem gcdA_dvd : ∀ (xs : List Int) (g : Nat), gcdA g xs ∣ g
  | [], g => Nat.dvd_refl _
  | x :: xs, g => Nat.dvd_trans (gcdA_dvd xs (Nat.gcd g x.natAbs)) (Nat.gcd_dvd_left _ _)
theorem gcdA_le {xs : List Int} {g : Nat} (h : 0 < g) : 0 < gcdA g xs ∧ gcdA g xs ≤ g :=
  ⟨Nat.pos_of_dvd_of_pos (gcdA_dvd xs g) h, Nat.le_of_dvd h (gcdA_dvd xs g)⟩
set_option maxHeartbeats 4000000 in
theorem div_never (q M : Int) (A : Option Addr) (n c : Nat) (K : Int) (xs : List Int) (g : Int) (hM : 1 ≤ M ∧ M ≤ 512) (hK : -4611686018427387904 ≤ K ∧ K ≤ 4611686018427387904) (hx : ∀ x ∈ xs, -4611686018427387904 ≤ x ∧ x ≤ 4611686018427387904) (hr : (K % M) % (gcdA M.natAbs xs : Int) ≠ 0) (w : World) (hI : IntsAt w A n xs) :
    Calls Tryz.prog 151 #[shapeV q M A n c K g] w fun e w' => CondRet w e w' 0 0 [] 0 (-1) := by
  have hB := below_step (below_alloc w (.cells #[.int .i64 q, .int .i64 M, .slice A n c, .int .i64 K, .int .i64 g] 143)) (below_alloc _ (.cells #[.int .i64 0, .int .i64 0, .slice none 0 0, .int .i64 0] 56))
  have h1 := hI.step hB
  have B1 := (SBox.new w q M A n c K g).step (below_alloc _ (.cells #[.int .i64 0, .int .i64 0, .slice none 0 0, .int .i64 0] 56))
  have B2 := CBox.new (w.alloc (.cells #[.int .i64 q, .int .i64 M, .slice A n c, .int .i64 K, .int .i64 g] 143)) 0 0 none 0 0 0
  rw [World.size_alloc] at B2
  obtain ⟨k, hk⟩ : ∃ k, K % M = k := ⟨_, rfl⟩
  have hk0 := Int.emod_nonneg K (show M ≠ 0 by omega)
  have hk1 := Int.emod_lt_of_pos K (show 0 < M by omega)
  rw [hk] at hk0 hk1 hr
  have HKM := Lib.hid hk
  obtain ⟨h, hh⟩ : ∃ h : Nat, gcdA M.natAbs xs = h := ⟨_, rfl⟩
  have hhM := gcdA_le (xs := xs) (show 0 < M.natAbs by omega)
  rw [hh] at hhM hr
  have hdv := (wide_divisor M ⟨by omega, by omega⟩ A n c xs hx _ h1).mono (R' := fun e w' => e = .returned (.int .i64 h) ∧ Below _ _ w') (by rintro e w' ⟨rfl, kk, rfl⟩; exact ⟨by rw [hh], below_of_drewN kk⟩)
  have HD := Lib.hid hdv
  clear hk hh hI hdv
  have hh0 : ((h : Int) == 0) = false := by simp; omega
  have hhn : (h : Int) ≠ 0 := by omega
  have hhi : (h : Int) ≤ 512 := by omega
  have q1 : (k % (h : Int) != 0) = true := by simpa using hr
  have q2 : (k % (h : Int) == 0) = false := by simpa using hr
  clear hr
  go_enter Tryz.func151, Tryz.ntmps151
  go_wp2_with (first
    | (go_at_call 128; refine HD.out.mono ?_; rintro e w1 ⟨rfl, hb⟩; replace hB := below_step hB hb; replace h1 := h1.step hb; replace B1 := B1.step hb; replace B2 := B2.step hb; have c11 := B1.c1; have c12 := B1.c2; have c13 := B1.c3; have d0 := B2.c0; have d1 := B2.c1; have d2 := B2.c2; have d3 := B2.c3; have f0 := B2.f 0; have f1 := B2.f 1; have f2 := B2.f 2; have f3 := B2.f 3)
    | (go_at_call 162; refine (wide_mod _ _ (by omega) (by omega) (by omega) hM.1 _).mono ?_; rintro e w' ⟨rfl, rfl⟩; rw [HKM.out]))
  obtain ⟨e0, e1, e2, e3⟩ := B2.four 0 0 none 0 0 0
  refine bodyPost_ret (v := .tuple #[condV 0 0 none 0 0 0, .int .i64 (-1)]) (by simp [results, Tryz.results151, go_sem, e0, e1, e2, e3]) rfl ?_
  exact ⟨none, 0, 0, rfl, ints_nil _ _, below_store4 hB (by omega) _ _ _ _, .inl rfl⟩
set_option maxHeartbeats 4000000 in
theorem div_always (q M : Int) (A : Option Addr) (n c : Nat) (K : Int) (xs : List Int) (g : Int) (hM : 1 ≤ M ∧ M ≤ 512) (hK : -4611686018427387904 ≤ K ∧ K ≤ 4611686018427387904) (hx : ∀ x ∈ xs, -4611686018427387904 ≤ x ∧ x ≤ 4611686018427387904) (hr : (K % M) % (gcdA M.natAbs xs : Int) = 0) (hm : (gcdA M.natAbs xs : Int) = M) (w : World) (hI : IntsAt w A n xs) :
    Calls Tryz.prog 151 #[shapeV q M A n c K g] w fun e w' => CondRet w e w' 0 0 [] 0 1 := by
  have hB := below_step (below_alloc w (.cells #[.int .i64 q, .int .i64 M, .slice A n c, .int .i64 K, .int .i64 g] 143)) (below_alloc _ (.cells #[.int .i64 0, .int .i64 0, .slice none 0 0, .int .i64 0] 56))
  have h1 := hI.step hB
  have B1 := (SBox.new w q M A n c K g).step (below_alloc _ (.cells #[.int .i64 0, .int .i64 0, .slice none 0 0, .int .i64 0] 56))
  have B2 := CBox.new (w.alloc (.cells #[.int .i64 q, .int .i64 M, .slice A n c, .int .i64 K, .int .i64 g] 143)) 0 0 none 0 0 0
  rw [World.size_alloc] at B2
  obtain ⟨k, hk⟩ : ∃ k, K % M = k := ⟨_, rfl⟩
  have hk0 := Int.emod_nonneg K (show M ≠ 0 by omega)
  have hk1 := Int.emod_lt_of_pos K (show 0 < M by omega)
  rw [hk] at hk0 hk1 hr
  have HKM := Lib.hid hk
  obtain ⟨h, hh⟩ : ∃ h : Nat, gcdA M.natAbs xs = h := ⟨_, rfl⟩
  have hhM := gcdA_le (xs := xs) (show 0 < M.natAbs by omega)
  rw [hh] at hhM hr
  have hdv := (wide_divisor M ⟨by omega, by omega⟩ A n c xs hx _ h1).mono (R' := fun e w' => e = .returned (.int .i64 h) ∧ Below _ _ w') (by rintro e w' ⟨rfl, kk, rfl⟩; exact ⟨by rw [hh], below_of_drewN kk⟩)
  have HD := Lib.hid hdv
  rw [hh] at hm
  clear hk hh hI hdv
  have hh0 : ((h : Int) == 0) = false := by simp; omega
  have hhn : (h : Int) ≠ 0 := by omega
  have hhi : (h : Int) ≤ 512 := by omega
  have q3 : ((h : Int) == M) = true := by simpa using hm
  clear hm
  go_enter Tryz.func151, Tryz.ntmps151
  go_wp2_with (first
    | (go_at_call 128; refine HD.out.mono ?_; rintro e w1 ⟨rfl, hb⟩; replace hB := below_step hB hb; replace h1 := h1.step hb; replace B1 := B1.step hb; replace B2 := B2.step hb; have c11 := B1.c1; have c12 := B1.c2; have c13 := B1.c3; have d0 := B2.c0; have d1 := B2.c1; have d2 := B2.c2; have d3 := B2.c3; have f0 := B2.f 0; have f1 := B2.f 1; have f2 := B2.f 2; have f3 := B2.f 3)
    | (go_at_call 162; refine (wide_mod _ _ (by omega) (by omega) (by omega) hM.1 _).mono ?_; rintro e w' ⟨rfl, rfl⟩; rw [HKM.out]))
  obtain ⟨e0, e1, e2, e3⟩ := B2.four 0 0 none 0 0 0
  refine bodyPost_ret (v := .tuple #[condV 0 0 none 0 0 0, .int .i64 1]) (by simp [results, Tryz.results151, go_sem, e0, e1, e2, e3]) rfl ?_
  exact ⟨none, 0, 0, rfl, ints_nil _ _, below_store4 hB (by omega) _ _ _ _, .inl rfl⟩
def remTo (n : Nat) (xs : List Int) (M h : Int) (i : Nat) : List Int := (List.range n).map fun j => if j < i then (xs[j]?.getD 0 % M) / h else 0
def remL (n : Nat) (xs : List Int) (M h : Int) : List Int := (List.range n).map fun j => (xs[j]?.getD 0 % M) / h
theorem rem_zero (n : Nat) (xs : List Int) (M h : Int) : remTo n xs M h 0 = zeros n := by
  apply List.ext_getElem (by simp [remTo, zeros])
  intro j h1 h2
  simp [remTo, zeros]
theorem rem_step (n : Nat) (xs : List Int) (M h : Int) (i : Nat) : (remTo n xs M h i).set i ((xs[i]?.getD 0 % M) / h) = remTo n xs M h (i + 1) := by
  unfold remTo
  rw [tab_set]
  apply List.map_congr_left
  intro j _
  by_cases e : j = i
  · subst e; simp
  · have : (j < i + 1) ↔ (j < i) := by omega
    simp [e, this]
theorem rem_all (n : Nat) (xs : List Int) (M h : Int) : remTo n xs M h n = remL n xs M h := by
  apply List.map_congr_left
  intro j hj
  rw [if_pos (List.mem_range.1 hj)]
set_option maxHeartbeats 8000000 in
theorem div_open (q M : Int) (A : Option Addr) (n c : Nat) (K : Int) (xs : List Int) (g : Int) (hM : 1 ≤ M ∧ M ≤ 512) (hK : -4611686018427387904 ≤ K ∧ K ≤ 4611686018427387904) (hx : ∀ x ∈ xs, -4611686018427387904 ≤ x ∧ x ≤ 4611686018427387904) (hr : (K % M) % (gcdA M.natAbs xs : Int) = 0) (hm : (gcdA M.natAbs xs : Int) ≠ M) (w : World) (hI : IntsAt w A n xs) :
    Calls Tryz.prog 151 #[shapeV q M A n c K g] w fun e w' => CondRet w e w' 2 (M / (gcdA M.natAbs xs : Int)) (remL n xs M (gcdA M.natAbs xs)) ((K % M) / (gcdA M.natAbs xs : Int)) 0 := by
  have hsm := hI.small
  have hmk := make_ints n hsm
  have hB := below_step (below_alloc w (.cells #[.int .i64 q, .int .i64 M, .slice A n c, .int .i64 K, .int .i64 g] 143)) (below_alloc _ (.cells #[.int .i64 0, .int .i64 0, .slice none 0 0, .int .i64 0] 56))
  have h1 := hI.step hB
  have B1 := (SBox.new w q M A n c K g).step (below_alloc _ (.cells #[.int .i64 0, .int .i64 0, .slice none 0 0, .int .i64 0] 56))
  have B2 := CBox.new (w.alloc (.cells #[.int .i64 q, .int .i64 M, .slice A n c, .int .i64 K, .int .i64 g] 143)) 0 0 none 0 0 0
  rw [World.size_alloc] at B2
  obtain ⟨k, hk⟩ : ∃ k, K % M = k := ⟨_, rfl⟩
  have hk0 := Int.emod_nonneg K (show M ≠ 0 by omega)
  have hk1 := Int.emod_lt_of_pos K (show 0 < M by omega)
  rw [hk] at hk0 hk1 hr
  have HKM := Lib.hid hk
  obtain ⟨h, hh⟩ : ∃ h : Nat, gcdA M.natAbs xs = h := ⟨_, rfl⟩
  have hhM := gcdA_le (xs := xs) (show 0 < M.natAbs by omega)
  rw [hh] at hhM hr
  have hdv := (wide_divisor M ⟨by omega, by omega⟩ A n c xs hx _ h1).mono (R' := fun e w' => e = .returned (.int .i64 h) ∧ Below _ _ w') (by rintro e w' ⟨rfl, kk, rfl⟩; exact ⟨by rw [hh], below_of_drewN kk⟩)
  have HD := Lib.hid hdv
  rw [hh] at hm ⊢
  rw [hk]
  clear hk hh hI hdv
  have hh0 : ((h : Int) == 0) = false := by simp; omega
  have hhn : (h : Int) ≠ 0 := by omega
  have hhN : h ≠ 0 := by omega
  have hhi : (h : Int) ≤ 512 := by omega
  have q3 : ((h : Int) == M) = false := by simpa using hm
  have q4 : ((h : Int) != M) = true := by simpa using hm
  clear hm
  go_enter Tryz.func151, Tryz.ntmps151
  go_wp2_with (first
    | (go_at_call 128; refine HD.out.mono ?_; rintro e w1 ⟨rfl, hb⟩; replace hB := below_step hB hb; replace h1 := h1.step hb; replace B1 := B1.step hb; replace B2 := B2.step hb; have c11 := B1.c1; have c12 := B1.c2; have c13 := B1.c3; have d0 := B2.c0; have d1 := B2.c1; have d2 := B2.c2; have d3 := B2.c3; have f0 := B2.f 0; have f1 := B2.f 1; have f2 := B2.f 2; have f3 := B2.f 3; have l1 := B1.lt; have l2 := B2.lt)
    | (go_at_call 162; refine (wide_mod _ _ (by omega) (by omega) (by omega) hM.1 _).mono ?_; rintro e w' ⟨rfl, rfl⟩; rw [HKM.out]))
  clear hr
  have hrow0 := OwnRow.new w1 (zeros n) n (zeros_len n)
  have hB0 := below_alloc w1 (.cells ((zeros n).map (Value.int .i64)).toArray 3)
  go_loopw [47] (fun v wr => ∃ i : Nat, i ≤ n ∧ v = .int .i64 i ∧ OwnRow wr w1.heap.size n (remTo n xs M h i) ∧ Below w1.heap.size w1 wr) (fun v _ => n - (intOf v).toNat)
  case atStart => exact ⟨0, Nat.zero_le _, rfl, by rw [rem_zero]; exact hrow0, hB0⟩
  case round =>
    obtain ⟨i, hi, rfl, hrow, hBw⟩ := hrel
    clear hrow0 hB0 hmk
    replace B1 := B1.step hBw
    replace B2 := B2.step hBw
    have c11 := B1.c1
    have c12 := B1.c2
    have c13 := B1.c3
    by_cases hlt : i < n
    · have hrx := hx _ (h1.mem hlt)
      obtain ⟨bl, off, rfl, hbl, hc⟩ := h1.cells (by omega)
      have hcell := (hBw.cell (p := ⟨bl, off + i, none⟩) hbl).trans (hc i hlt)
      have hfr := hrow.free i
      have hcr := hrow.cell hlt
      have q5 : (i : Int) < n := by omega
      have R := (hrow.set hlt ((xs[i]?.getD 0 % M) / (h : Int)))
      rw [rem_step] at R
      have hW := hBw.setCell (p := ⟨w1.heap.size, i, none⟩) (Nat.le_refl _) (.int .i64 ((xs[i]?.getD 0 % M) / (h : Int)))
      generalize xs[i]?.getD 0 = x at *
      have m0 := Int.emod_nonneg x (show M ≠ 0 by omega)
      have m1 := Int.emod_lt_of_pos x (show 0 < M by omega)
      have HR := Lib.hid R
      have hd : 0 ≤ x % M / (h : Int) ∧ x % M / (h : Int) ≤ 512 := ⟨Int.ediv_nonneg m0 (by omega), Int.le_trans (Int.ediv_le_self _ m0) (by omega)⟩
      have hw : IntKind.i64.wrap (x % M / (h : Int)) = x % M / (h : Int) := IntWalk.i64_in _ (by omega)
      have ht : (x % M).tdiv (h : Int) = x % M / (h : Int) := Int.tdiv_eq_ediv_of_nonneg m0
      clear hc R
      go_wp2_with (go_at_call 162; refine (wide_mod _ _ (by omega) (by omega) (by omega) hM.1 _).mono ?_; rintro e w' ⟨rfl, rfl⟩)
      go_roundw
      case rel =>
        exact ⟨i + 1, by omega, by go_num, HR.out, hW⟩
      case measure => simp [intOf]; omega
    · obtain rfl : i = n := by omega
      rw [rem_all] at hrow
      have hge : ¬ ((i : Int) < i) := by omega
      go_wp2
      have hMd : 0 ≤ M / (h : Int) ∧ M / (h : Int) ≤ 512 := ⟨Int.ediv_nonneg (by omega) (by omega), Int.le_trans (Int.ediv_le_self _ (by omega)) (by omega)⟩
      have hkd : 0 ≤ k / (h : Int) ∧ k / (h : Int) ≤ 512 := ⟨Int.ediv_nonneg hk0 (by omega), Int.le_trans (Int.ediv_le_self _ hk0) (by omega)⟩
      have hM0 : 0 ≤ M := by omega
      have hw1 : IntKind.i64.wrap (M.tdiv (h : Int)) = M / (h : Int) := by rw [Int.tdiv_eq_ediv_of_nonneg hM0]; exact IntWalk.i64_in _ (by omega)
      have hw2 : IntKind.i64.wrap (k.tdiv (h : Int)) = k / (h : Int) := by rw [Int.tdiv_eq_ediv_of_nonneg hk0]; exact IntWalk.i64_in _ (by omega)
      clear hM0
      have d0 := B2.c0
      have d1 := B2.c1
      have d2 := B2.c2
      have d3 := B2.c3
      have f0 := B2.f 0
      have f1 := B2.f 1
      have f2 := B2.f 2
      have f3 := B2.f 3
      obtain ⟨e0, e1, e2, e3⟩ := B2.four 2 (M / (h : Int)) (some ⟨w1.heap.size, 0, none⟩) i i (k / (h : Int))
      have n1 : w.heap.size ≠ w.heap.size + 1 := by omega
      go_region_held3 (fun W => W.cell? ⟨w.heap.size, 1, none⟩ = some (.int .i64 M)) (go_keep) (fail)
      all_goals
        have hEnd := below_step hB hBw
        have R := (show OwnRow _ w1.heap.size i (remL i xs M h) from hrow).store4 (b := w.heap.size + 1) (by omega) (.int .i64 2) (.int .i64 (M / (h : Int))) (.slice (some ⟨w1.heap.size, 0, none⟩) i i) (.int .i64 (k / (h : Int)))
        have hwf : ∀ z ∈ remL i xs M h, -9223372036854775808 ≤ z ∧ z ≤ 9223372036854775807 := by
          intro z hz
          obtain ⟨j, _, rfl⟩ := List.mem_map.1 hz
          have m0 := Int.emod_nonneg (xs[j]?.getD 0) (show M ≠ 0 by omega)
          have m1 := Int.emod_lt_of_pos (xs[j]?.getD 0) (show 0 < M by omega)
          have m2 := Int.ediv_nonneg m0 (show (0 : Int) ≤ h by omega)
          have m3 := Int.ediv_le_self (h : Int) m0
          omega
        go_wp2
        refine bodyPost_ret (v := .tuple #[condV 2 (M / (h : Int)) (some ⟨w1.heap.size, 0, none⟩) i i (k / (h : Int)), .int .i64 0]) (by simp [results, Tryz.results151, go_sem, e0, e1, e2, e3]) rfl ?_
        exact ⟨some ⟨w1.heap.size, 0, none⟩, i, i, rfl, IntsAt.step (R.ints hsm hwf) (Below.refl _ _).drew, (below_store4 hEnd (by omega) _ _ _ _).drew, .inr ⟨w1.heap.size, rfl, by omega, R⟩⟩
end Go.Proofs.YtkgnlloioaobiaaGreat
namespace Go.Proofs.YtkgnlloioaobiaaGreat
open Go.RowKit
theorem gcdA_bd (B : Nat) : ∀ (xs : List Int) (g : Nat), g ≤ B → (∀ x ∈ xs, x.natAbs ≤ B) → gcdA g xs ≤ B
  | [], g, hg, _ => hg
  | x :: xs, g, hg, hx => by
    refine gcdA_bd B xs (Nat.gcd g x.natAbs) ?_ (fun y hy => hx y (List.mem_cons_of_mem _ hy))
    by_cases h0 : g = 0
    · subst h0; rw [Nat.gcd_zero_left]; exact hx x List.mem_cons_self
    · exact Nat.le_trans (Nat.gcd_le_left _ (Nat.pos_of_ne_zero h0)) hg
def nf (q M : Int) (n : Nat) (xs : List Int) (K : Int) : Int × Int × List Int × Int × Int :=
  if q = 0 then (if gcdA 0 xs = 0 then (0, 0, [], 0, if 0 ≤ K then 1 else -1) else (0, 0, quoL n xs (gcdA 0 xs : Nat), K / (gcdA 0 xs : Nat), 0))
  else if q = 1 then (if gcdA 0 xs = 0 then (0, 0, [], 0, if K = 0 then 1 else -1)
    else if K.tmod (gcdA 0 xs : Nat) ≠ 0 then (0, 0, [], 0, -1)
    else (1, 0, quoL n xs (leadBy xs (gcdA 0 xs)), K.tdiv (leadBy xs (gcdA 0 xs)), 0))
  else if (K % M) % (gcdA M.natAbs xs : Int) ≠ 0 then (0, 0, [], 0, -1)
    else if (gcdA M.natAbs xs : Int) = M then (0, 0, [], 0, 1)
    else (2, M / (gcdA M.natAbs xs : Int), remL n xs M (gcdA M.natAbs xs), (K % M) / (gcdA M.natAbs xs : Int), 0)
abbrev NfRet (w : World) (e : Ending) (w' : World) (r : Int × Int × List Int × Int × Int) : Prop := CondRet w e w' r.1 r.2.1 r.2.2.1 r.2.2.2.1 r.2.2.2.2
section
variable (M : Int) (A : Option Addr) (n c : Nat) (K : Int) (xs : List Int) (hK : -4611686018427387904 ≤ K ∧ K ≤ 4611686018427387904) (hx : ∀ x ∈ xs, -4611686018427387904 ≤ x ∧ x ≤ 4611686018427387904) (w : World) (hI : IntsAt w A n xs)
include hK hx hI
omit hK hI in
theorem gcd_lim : gcdA 0 xs ≤ 4611686018427387904 := gcdA_bd _ xs 0 (by omega) (fun x h => by have := hx x h; omega)
theorem rule_ge : Calls Tryz.prog 149 #[shapeV 0 M A n c K (gcdA 0 xs : Nat)] w fun e w' => NfRet w e w' (nf 0 M n xs K) := by
  have hg := gcd_lim xs hx
  refine (at_least 0 M A n c K xs (gcdA 0 xs) hg hK hx w hI).mono ?_
  intro e w' h
  unfold nf
  rw [if_pos rfl]
  by_cases h0 : gcdA 0 xs = 0
  · simp only [if_pos h0] at h ⊢; exact h
  · simp only [if_neg h0] at h ⊢; exact h
theorem rule_eq : Calls Tryz.prog 150 #[shapeV 1 M A n c K (gcdA 0 xs : Nat)] w fun e w' => NfRet w e w' (nf 1 M n xs K) := by
  have hg := gcd_lim xs hx
  unfold nf
  rw [if_neg (by decide), if_pos rfl]
  by_cases h0 : gcdA 0 xs = 0
  · rw [if_pos h0, h0]; exact equal_zero 1 M A n c K xs hK w hI
  · rw [if_neg h0]
    by_cases h1 : K.tmod (gcdA 0 xs : Nat) = 0
    · rw [if_neg (by simpa using h1)]; exact equal_open 1 M A n c K xs _ hg (by omega) hK h1 hx w hI
    · rw [if_pos h1]; exact equal_never 1 M A n c K xs _ hg (by omega) hK h1 w hI
theorem rule_div (g : Int) (hM : 1 ≤ M ∧ M ≤ 512) : Calls Tryz.prog 151 #[shapeV 2 M A n c K g] w fun e w' => NfRet w e w' (nf 2 M n xs K) := by
  unfold nf
  rw [if_neg (by decide), if_neg (by decide)]
  by_cases h0 : (K % M) % (gcdA M.natAbs xs : Int) = 0
  · rw [if_neg (by simpa using h0)]
    by_cases h1 : (gcdA M.natAbs xs : Int) = M
    · rw [if_pos h1]; exact div_always 2 M A n c K xs g hM hK hx h0 h1 w hI
    · rw [if_neg h1]; exact div_open 2 M A n c K xs g hM hK hx h0 h1 w hI
  · rw [if_pos h0]; exact div_never 2 M A n c K xs g hM hK hx h0 w hI
end
abbrev fnV (f : Nat) : Value := .func (Fn.func f) #[] #[]
def FBox (w : World) (b : Nat) (x y z : Value) : Prop := w.heap[b]? = some (.cells #[x, y, z] 139 (0, 0))
theorem FBox.new (w : World) (x y z : Value) : FBox (w.alloc (.cells #[x, y, z] 139)) w.heap.size x y z := heap_alloc_new w _
theorem FBox.c {w : World} {b : Nat} {x y z : Value} (h : FBox w b x y z) : w.cell? ⟨b, 0, none⟩ = some x ∧ w.cell? ⟨b, 1, none⟩ = some y ∧ w.cell? ⟨b, 2, none⟩ = some z :=
  ⟨by rw [cell_of_row w b 0 _ _ (0, 0) h]; rfl, by rw [cell_of_row w b 1 _ _ (0, 0) h]; rfl, by rw [cell_of_row w b 2 _ _ (0, 0) h]; rfl⟩
theorem FBox.f {w : World} {b : Nat} {x y z : Value} (h : FBox w b x y z) (j : Nat) : w.frozen? ⟨b, j, none⟩ = false := by
  unfold FBox at h; simp [World.frozen?, h]
theorem FBox.put {w : World} {b : Nat} {x y z : Value} (h : FBox w b x y z) (f : Nat) :
    (store ⟨b, 0, none⟩ (fnV f)).run Tryz.prog w = .ok () (w.setCell ⟨b, 0, none⟩ (fnV f)) ∧
    (store ⟨b, 1, none⟩ (fnV f)).run Tryz.prog w = .ok () (w.setCell ⟨b, 1, none⟩ (fnV f)) ∧
    (store ⟨b, 2, none⟩ (fnV f)).run Tryz.prog w = .ok () (w.setCell ⟨b, 2, none⟩ (fnV f)) := by
  obtain ⟨c0, c1, c2⟩ := h.c
  have f0 := h.f 0
  have f1 := h.f 1
  have f2 := h.f 2
  refine ⟨?_, ?_, ?_⟩ <;> (rw [run_store _ _ _ _ _ rfl]; simp [c0, c1, c2, f0, f1, f2, go_sem])
theorem wide_rules (w : World) : Calls Tryz.prog 127 #[] w fun e w' => e = .returned (.agg #[fnV 149, fnV 150, fnV 151]) ∧ Below w.heap.size w w' := by
  have r0 := ((FBox.new w .nilFunc .nilFunc .nilFunc).put 149).1
  have r1 := ((FBox.new w (fnV 149) .nilFunc .nilFunc).put 150).2.1
  have r2 := ((FBox.new w (fnV 149) (fnV 150) .nilFunc).put 151).2.2
  obtain ⟨e0, e1, e2⟩ := (FBox.new w (fnV 149) (fnV 150) (fnV 151)).c
  go_enter Tryz.func127, Tryz.ntmps127
  go_wp2
  refine bodyPost_ret (v := .agg #[fnV 149, fnV 150, fnV 151]) (by simp [results, Tryz.results127, go_sem, e0, e1, e2]) rfl ?_
  exact ⟨rfl, below_alloc w _⟩
theorem condRet_into {w0 w1 w2 : World} {q M K s : Int} {X : List Int} {A : Option Addr} {n c b : Nat} (hI : IntsAt w2 A n X) (hO : n = 0 ∨ ∃ g, A = some ⟨g, 0, none⟩ ∧ w1.heap.size ≤ g ∧ OwnRow w2 g n X)
    (hB : Below w0.heap.size w0 w2) (hb0 : w0.heap.size ≤ b) (hb1 : b < w1.heap.size) (u v x y : Value) :
    CondRet w0 (.returned (.tuple #[condV q M A n c K, .int .i64 s])) ((((w2.setCell ⟨b, 0, none⟩ u).setCell ⟨b, 1, none⟩ v).setCell ⟨b, 2, none⟩ x).setCell ⟨b, 3, none⟩ y) q M X K s := by
  refine ⟨A, n, c, rfl, ?_, below_store4 hB hb0 _ _ _ _, ?_⟩
  · rcases hO with rfl | ⟨g, rfl, hg, O⟩
    · have hl := hI.len
      obtain rfl : X = [] := List.length_eq_zero_iff.1 hl
      exact ints_nil _ _
    · exact (O.store4 (b := b) (by omega) u v x y).ints hI.small hI.wf
  · rcases hO with rfl | ⟨g, rfl, hg, O⟩
    · exact .inl rfl
    · exact .inr ⟨g, rfl, by omega, O.store4 (b := b) (by omega) u v x y⟩
end Go.Proofs.YtkgnlloioaobiaaGreat
namespace Go.Proofs.YtkgnlloioaobiaaGreat
open Go.RowKit
set_option maxHeartbeats 4000000 in
theorem wide_normal_ge (M : Int) (A : Option Addr) (n c : Nat) (K : Int) (xs : List Int) (hK : -4611686018427387904 ≤ K ∧ K ≤ 4611686018427387904) (hx : ∀ x ∈ xs, -4611686018427387904 ≤ x ∧ x ≤ 4611686018427387904) (w : World) (hI : IntsAt w A n xs) :
    Calls Tryz.prog 100 #[condV 0 M A n c K] w fun e w' => NfRet w e w' (nf 0 M n xs K) := by
  have hB := below_step (below_alloc w (.cells #[.int .i64 0, .int .i64 M, .slice A n c, .int .i64 K] 56)) (below_alloc _ (.cells #[.int .i64 0, .int .i64 0, .slice none 0 0, .int .i64 0] 56))
  have h1 := hI.step hB
  have B1 := (CBox.new w 0 M A n c K).step (below_alloc _ (.cells #[.int .i64 0, .int .i64 0, .slice none 0 0, .int .i64 0] 56))
  have B2 := CBox.new (w.alloc (.cells #[.int .i64 0, .int .i64 M, .slice A n c, .int .i64 K] 56)) 0 0 none 0 0 0
  rw [World.size_alloc] at B2
  obtain ⟨w1, hw1⟩ : ∃ w1, w1 = ((w.alloc (.cells #[.int .i64 0, .int .i64 M, .slice A n c, .int .i64 K] 56)).alloc (.cells #[.int .i64 0, .int .i64 0, .slice none 0 0, .int .i64 0] 56)) := ⟨_, rfl⟩
  rw [← hw1] at hB h1 B1 B2
  obtain ⟨r, hr⟩ : ∃ r, nf 0 M n xs K = r := ⟨_, rfl⟩
  obtain ⟨G, hG⟩ : ∃ G, gcdA 0 xs = G := ⟨_, rfl⟩
  have HR := Lib.hid (show ∀ W : World, IntsAt W A n xs → Calls Tryz.prog 149 #[shapeV 0 M A n c K (G : Nat)] W fun e w' => NfRet W e w' r from fun W h => by rw [← hG, ← hr]; exact rule_ge M A n c K xs hK hx W h)
  have HD := Lib.hid (show ∀ W : World, IntsAt W A n xs → Calls Tryz.prog 128 #[.int .i64 0, .slice A n c] W fun e w' => e = .returned (.int .i64 (G : Nat)) ∧ Below W.heap.size W w' from fun W h => (wide_divisor 0 ⟨by decide, by decide⟩ A n c xs hx W h).mono (by rintro e w' ⟨rfl, kk, rfl⟩; exact ⟨by rw [← hG]; rfl, below_of_drewN kk⟩))
  rw [hr]
  have c0 := B1.c0
  have c1 := B1.c1
  have c2 := B1.c2
  have c3 := B1.c3
  have l1 := B1.lt
  have l2 := B2.lt
  have n1 : w.heap.size ≠ w.heap.size + 1 := by omega
  have x0 : ∀ w : World, (Instr.index 139 (.agg #[fnV 149, fnV 150, fnV 151]) (.int .i64 0)).run Tryz.prog w = .ok (fnV 149) w := fun _ => rfl
  replace hB := hB.drew
  replace h1 := h1.step (Below.refl _ w1).drew
  replace B1 := B1.step (Below.refl _ w1).drew
  replace B2 := B2.step (Below.refl _ w1).drew
  clear hI hr hG hx hK
  go_enter Tryz.func100, Tryz.ntmps100
  go_wp2
  rw [← hw1]
  clear hw1
  go_region_held3 (fun W => W.cell? ⟨w.heap.size, 0, none⟩ = some (.int .i64 0) ∧ W.cell? ⟨w.heap.size, 1, none⟩ = some (.int .i64 M) ∧ W.cell? ⟨w.heap.size, 2, none⟩ = some (.slice A n c) ∧ W.cell? ⟨w.heap.size, 3, none⟩ = some (.int .i64 K)) (first | exact ⟨k0, k1, k2, k3⟩ | exact ⟨c0, c1, c2, c3⟩ | go_keep)
    (first
      | (go_at_call 127; refine (wide_rules _).mono ?_; rintro e w2 ⟨rfl, hb2⟩; replace hB := below_step hB hb2; replace h1 := h1.step hb2; replace B1 := B1.step hb2; replace B2 := B2.step hb2; have k0 := B1.c0; have k1 := B1.c1; have k2 := B1.c2; have k3 := B1.c3)
      | (go_at_call 128; refine (HD.out _ h1).mono ?_; rintro e w2 ⟨rfl, hb2⟩; replace hB := below_step hB hb2; replace h1 := h1.step hb2; replace B1 := B1.step hb2; replace B2 := B2.step hb2; have k0 := B1.c0; have k1 := B1.c1; have k2 := B1.c2; have k3 := B1.c3)
      | (go_at_call 149; refine (HR.out _ h1).mono ?_; rintro e w4 ⟨A4, n4, c4, rfl, I4, hb4, O4⟩; have l4 := B2.lt; replace hB := below_step hB hb4; replace B1 := B1.step hb4; replace B2 := B2.step hb4; have k0 := B1.c0; have k1 := B1.c1; have k2 := B1.c2; have k3 := B1.c3; have d0 := B2.c0; have d1 := B2.c1; have d2 := B2.c2; have d3 := B2.c3; have f0 := B2.f 0; have f1 := B2.f 1; have f2 := B2.f 2; have f3 := B2.f 3))
  all_goals
    obtain ⟨e0, e1, e2, e3⟩ := B2.four r.1 r.2.1 A4 n4 c4 r.2.2.2.1
    go_wp2
    refine bodyPost_ret (v := .tuple #[condV r.1 r.2.1 A4 n4 c4 r.2.2.2.1, .int .i64 r.2.2.2.2]) (by simp [results, Tryz.results100, go_sem, e0, e1, e2, e3]) rfl ?_
    exact condRet_into I4 O4 hB (by omega) l4 _ _ _ _
end Go.Proofs.YtkgnlloioaobiaaGreat
namespace Go.Proofs.YtkgnlloioaobiaaGreat
open Go.RowKit
set_option maxHeartbeats 4000000 in
theorem wide_normal_eq (M : Int) (A : Option Addr) (n c : Nat) (K : Int) (xs : List Int) (hK : -4611686018427387904 ≤ K ∧ K ≤ 4611686018427387904) (hx : ∀ x ∈ xs, -4611686018427387904 ≤ x ∧ x ≤ 4611686018427387904) (w : World) (hI : IntsAt w A n xs) :
    Calls Tryz.prog 100 #[condV 1 M A n c K] w fun e w' => NfRet w e w' (nf 1 M n xs K) := by
  have hB := below_step (below_alloc w (.cells #[.int .i64 1, .int .i64 M, .slice A n c, .int .i64 K] 56)) (below_alloc _ (.cells #[.int .i64 0, .int .i64 0, .slice none 0 0, .int .i64 0] 56))
  have h1 := hI.step hB
  have B1 := (CBox.new w 1 M A n c K).step (below_alloc _ (.cells #[.int .i64 0, .int .i64 0, .slice none 0 0, .int .i64 0] 56))
  have B2 := CBox.new (w.alloc (.cells #[.int .i64 1, .int .i64 M, .slice A n c, .int .i64 K] 56)) 0 0 none 0 0 0
  rw [World.size_alloc] at B2
  obtain ⟨w1, hw1⟩ : ∃ w1, w1 = ((w.alloc (.cells #[.int .i64 1, .int .i64 M, .slice A n c, .int .i64 K] 56)).alloc (.cells #[.int .i64 0, .int .i64 0, .slice none 0 0, .int .i64 0] 56)) := ⟨_, rfl⟩
  rw [← hw1] at hB h1 B1 B2
  obtain ⟨r, hr⟩ : ∃ r, nf 1 M n xs K = r := ⟨_, rfl⟩
  obtain ⟨G, hG⟩ : ∃ G, gcdA 0 xs = G := ⟨_, rfl⟩
  have HR := Lib.hid (show ∀ W : World, IntsAt W A n xs → Calls Tryz.prog 150 #[shapeV 1 M A n c K (G : Nat)] W fun e w' => NfRet W e w' r from fun W h => by rw [← hG, ← hr]; exact rule_eq M A n c K xs hK hx W h)
  have HD := Lib.hid (show ∀ W : World, IntsAt W A n xs → Calls Tryz.prog 128 #[.int .i64 0, .slice A n c] W fun e w' => e = .returned (.int .i64 (G : Nat)) ∧ Below W.heap.size W w' from fun W h => (wide_divisor 0 ⟨by decide, by decide⟩ A n c xs hx W h).mono (by rintro e w' ⟨rfl, kk, rfl⟩; exact ⟨by rw [← hG]; rfl, below_of_drewN kk⟩))
  rw [hr]
  have c0 := B1.c0
  have c1 := B1.c1
  have c2 := B1.c2
  have c3 := B1.c3
  have l1 := B1.lt
  have l2 := B2.lt
  have n1 : w.heap.size ≠ w.heap.size + 1 := by omega
  have x0 : ∀ w : World, (Instr.index 139 (.agg #[fnV 149, fnV 150, fnV 151]) (.int .i64 1)).run Tryz.prog w = .ok (fnV 150) w := fun _ => rfl
  replace hB := hB.drew
  replace h1 := h1.step (Below.refl _ w1).drew
  replace B1 := B1.step (Below.refl _ w1).drew
  replace B2 := B2.step (Below.refl _ w1).drew
  clear hI hr hG hx hK
  go_enter Tryz.func100, Tryz.ntmps100
  go_wp2
  rw [← hw1]
  clear hw1
  go_region_held3 (fun W => W.cell? ⟨w.heap.size, 0, none⟩ = some (.int .i64 1) ∧ W.cell? ⟨w.heap.size, 1, none⟩ = some (.int .i64 M) ∧ W.cell? ⟨w.heap.size, 2, none⟩ = some (.slice A n c) ∧ W.cell? ⟨w.heap.size, 3, none⟩ = some (.int .i64 K)) (first | exact ⟨k0, k1, k2, k3⟩ | exact ⟨c0, c1, c2, c3⟩ | go_keep)
    (first
      | (go_at_call 127; refine (wide_rules _).mono ?_; rintro e w2 ⟨rfl, hb2⟩; replace hB := below_step hB hb2; replace h1 := h1.step hb2; replace B1 := B1.step hb2; replace B2 := B2.step hb2; have k0 := B1.c0; have k1 := B1.c1; have k2 := B1.c2; have k3 := B1.c3)
      | (go_at_call 128; refine (HD.out _ h1).mono ?_; rintro e w2 ⟨rfl, hb2⟩; replace hB := below_step hB hb2; replace h1 := h1.step hb2; replace B1 := B1.step hb2; replace B2 := B2.step hb2; have k0 := B1.c0; have k1 := B1.c1; have k2 := B1.c2; have k3 := B1.c3)
      | (go_at_call 150; refine (HR.out _ h1).mono ?_; rintro e w4 ⟨A4, n4, c4, rfl, I4, hb4, O4⟩; have l4 := B2.lt; replace hB := below_step hB hb4; replace B1 := B1.step hb4; replace B2 := B2.step hb4; have k0 := B1.c0; have k1 := B1.c1; have k2 := B1.c2; have k3 := B1.c3; have d0 := B2.c0; have d1 := B2.c1; have d2 := B2.c2; have d3 := B2.c3; have f0 := B2.f 0; have f1 := B2.f 1; have f2 := B2.f 2; have f3 := B2.f 3))
  all_goals
    obtain ⟨e0, e1, e2, e3⟩ := B2.four r.1 r.2.1 A4 n4 c4 r.2.2.2.1
    go_wp2
    refine bodyPost_ret (v := .tuple #[condV r.1 r.2.1 A4 n4 c4 r.2.2.2.1, .int .i64 r.2.2.2.2]) (by simp [results, Tryz.results100, go_sem, e0, e1, e2, e3]) rfl ?_
    exact condRet_into I4 O4 hB (by omega) l4 _ _ _ _
end Go.Proofs.YtkgnlloioaobiaaGreat
namespace Go.Proofs.YtkgnlloioaobiaaGreat
open Go.RowKit
set_option maxHeartbeats 4000000 in
theorem wide_normal_dv (M : Int) (A : Option Addr) (n c : Nat) (K : Int) (xs : List Int) (hM : 1 ≤ M ∧ M ≤ 512) (hK : -4611686018427387904 ≤ K ∧ K ≤ 4611686018427387904) (hx : ∀ x ∈ xs, -4611686018427387904 ≤ x ∧ x ≤ 4611686018427387904) (w : World) (hI : IntsAt w A n xs) :
    Calls Tryz.prog 100 #[condV 2 M A n c K] w fun e w' => NfRet w e w' (nf 2 M n xs K) := by
  have hB := below_step (below_alloc w (.cells #[.int .i64 2, .int .i64 M, .slice A n c, .int .i64 K] 56)) (below_alloc _ (.cells #[.int .i64 0, .int .i64 0, .slice none 0 0, .int .i64 0] 56))
  have h1 := hI.step hB
  have B1 := (CBox.new w 2 M A n c K).step (below_alloc _ (.cells #[.int .i64 0, .int .i64 0, .slice none 0 0, .int .i64 0] 56))
  have B2 := CBox.new (w.alloc (.cells #[.int .i64 2, .int .i64 M, .slice A n c, .int .i64 K] 56)) 0 0 none 0 0 0
  rw [World.size_alloc] at B2
  obtain ⟨w1, hw1⟩ : ∃ w1, w1 = ((w.alloc (.cells #[.int .i64 2, .int .i64 M, .slice A n c, .int .i64 K] 56)).alloc (.cells #[.int .i64 0, .int .i64 0, .slice none 0 0, .int .i64 0] 56)) := ⟨_, rfl⟩
  rw [← hw1] at hB h1 B1 B2
  obtain ⟨r, hr⟩ : ∃ r, nf 2 M n xs K = r := ⟨_, rfl⟩
  obtain ⟨G, hG⟩ : ∃ G, gcdA 0 xs = G := ⟨_, rfl⟩
  have HR := Lib.hid (show ∀ W : World, IntsAt W A n xs → Calls Tryz.prog 151 #[shapeV 2 M A n c K (G : Nat)] W fun e w' => NfRet W e w' r from fun W h => by rw [← hr]; exact rule_div M A n c K xs hK hx W h _ hM)
  have HD := Lib.hid (show ∀ W : World, IntsAt W A n xs → Calls Tryz.prog 128 #[.int .i64 0, .slice A n c] W fun e w' => e = .returned (.int .i64 (G : Nat)) ∧ Below W.heap.size W w' from fun W h => (wide_divisor 0 ⟨by decide, by decide⟩ A n c xs hx W h).mono (by rintro e w' ⟨rfl, kk, rfl⟩; exact ⟨by rw [← hG]; rfl, below_of_drewN kk⟩))
  rw [hr]
  have c0 := B1.c0
  have c1 := B1.c1
  have c2 := B1.c2
  have c3 := B1.c3
  have l1 := B1.lt
  have l2 := B2.lt
  have n1 : w.heap.size ≠ w.heap.size + 1 := by omega
  have x0 : ∀ w : World, (Instr.index 139 (.agg #[fnV 149, fnV 150, fnV 151]) (.int .i64 2)).run Tryz.prog w = .ok (fnV 151) w := fun _ => rfl
  replace hB := hB.drew
  replace h1 := h1.step (Below.refl _ w1).drew
  replace B1 := B1.step (Below.refl _ w1).drew
  replace B2 := B2.step (Below.refl _ w1).drew
  clear hI hr hG hx hK
  go_enter Tryz.func100, Tryz.ntmps100
  go_wp2
  rw [← hw1]
  clear hw1
  go_region_held3 (fun W => W.cell? ⟨w.heap.size, 0, none⟩ = some (.int .i64 2) ∧ W.cell? ⟨w.heap.size, 1, none⟩ = some (.int .i64 M) ∧ W.cell? ⟨w.heap.size, 2, none⟩ = some (.slice A n c) ∧ W.cell? ⟨w.heap.size, 3, none⟩ = some (.int .i64 K)) (first | exact ⟨k0, k1, k2, k3⟩ | exact ⟨c0, c1, c2, c3⟩ | go_keep)
    (first
      | (go_at_call 127; refine (wide_rules _).mono ?_; rintro e w2 ⟨rfl, hb2⟩; replace hB := below_step hB hb2; replace h1 := h1.step hb2; replace B1 := B1.step hb2; replace B2 := B2.step hb2; have k0 := B1.c0; have k1 := B1.c1; have k2 := B1.c2; have k3 := B1.c3)
      | (go_at_call 128; refine (HD.out _ h1).mono ?_; rintro e w2 ⟨rfl, hb2⟩; replace hB := below_step hB hb2; replace h1 := h1.step hb2; replace B1 := B1.step hb2; replace B2 := B2.step hb2; have k0 := B1.c0; have k1 := B1.c1; have k2 := B1.c2; have k3 := B1.c3)
      | (go_at_call 151; refine (HR.out _ h1).mono ?_; rintro e w4 ⟨A4, n4, c4, rfl, I4, hb4, O4⟩; have l4 := B2.lt; replace hB := below_step hB hb4; replace B1 := B1.step hb4; replace B2 := B2.step hb4; have k0 := B1.c0; have k1 := B1.c1; have k2 := B1.c2; have k3 := B1.c3; have d0 := B2.c0; have d1 := B2.c1; have d2 := B2.c2; have d3 := B2.c3; have f0 := B2.f 0; have f1 := B2.f 1; have f2 := B2.f 2; have f3 := B2.f 3))
  all_goals
    obtain ⟨e0, e1, e2, e3⟩ := B2.four r.1 r.2.1 A4 n4 c4 r.2.2.2.1
    go_wp2
    refine bodyPost_ret (v := .tuple #[condV r.1 r.2.1 A4 n4 c4 r.2.2.2.1, .int .i64 r.2.2.2.2]) (by simp [results, Tryz.results100, go_sem, e0, e1, e2, e3]) rfl ?_
    exact condRet_into I4 O4 hB (by omega) l4 _ _ _ _
end Go.Proofs.YtkgnlloioaobiaaGreat
namespace Go.Proofs.YtkgnlloioaobiaaGreat
open Go.RowKit
def KindOk (q M : Int) : Prop := q = 0 ∨ q = 1 ∨ (q = 2 ∧ 1 ≤ M ∧ M ≤ 512)
theorem wide_normal (q M : Int) (A : Option Addr) (n c : Nat) (K : Int) (xs : List Int) (hq : KindOk q M) (hK : -4611686018427387904 ≤ K ∧ K ≤ 4611686018427387904) (hx : ∀ x ∈ xs, -4611686018427387904 ≤ x ∧ x ≤ 4611686018427387904) (w : World) (hI : IntsAt w A n xs) :
    Calls Tryz.prog 100 #[condV q M A n c K] w fun e w' => NfRet w e w' (nf q M n xs K) := by
  rcases hq with rfl | rfl | ⟨rfl, hM⟩
  · exact wide_normal_ge M A n c K xs hK hx w hI
  · exact wide_normal_eq M A n c K xs hK hx w hI
  · exact wide_normal_dv M A n c K xs hM hK hx w hI
theorem validC_ok {q M : Int} {xs : List Int} {K : Int} (h : validC q M xs K = true) : KindOk q M := by
  rcases (validC_kind h).2 with ⟨h, _⟩ | ⟨h, _⟩ | h
  · exact .inl h
  · exact .inr (.inl h)
  · exact .inr (.inr h)
section
variable {w : World} {b : Nat} {q M : Int} {A : Option Addr} {n c : Nat} {K : Int}
theorem CBox.s0 (h : CBox w b q M A n c K) (v : Int) : CBox (w.setCell ⟨b, 0, none⟩ (.int .i64 v)) b v M A n c K := by
  unfold CBox at *; show (Array.modify _ b _)[b]? = _; rw [Array.getElem?_modify, if_pos rfl, h]; rfl
theorem CBox.s1 (h : CBox w b q M A n c K) (v : Int) : CBox (w.setCell ⟨b, 1, none⟩ (.int .i64 v)) b q v A n c K := by
  unfold CBox at *; show (Array.modify _ b _)[b]? = _; rw [Array.getElem?_modify, if_pos rfl, h]; rfl
theorem CBox.s2 (h : CBox w b q M A n c K) (A' : Option Addr) (n' c' : Nat) : CBox (w.setCell ⟨b, 2, none⟩ (.slice A' n' c')) b q M A' n' c' K := by
  unfold CBox at *; show (Array.modify _ b _)[b]? = _; rw [Array.getElem?_modify, if_pos rfl, h]; rfl
theorem CBox.s3 (h : CBox w b q M A n c K) (v : Int) : CBox (w.setCell ⟨b, 3, none⟩ (.int .i64 v)) b q M A n c v := by
  unfold CBox at *; show (Array.modify _ b _)[b]? = _; rw [Array.getElem?_modify, if_pos rfl, h]; rfl
end
end Go.Proofs.YtkgnlloioaobiaaGreat
namespace Go.Proofs.YtkgnlloioaobiaaGreat
open Go.RowKit
section
variable {P : Program} {ops : Array Oper} {Q : Exit → Act → World → Prop}
def tied (ops : Array Oper) (i j : Nat) : Bool := match ops[i]? with | some o => o.after.any (fun e => e.on == j && Region.binds .any e) | none => false
def early (ops : Array Oper) : Bool := (List.range ops.size).all fun i => match ops[i]? with | some o => o.after.all (fun e => !Region.binds .any e || decide (e.on < i)) | none => true
theorem ready_of {listed : Array Bool} {i : Nat} (h : i ∈ Region.ready .any ops listed) :
    i < ops.size ∧ listed.getD i true = false ∧ ∀ j, tied ops i j = true → listed.getD j false = true := by
  unfold Region.ready at h
  simp only [List.mem_filter, List.mem_range, Bool.and_eq_true, Bool.not_eq_true'] at h
  refine ⟨h.1, h.2.1, fun j hj => ?_⟩
  have h2 := h.2.2
  unfold tied at hj
  cases ho : ops[i]? with
  | none => rw [ho] at hj; cases hj
  | some o =>
    rw [ho] at hj h2
    simp only [Option.map_some, Option.getD_some] at h2
    simp only at hj
    rw [Array.any_eq_true] at hj
    rw [Array.all_eq_true] at h2
    obtain ⟨k, hk, hb⟩ := hj
    have := h2 k hk
    simp only [Bool.and_eq_true, beq_iff_eq] at hb
    rw [hb.2, hb.1] at this
    simpa using this
theorem ready_all (he : early ops = true) {listed : Array Bool} (hs : listed.size = ops.size) (hr : Region.ready .any ops listed = []) : ∀ i, i < ops.size → listed.getD i false = true := by
  intro i
  induction i using Nat.strongRecOn with
  | _ i ih =>
    intro hi
    have hnot : i ∉ Region.ready .any ops listed := by rw [hr]; simp
    unfold Region.ready at hnot
    simp only [List.mem_filter, List.mem_range, Bool.and_eq_true, Bool.not_eq_true'] at hnot
    have hl : i < listed.size := by omega
    cases hb : listed.getD i false with
    | true => rfl
    | false =>
      exfalso
      apply hnot
      have hb2 : listed.getD i true = false := by
        simp only [Array.getD_eq_getD_getElem?, Array.getElem?_eq_getElem hl, Option.getD_some] at hb ⊢; exact hb
      refine ⟨hi, hb2, ?_⟩
      rw [Array.getElem?_eq_getElem hi]
      simp only [Option.map_some, Option.getD_some]
      rw [Array.all_eq_true]
      intro k hk
      have hea : (!Region.binds .any (ops[i]).after[k] || decide ((ops[i]).after[k].on < i)) = true := by
        unfold early at he
        rw [List.all_eq_true] at he
        have h1 := he i (List.mem_range.2 hi)
        rw [Array.getElem?_eq_getElem hi] at h1
        simp only at h1
        rw [Array.all_eq_true] at h1
        exact h1 k hk
      cases hbd : Region.binds .any (ops[i]).after[k] with
      | false => rfl
      | true =>
        rw [hbd] at hea
        have hlt : (ops[i]).after[k].on < i := by simpa using hea
        have := ih _ hlt (by omega)
        rw [this]; rfl
theorem none_listed (n j : Nat) : (Array.replicate n false).getD j false = false := by
  simp only [Array.getD_eq_getD_getElem?, Array.getElem?_replicate]
  split <;> rfl
def left (listed : Array Bool) : Nat := (listed.toList.filter (fun b => !b)).length
end
structure Fact (B : Nat) where
  holds : Value → World → Prop
  foot : Value → World → Nat → Prop
  stay : ∀ {v : Value} {w w' : World} {row : Option Nat}, holds v w → w.grownBy w' row → (∀ b, foot v w b → row ≠ some b) → holds v w' ∧ ∀ b, foot v w' b → foot v w b
  lt : ∀ {v : Value} {w : World} {b : Nat}, holds v w → foot v w b → B ≤ b ∧ b < w.heap.size
structure Plan where
  slots : List Nat
  kill : List (List Nat)
  need : List (List Nat)
def Plan.slot (p : Plan) (i : Nat) : Nat := p.slots.getD i 0
def Plan.kills (p : Plan) (i : Nat) : List Nat := p.kill.getD i []
def Plan.needs (p : Plan) (i : Nat) : List Nat := p.need.getD i []
def dstOf (ops : Array Oper) (i : Nat) : Option Nat := match ops[i]? with | some o => o.dst | none => none
def Plan.fits (p : Plan) (ops : Array Oper) (sz : Nat) : Bool :=
  early ops && (List.range ops.size).all fun i =>
    (match ops[i]? with | some o => (o.dst == none || o.dst == some (p.slot i)) && o.guard.isNone | none => false) && decide (p.slot i < sz) &&
    (List.range ops.size).all (fun j => i == j || dstOf ops i != some (p.slot j) || tied ops j i) &&
    (p.needs i).all (fun j => decide (j < ops.size) && tied ops i j && (List.range ops.size).all fun i' => (!(p.kills i').contains j) || i' == i) &&
    (p.kills i).all (fun j => (p.needs i).contains j)
section
variable {P : Program} {ops : Array Oper} {Q : Exit → Act → World → Prop} {B : Nat}
def Step (fact : Nat → Fact B) (p : Plan) (S : World → Prop) (i : Nat) (o : Oper) (a : Act) (w : World) : Act → World → Prop := fun a' w' =>
  ∃ v row, a' = a.put o.dst v ∧ S w' ∧ (fact i).holds (a'.tmps.getD (p.slot i) undef) w' ∧ w.grownBy w' row ∧
    (∀ b, row = some b → ∃ j, j ∈ p.kills i ∧ (fact j).foot (a.tmps.getD (p.slot j) undef) w b) ∧
    (∀ b, (fact i).foot (a'.tmps.getD (p.slot i) undef) w' b → w.heap.size ≤ b ∨ ∃ j, j ∈ p.kills i ∧ (fact j).foot (a.tmps.getD (p.slot j) undef) w b)
def Live (ops : Array Oper) (p : Plan) (listed : Array Bool) (j : Nat) : Prop :=
  j < ops.size ∧ listed.getD j false = true ∧ ∀ i, i < ops.size → j ∈ p.kills i → listed.getD i false = false
structure RegInv (ops : Array Oper) (fact : Nat → Fact B) (p : Plan) (S : World → Prop) (a0 : Act) (listed : Array Bool) (a : Act) (w : World) : Prop where
  size : listed.size = ops.size
  base : S w
  len : a.tmps.size = a0.tmps.size
  defs : a.defers = a0.defers
  old : ∀ k, (∀ i, i < ops.size → p.slot i ≠ k) → a.tmps[k]? = a0.tmps[k]?
  order : ∀ j i, j < ops.size → listed.getD j false = true → tied ops j i = true → listed.getD i false = true
  facts : ∀ j, Live ops p listed j → (fact j).holds (a.tmps.getD (p.slot j) undef) w
  apart : ∀ j k b, j ≠ k → Live ops p listed j → Live ops p listed k → (fact j).foot (a.tmps.getD (p.slot j) undef) w b → (fact k).foot (a.tmps.getD (p.slot k) undef) w b → False
variable {fact : Nat → Fact B} {p : Plan} {S : World → Prop} {a0 : Act}
theorem listed_set {listed : Array Bool} {i : Nat} (hi : i < listed.size) (k : Nat) : (listed.setIfInBounds i true).getD k false = if i = k then true else listed.getD k false := by
  simp only [Array.getD_eq_getD_getElem?]
  by_cases h : i = k
  · subst h; simp [hi]
  · simp [h]
theorem tmps_other {a : Act} {dst : Option Nat} {v : Value} {k : Nat} (h : dst ≠ some k) : (a.put dst v).tmps[k]? = a.tmps[k]? := by
  cases dst with
  | none => rfl
  | some d => exact Array.getElem?_setIfInBounds_ne (fun e => h (by rw [e]))
theorem put_len (a : Act) (dst : Option Nat) (v : Value) : (a.put dst v).tmps.size = a.tmps.size := by
  cases dst <;> simp [Act.put]
theorem put_defs (a : Act) (dst : Option Nat) (v : Value) : (a.put dst v).defers = a.defers := by
  cases dst <;> rfl
theorem RegInv.step {listed : Array Bool} {a : Act} {w : World} {i : Nat} {o : Oper} (h : RegInv ops fact p S a0 listed a w) (hi : i < ops.size) (ho : o.dst = none ∨ o.dst = some (p.slot i)) (hu : listed.getD i false = false)
    (hother : ∀ j, j < ops.size → j ≠ i → listed.getD j false = true → o.dst ≠ some (p.slot j))
    (hfore : ∀ j, tied ops i j = true → listed.getD j false = true)
    (hk : ∀ j, j ∈ p.kills i → j < ops.size ∧ listed.getD j false = true ∧ ∀ i', i' < ops.size → j ∈ p.kills i' → i' = i)
    {a' : Act} {w' : World} (hst : Step fact p S i o a w a' w') : RegInv ops fact p S a0 (listed.setIfInBounds i true) a' w' := by
  obtain ⟨v, row, rfl, hS, hFi, hg, hrow, hfoot⟩ := hst
  have hil : i < listed.size := by rw [h.size]; exact hi
  have hsame : ∀ j, j < ops.size → j ≠ i → listed.getD j false = true → (a.put o.dst v).tmps.getD (p.slot j) undef = a.tmps.getD (p.slot j) undef := by
    intro j hj hne hl
    simp only [Array.getD_eq_getD_getElem?, tmps_other (hother j hj hne hl)]
  have live : ∀ j, j ∈ p.kills i → j ≠ i ∧ Live ops p listed j := by
    intro j hj
    obtain ⟨h1, h2, h3⟩ := hk j hj
    refine ⟨fun e => (by rw [e, hu] at h2; cases h2), h1, h2, fun i' hi' hk' => (by rw [h3 i' hi' hk']; exact hu)⟩
  have back : ∀ j, j ≠ i → Live ops p (listed.setIfInBounds i true) j → Live ops p listed j ∧ j ∉ p.kills i := by
    rintro j hj ⟨h0, h1, h2⟩
    rw [listed_set hil, if_neg (fun e => hj e.symm)] at h1
    refine ⟨⟨h0, h1, fun i' hi' hk' => ?_⟩, fun e => ?_⟩
    · have := h2 i' hi' hk'
      rw [listed_set hil] at this
      split at this
      · cases this
      · exact this
    · have := h2 i hi e
      rw [listed_set hil, if_pos rfl] at this
      cases this
  have kept : ∀ j, j ≠ i → Live ops p listed j → j ∉ p.kills i → (fact j).holds (a.tmps.getD (p.slot j) undef) w' ∧ ∀ b, (fact j).foot (a.tmps.getD (p.slot j) undef) w' b → (fact j).foot (a.tmps.getD (p.slot j) undef) w b := by
    intro j hne hl hnk
    refine (fact j).stay (h.facts j hl) hg fun b hb hr => ?_
    obtain ⟨j', hj', hf⟩ := hrow b hr
    exact h.apart j j' b (fun e => hnk (e ▸ hj')) hl (live j' hj').2 hb hf
  refine ⟨by simp [h.size], hS, ?_, ?_, ?_, ?_, ?_, ?_⟩
  · rw [put_len]; exact h.len
  · rw [put_defs]; exact h.defs
  · intro k hkk
    rw [tmps_other (fun e => ?_)]
    · exact h.old k hkk
    · rcases ho with e' | e'
      · rw [e'] at e; cases e
      · rw [e'] at e; exact hkk i hi (Option.some.inj e)
  · intro j k hj hl ht
    rw [listed_set hil] at hl ⊢
    split
    · rfl
    · split at hl
      · rename_i e; subst e; exact hfore k ht
      · exact h.order j k hj hl ht
  · intro j hj
    by_cases e : j = i
    · subst e; exact hFi
    · obtain ⟨b1, b2⟩ := back j e hj
      rw [hsame j b1.1 e b1.2.1]
      exact (kept j e b1 b2).1
  · have one : ∀ k b, k ≠ i → Live ops p (listed.setIfInBounds i true) k → (fact i).foot ((a.put o.dst v).tmps.getD (p.slot i) undef) w' b → (fact k).foot ((a.put o.dst v).tmps.getD (p.slot k) undef) w' b → False := by
      intro k b hne hl hb hbk
      obtain ⟨b1, b2⟩ := back k hne hl
      rw [hsame k b1.1 hne b1.2.1] at hbk
      have hbk' := (kept k hne b1 b2).2 b hbk
      rcases hfoot b hb with hge | ⟨j', hj', hf⟩
      · have := ((fact k).lt (h.facts k b1) hbk').2
        omega
      · exact h.apart k j' b (fun e => b2 (e ▸ hj')) b1 (live j' hj').2 hbk' hf
    intro j k b hne hj hk' hfj hfk
    by_cases ej : j = i
    · subst ej
      exact one k b (fun e => hne e.symm) hk' hfj hfk
    · by_cases ek : k = i
      · subst ek
        exact one j b hne hj hfk hfj
      · obtain ⟨b1, b2⟩ := back j ej hj
        obtain ⟨c1, c2⟩ := back k ek hk'
        rw [hsame j b1.1 ej b1.2.1] at hfj
        rw [hsame k c1.1 ek c1.2.1] at hfk
        exact h.apart j k b hne b1 c1 ((kept j ej b1 b2).2 b hfj) ((kept k ek c1 c2).2 b hfk)
theorem left_set {listed : Array Bool} {i : Nat} (hi : i < listed.size) (hu : listed.getD i false = false) : left (listed.setIfInBounds i true) + 1 = left listed := by
  unfold left
  obtain ⟨l⟩ := listed
  simp only [List.size_toArray] at hi
  simp only [Array.getD_eq_getD_getElem?, List.getElem?_toArray] at hu
  simp only [List.setIfInBounds_toArray]
  induction l generalizing i with
  | nil => simp at hi
  | cons b l ih =>
    cases i with
    | zero => simp at hu; subst hu; simp
    | succ i =>
      simp only [List.getElem?_cons_succ] at hu
      have := ih (by simpa using hi) hu
      simp only [List.set_cons_succ, List.filter_cons]
      split <;> simp_all <;> omega
theorem left_zero {listed : Array Bool} (h : left listed = 0) : ∀ i, listed.getD i true = true := by
  intro i
  unfold left at h
  have h' := List.eq_nil_of_length_eq_zero h
  rw [List.filter_eq_nil_iff] at h'
  simp only [Array.getD_eq_getD_getElem?]
  cases e : listed[i]? with
  | none => rfl
  | some b =>
    have hm : b ∈ listed.toList := by
      rw [← Array.getElem?_toList] at e
      exact List.mem_of_getElem? e
    have := h' b hm
    cases b
    · simp at this
    · rfl
theorem wpAny_facts (hd : ∀ i o, ops[i]? = some o → (o.dst = none ∨ o.dst = some (p.slot i)) ∧ o.guard = none)
    (hother : ∀ i j o, ops[i]? = some o → j < ops.size → i ≠ j → o.dst = some (p.slot j) → tied ops j i = true)
    (he : early ops = true)
    (hneed : ∀ i j, i < ops.size → j ∈ p.needs i → j < ops.size ∧ tied ops i j = true ∧ ∀ i', i' < ops.size → j ∈ p.kills i' → i' = i)
    (hkill : ∀ i j, i < ops.size → j ∈ p.kills i → j ∈ p.needs i)
    (hstep : ∀ i o a w, ops[i]? = some o → S w → (∀ k, (∀ i, i < ops.size → p.slot i ≠ k) → a.tmps[k]? = a0.tmps[k]?) → (∀ j, j ∈ p.needs i → (fact j).holds (a.tmps.getD (p.slot j) undef) w) →
      (∀ j k b, j ∈ p.needs i → k ∈ p.needs i → j ≠ k → (fact j).foot (a.tmps.getD (p.slot j) undef) w b → (fact k).foot (a.tmps.getD (p.slot k) undef) w b → False) → a.tmps.size = a0.tmps.size →
      o.wp P a w (Step fact p S i o a w) Q)
    (hend : ∀ a w, S w → a.tmps.size = a0.tmps.size → a.defers = a0.defers → (∀ k, (∀ i, i < ops.size → p.slot i ≠ k) → a.tmps[k]? = a0.tmps[k]?) →
      (∀ j, j < ops.size → (∀ i, i < ops.size → j ∉ p.kills i) → (fact j).holds (a.tmps.getD (p.slot j) undef) w) → Q .normal a w) :
    ∀ (fuel : Nat) (listed : Array Bool) (a : Act) (w : World), left listed = fuel → RegInv ops fact p S a0 listed a w → wpAny P .any ops Q fuel listed a w := by
  intro fuel
  have fin : ∀ (listed : Array Bool) (a : Act) (w : World), Region.ready .any ops listed = [] → RegInv ops fact p S a0 listed a w → Q .normal a w := by
    intro listed a w hr h
    have hall := ready_all he h.size hr
    exact hend a w h.base h.len h.defs h.old fun j hj hnk => h.facts j ⟨hj, hall j hj, fun i hi e => absurd e (hnk i hi)⟩
  induction fuel with
  | zero =>
    intro listed a w hl h
    have hr : Region.ready .any ops listed = [] := by
      unfold Region.ready
      rw [List.filter_eq_nil_iff]
      intro i _
      rw [left_zero hl i]
      simp
    exact ⟨hr, fin listed a w hr h⟩
  | succ fuel ih =>
    intro listed a w hl h
    refine ⟨fun hr => fin listed a w hr h, fun i hi => ?_⟩
    obtain ⟨h1, h2, h3⟩ := ready_of hi
    have hil : i < listed.size := by rw [h.size]; exact h1
    have hu : listed.getD i false = false := by
      simp only [Array.getD_eq_getD_getElem?, Array.getElem?_eq_getElem hil, Option.getD_some] at h2 ⊢; exact h2
    have ho : ops[i]? = some ops[i] := Array.getElem?_eq_getElem h1
    obtain ⟨hdst, hgd⟩ := hd i _ ho
    unfold wpOp
    rw [ho]
    simp only
    have hw : Region.wanted ops[i] (yielded ops a.tmps) = true := by simp [Region.wanted, hgd]
    rw [if_pos hw]
    have hlive : ∀ j, j ∈ p.needs i → Live ops p listed j := fun j hj => by
      obtain ⟨n1, n2, n3⟩ := hneed i j h1 hj
      exact ⟨n1, h3 j n2, fun i' hi' hk' => by rw [n3 i' hi' hk']; exact hu⟩
    refine .inl (Oper.wp_mono (fun a' w' hst => ?_) (hstep i _ a w ho h.base h.old (fun j hj => h.facts j (hlive j hj)) (fun j k b hj hk hne => h.apart j k b hne (hlive j hj) (hlive k hk)) h.len))
    refine ih _ a' w' ?_ (h.step h1 hdst hu (fun j hj hne hjl e => ?_) h3 (fun j hj => ?_) hst)
    · have := left_set hil hu; omega
    · have ht := hother i j _ ho hj (fun e' => hne e'.symm) e
      have := h.order j i hj hjl ht
      rw [hu] at this; cases this
    · obtain ⟨n1, n2, n3⟩ := hneed i j h1 (hkill i j h1 hj)
      exact ⟨n1, h3 j n2, n3⟩
def holdsAll (fact : Nat → Fact B) (p : Plan) (a : Act) (w : World) : List Nat → Prop
  | [] => True
  | j :: l => (fact j).holds (a.tmps.getD (p.slot j) undef) w ∧ holdsAll fact p a w l
theorem holdsAll_of {a : Act} {w : World} : ∀ {l : List Nat}, (∀ j, j ∈ l → (fact j).holds (a.tmps.getD (p.slot j) undef) w) → holdsAll fact p a w l
  | [], _ => trivial
  | j :: l, h => ⟨h j List.mem_cons_self, holdsAll_of fun k hk => h k (List.mem_cons_of_mem _ hk)⟩
def Apart (fact : Nat → Fact B) (p : Plan) (a : Act) (w : World) (i : Nat) : Prop :=
  ∀ j k b, j ∈ p.needs i → k ∈ p.needs i → j ≠ k → (fact j).foot (a.tmps.getD (p.slot j) undef) w b → (fact k).foot (a.tmps.getD (p.slot k) undef) w b → False
def stepsFrom (P : Program) (Q : Exit → Act → World → Prop) (p : Plan) (fact : Nat → Fact B) (S : World → Prop) (a0 : Act) : Nat → List Oper → Prop
  | _, [] => True
  | i, o :: l => (∀ a w, S w → (∀ k, p.slots.contains k = false → a.tmps.getD k undef = a0.tmps.getD k undef) → holdsAll fact p a w (p.needs i) → Apart fact p a w i → a.tmps.size = a0.tmps.size →
      o.wp P a w (Step fact p S i o a w) Q) ∧ stepsFrom P Q p fact S a0 (i + 1) l
theorem stepsFrom_at : ∀ {l : List Oper} {n : Nat}, stepsFrom P Q p fact S a0 n l → ∀ {i : Nat} {o : Oper}, l[i]? = some o →
    ∀ a w, S w → (∀ k, p.slots.contains k = false → a.tmps.getD k undef = a0.tmps.getD k undef) → holdsAll fact p a w (p.needs (n + i)) → Apart fact p a w (n + i) → a.tmps.size = a0.tmps.size →
      o.wp P a w (Step fact p S (n + i) o a w) Q
  | [], _, _, i, o, ho => by simp at ho
  | x :: l, n, h, i, o, ho => by
    cases i with
    | zero => simp at ho; subst ho; exact h.1
    | succ i =>
      simp only [List.getElem?_cons_succ] at ho
      have := stepsFrom_at h.2 ho
      rwa [show n + 1 + i = n + (i + 1) by omega] at this
theorem wp_region_plan {id : Nat} {w : World} (hm : P.follows .mixedOrders = true) (p : Plan) (fact : Nat → Fact B) (S : World → Prop)
    (hc : p.fits ops a0.tmps.size = true) (hslots : p.slots.length = ops.size) (h0 : S w.drew) (hstep : stepsFrom P Q p fact S a0 0 ops.toList)
    (hend : ∀ a w, S w → a.tmps.size = a0.tmps.size → a.defers = a0.defers → (∀ k, p.slots.contains k = false → a.tmps.getD k undef = a0.tmps.getD k undef) → (∀ j, j < ops.size → (∀ i, i < ops.size → j ∉ p.kills i) → (fact j).holds (a.tmps.getD (p.slot j) undef) w) → Q .normal a w) :
    (Code.region id ops true).wp P Q a0 w := by
  unfold Plan.fits at hc
  rw [Bool.and_eq_true, List.all_eq_true] at hc
  obtain ⟨he, hc⟩ := hc
  have hc' : ∀ i, i < ops.size → _ := fun i hi => hc i (List.mem_range.2 hi)
  simp only [Bool.and_eq_true, decide_eq_true_eq, List.all_eq_true, List.mem_range, Bool.or_eq_true, beq_iff_eq, bne_iff_ne, ne_eq, Bool.not_eq_true', List.contains_eq_mem, decide_eq_false_iff_not] at hc'
  have other : ∀ k, p.slots.contains k = false → ∀ i, i < ops.size → p.slot i ≠ k := by
    intro k hk i hi e
    have hm : k ∈ p.slots := by
      rw [← e]
      unfold Plan.slot
      have hi' : i < p.slots.length := by omega
      rw [List.getD_eq_getElem?_getD, List.getElem?_eq_getElem hi']
      exact List.getElem_mem hi'
    rw [List.contains_eq_mem] at hk
    simp [hm] at hk
  have toGetD : ∀ {a : Act}, (∀ k, (∀ i, i < ops.size → p.slot i ≠ k) → a.tmps[k]? = a0.tmps[k]?) → ∀ k, p.slots.contains k = false → a.tmps.getD k undef = a0.tmps.getD k undef := by
    intro a h k hk
    simp only [Array.getD_eq_getD_getElem?, h k (other k hk)]
  refine wp_region_any hm (wpAny_facts (fact := fact) (p := p) (S := S) (a0 := a0) ?_ ?_ he ?_ ?_ ?_ ?_ ops.size _ a0 _ ?_ ⟨by simp, h0, rfl, rfl, fun _ _ => rfl, ?_, ?_, ?_⟩)
  · intro i o ho
    have hi : i < ops.size := (Array.getElem?_eq_some_iff.1 ho).1
    have := (hc' i hi).1.1.1.1
    rw [ho] at this
    simp only [Bool.and_eq_true, Bool.or_eq_true, beq_iff_eq, Option.isNone_iff_eq_none] at this
    exact this
  · intro i j o ho hj hne e
    have hi : i < ops.size := (Array.getElem?_eq_some_iff.1 ho).1
    rcases (hc' i hi).1.1.2 j hj with (h | h) | h
    · exact absurd h hne
    · exfalso; apply h; unfold dstOf; rw [ho]; exact e
    · exact h
  · intro i j hi hj
    obtain ⟨⟨h1, h2⟩, h3⟩ := (hc' i hi).1.2 j hj
    refine ⟨h1, h2, fun i' hi' hk => ?_⟩
    rcases h3 i' hi' with h | h
    · exact absurd hk h
    · exact h
  · intro i j hi hj
    exact (hc' i hi).2 j hj
  · intro i o a w ho hS hold hn hap hsz
    have := stepsFrom_at hstep (i := i) (o := o) (by simpa using ho) a w hS (toGetD hold) (by rw [Nat.zero_add]; exact holdsAll_of hn) (by rw [Nat.zero_add]; exact hap) hsz
    rwa [Nat.zero_add] at this
  · intro a w hS hsz hdf hold hf
    exact hend a w hS hsz hdf (toGetD hold) hf
  · unfold left
    simp
  · intro j i hj hl
    rw [none_listed] at hl; cases hl
  · rintro j ⟨hj, hl, _⟩
    rw [none_listed] at hl; cases hl
  · rintro j k b _ ⟨hj, hl, _⟩
    rw [none_listed] at hl; cases hl
end
def Fact.own {B : Nat} (t : TypeId) (n : Nat) (xs : List Value) : Fact B where
  holds v w := w.ownsRow B t 1 v n xs
  foot v _ b := v.ownBlock = some b
  stay := fun {v w w' row} h hg hr => ⟨World.ownsRow.kept h hg (by
    cases e : v.ownBlock with
    | none => exact .inl rfl
    | some b => exact .inr fun e' => hr b e e'.symm), fun b hb => hb⟩
  lt := fun h hb => World.ownsRow.lt h _ hb
def Fact.val {B : Nat} (u : Value) : Fact B where
  holds v _ := v = u
  foot _ _ _ := False
  stay := fun h _ _ => ⟨h, fun _ hb => hb⟩
  lt := fun _ hb => hb.elim
def Fact.any {B : Nat} : Fact B where
  holds _ _ := True
  foot _ _ _ := False
  stay := fun h _ _ => ⟨h, fun _ hb => hb⟩
  lt := fun _ hb => hb.elim
def Fact.box {B : Nat} (t : TypeId) (cs : Array Value) : Fact B where
  holds v w := ∃ b, v = .pointer (some ⟨b, 0, none⟩) ∧ B ≤ b ∧ w.heap[b]? = some (.cells cs t (0, 0))
  foot v _ b := v = .pointer (some ⟨b, 0, none⟩)
  stay := fun {v w w' row} h hg hr => by
    obtain ⟨b, rfl, hb, hc⟩ := h
    refine ⟨⟨b, rfl, hb, (hg.block b (Array.getElem?_eq_some_iff.1 hc).1 fun e => hr b rfl e.symm).trans hc⟩, fun b hb => hb⟩
  lt := fun {v w b} h hb => by
    obtain ⟨b', rfl, hb', hc⟩ := h
    cases hb
    exact ⟨hb', (Array.getElem?_eq_some_iff.1 hc).1⟩
theorem own_slice {w : World} {B n m : Nat} {t : TypeId} {v : Value} {xs : List Value} (h : w.ownsRow B t m v n xs) : ∃ A c, v = .slice A n c := by
  rcases h.2 with ⟨rfl, rfl⟩ | ⟨g, cap, cur, rfl, _⟩
  · exact ⟨none, 0, rfl⟩
  · exact ⟨_, _, rfl⟩
theorem grown_same (w : World) : w.grownBy w none := ⟨rfl, rfl, rfl, Nat.le_refl _, fun _ _ _ => rfl⟩
theorem put_slot {a : Act} {o : Oper} {v : Value} {k : Nat} (ho : o.dst = some k) (hk : k < a.tmps.size) : (a.put o.dst v).tmps.getD k undef = v := by
  rw [ho]
  show (a.tmps.setIfInBounds k v).getD k undef = v
  simp only [Array.getD_eq_getD_getElem?]
  simp [hk]
section
variable {P : Program} {Q : Exit → Act → World → Prop} {B : Nat} {S : World → Prop} {p : Plan} {i : Nat} {o : Oper} {a : Act} {w : World} {fact : Nat → Fact B} {t : TypeId}
theorem step_val {u : Value} (hf : fact i = .val u) (hd : o.dst = some (p.slot i)) (hs : p.slot i < a.tmps.size) (hx : (execOp a.eval o).run P w = .ok (.value u) w) (hS : S w) :
    o.wp P a w (Step fact p S i o a w) Q := by
  unfold Oper.wp
  rw [hx, Oper.upon_value]
  refine ⟨u, none, rfl, hS, ?_, grown_same w, fun b h => (by cases h), fun b h => ?_⟩
  · rw [hf, put_slot hd hs]; rfl
  · rw [hf] at h; exact h.elim
theorem step_lit {cs : Array Value} {n : Nat} (hf : fact i = .own t n cs.toList) (hd : o.dst = some (p.slot i)) (hs : p.slot i < a.tmps.size) (hn : cs.size = n) (hm : n ≤ maxLen) (hB : B ≤ w.heap.size) (hx : (execOp a.eval o).run P w = .ok (.value (.slice (some ⟨w.heap.size, 0, none⟩) n n)) (w.alloc (.cells cs t))) (hS : S (w.alloc (.cells cs t))) :
    o.wp P a w (Step fact p S i o a w) Q := by
  unfold Oper.wp
  rw [hx, Oper.upon_value]
  refine ⟨_, none, rfl, hS, ?_, World.grownBy_alloc w _ none, fun b h => (by cases h), fun b h => ?_⟩
  · rw [hf, put_slot hd hs]; exact World.ownsRow_lit w cs n hB hm (by omega)
  · rw [hf, put_slot hd hs] at h
    have h : (Value.slice (some ⟨w.heap.size, 0, none⟩) n n).ownBlock = some b := h
    simp [Value.ownBlock] at h
    exact .inl (Nat.le_of_eq h)
theorem step_more {j m : Nat} {n : Nat} {xs ys : List Value} (hf : fact i = .own t (n + m) (xs ++ ys)) (hd : o.dst = some (p.slot i)) (hs : p.slot i < a.tmps.size) (hk : p.kills i = [j]) (hj : fact j = .own t n xs)
    (hx : ∃ v' w', (execOp a.eval o).run P w = .ok (.value v') w' ∧ w'.ownsRow B t 1 v' (n + m) (xs ++ ys) ∧ w.grownBy w' (a.tmps.getD (p.slot j) undef).ownBlock ∧ (v'.ownBlock = (a.tmps.getD (p.slot j) undef).ownBlock ∨ v'.ownBlock = some w.heap.size ∨ v'.ownBlock = none))
    (hS : ∀ w', w.grownBy w' (a.tmps.getD (p.slot j) undef).ownBlock → S w') :
    o.wp P a w (Step fact p S i o a w) Q := by
  obtain ⟨v', w', hx, hown, hg, hl⟩ := hx
  unfold Oper.wp
  rw [hx, Oper.upon_value]
  refine ⟨v', _, rfl, hS w' hg, ?_, hg, fun b h => ⟨j, by rw [hk]; exact List.mem_cons_self, ?_⟩, fun b h => ?_⟩
  · rw [hf, put_slot hd hs]; exact hown
  · rw [hj]; exact h
  · rw [hf, put_slot hd hs] at h
    have h : v'.ownBlock = some b := h
    rcases hl with hl | hl | hl
    · refine .inr ⟨j, by rw [hk]; exact List.mem_cons_self, ?_⟩
      rw [hj]; exact (show (a.tmps.getD (p.slot j) undef).ownBlock = some b from hl ▸ h)
    · rw [hl] at h; cases h; exact .inl (Nat.le_refl _)
    · rw [hl] at h; cases h
theorem step_call {u : Value} {f : FuncId} {args : Array Value} (hf : fact i = .val u) (hd : o.dst = some (p.slot i)) (hs : p.slot i < a.tmps.size) (hx : (execOp a.eval o).run P w = .ok (.enter f args) w) (hc : Calls P f args w fun e w' => e = .returned u ∧ S w' ∧ w.grownBy w' none) :
    o.wp P a w (Step fact p S i o a w) Q := by
  unfold Oper.wp
  rw [hx, Oper.upon_enter]
  refine Calls.mono hc ?_
  rintro e w' ⟨rfl, hS, hg⟩
  refine ⟨u, none, rfl, hS, ?_, hg, fun b h => (by cases h), fun b h => ?_⟩
  · rw [hf, put_slot hd hs]; rfl
  · rw [hf] at h; exact h.elim
theorem slot_lt {a : Act} {m k : Nat} (h : Hid (a.tmps.size = m)) (hk : decide (k < m) = true) : k < a.tmps.size := by
  rw [h.out]; exact of_decide_eq_true hk
theorem getd {a : Act} {k : Nat} {v : Value} (h : a.tmps.getD k undef = v) : a.tmps[k]?.getD undef = v := by simpa using h
theorem act_lit {a a0 : Act} {n : Nat} (p : Plan) (h : a.tmps.size = n) (hd : a.defers = a0.defers) (hk : ∀ k, p.slots.contains k = false → a.tmps.getD k undef = a0.tmps.getD k undef) :
    a = ⟨((List.range n).map fun k => bif p.slots.contains k then a.tmps.getD k undef else a0.tmps.getD k undef).toArray, a0.defers⟩ := by
  obtain ⟨t, df⟩ := a
  simp only at h hd hk ⊢
  rw [hd]
  congr 1
  apply Array.ext
  · simp [h]
  · intro k h1 h2
    simp only [List.getElem_toArray, List.getElem_map, List.getElem_range]
    cases e : p.slots.contains k
    · simp only [cond_false]
      rw [← hk k e]
      simp [Array.getD, h1]
    · simp [Array.getD, h1]
theorem exec_append {v s x : Value} {w' : World} {t1 t2 : TypeId} {p q : Operand} (ho : o.op = .call { callee := .builtin .append, args := #[p, q], argTypes := #[t1, t2] }) (hs : a.eval p = s) (hx : a.eval q = x) (hr : (Builtin.append_ #[t1, t2] o.type #[s, x]).run P w = .ok v w') :
    (execOp a.eval o).run P w = .ok (.value v) w' := by
  unfold execOp
  simp only [ho, resolve, invoke, builtin, Sem.run_bind, Sem.run_pure, Result.andThen_ok, List.map_toArray, List.map_cons, List.map_nil, hs, hx, hr]
end
end Go.Proofs.YtkgnlloioaobiaaGreat
namespace Go.Proofs.YtkgnlloioaobiaaGreat
open Go.RowKit
abbrev FreshRow (N : Nat) (w : World) (A : Option Addr) (n : Nat) (xs : List Int) : Prop := n = 0 ∨ ∃ g, A = some ⟨g, 0, none⟩ ∧ N ≤ g ∧ OwnRow w g n xs
theorem clone_any (A : Option Addr) (n c : Nat) (xs : List Int) (w : World) (hI : IntsAt w A n xs) :
    Calls Tryz.prog 148 #[.slice A n c] w fun e w' => ∃ A' c', e = .returned (.slice A' n c') ∧ IntsAt w' A' n xs ∧ FreshRow w.heap.size w' A' n xs ∧ Below w.heap.size w w' := by
  rcases Nat.eq_zero_or_pos n with rfl | hn
  · obtain rfl : xs = [] := List.length_eq_zero_iff.1 hI.len
    have heq := fun w => run_eql_slice_nil w A 0 c
    cases A with
    | none =>
      go_enter Tryz.func148, Tryz.ntmps148
      go_wp2
      go_ret
      exact ⟨none, 0, rfl, ints_nil _ _, .inl rfl, Below.refl _ _⟩
    | some ad =>
      obtain ⟨i0, hi, hz0, hz1, hz2⟩ := info_parts infoInt
      have hown := World.ownsRow_lit (base := w.heap.size) (e := 3) (size := 1) w #[] 0 (Nat.le_refl _) (by decide) (by simp)
      go_enter Tryz.func148, Tryz.ntmps148
      go_wp2_with (at_builtin; refine wpList_append_own _ rfl _ _ 38 rfl w.heap.size 3 i0 (.int .i64 0) 1 8 Tryz.underlying38 hi hz0 hz1 hz2 rfl (by decide) _ _ _ rfl hown ad 0 c ([] : List Value) rfl ?c0 ?c1 ?c2 ?c3 ?c4 ?c5 ?_)
      intro v' w1 hown' hgrow _
      obtain ⟨A', c', rfl⟩ := own_slice hown'
      have hB : Below w.heap.size w w1 := (below_alloc w _).grown hgrow (by simp) (fun k e => by cases e; exact Nat.le_refl _)
      clear hown' hgrow
      go_wp2
      go_ret
      exact ⟨A', c', rfl, ints_nil _ _, .inl rfl, hB⟩
  · obtain ⟨b, off, rfl, hb, hc⟩ := hI.cells hn
    refine (clone_in b off n c xs w hn hI.small hI.len hc hb).mono ?_
    rintro e w' ⟨g, cap, rfl, hg, O, hB⟩
    exact ⟨some ⟨g, 0, none⟩, cap, rfl, O.ints hI.small hI.wf, .inr ⟨g, rfl, hg, O⟩, hB⟩
def mulTo (n : Nat) (xs : List Int) (s : Int) (i : Nat) : List Int := (List.range n).map fun j => if j < i then s * xs[j]?.getD 0 else xs[j]?.getD 0
def mulL (n : Nat) (s : Int) (xs : List Int) : List Int := (List.range n).map fun j => s * xs[j]?.getD 0
theorem mul_zero {n : Nat} {xs : List Int} (s : Int) (hl : xs.length = n) : mulTo n xs s 0 = xs := by
  apply List.ext_getElem (by simp [mulTo, hl])
  intro j h1 h2
  simp [mulTo, h2]
theorem mul_step (n : Nat) (xs : List Int) (s : Int) (i : Nat) : (mulTo n xs s i).set i (s * xs[i]?.getD 0) = mulTo n xs s (i + 1) := by
  unfold mulTo
  rw [tab_set]
  apply List.map_congr_left
  intro j _
  by_cases e : j = i
  · subst e; simp
  · have : (j < i + 1) ↔ (j < i) := by omega
    simp [e, this]
theorem mul_all (n : Nat) (xs : List Int) (s : Int) : mulTo n xs s n = mulL n s xs := by
  apply List.map_congr_left
  intro j hj
  rw [if_pos (List.mem_range.1 hj)]
theorem mul_at {n i : Nat} {xs : List Int} {s : Int} (hi : i < n) : (mulTo n xs s i)[i]?.getD 0 = xs[i]?.getD 0 := by
  unfold mulTo; rw [tab_get _ hi, if_neg (by omega)]
theorem sign_bd {s x B : Int} (hs : s = 1 ∨ s = -1) (hx : -B ≤ x ∧ x ≤ B) : -B ≤ s * x ∧ s * x ≤ B := by
  rcases hs with rfl | rfl <;> omega
theorem mulL_bd {n : Nat} {s : Int} {xs : List Int} (hs : s = 1 ∨ s = -1) (hx : Tame xs) : ∀ z ∈ mulL n s xs, -1048576 ≤ z ∧ z ≤ 1048576 := by
  intro z hz
  obtain ⟨j, _, rfl⟩ := List.mem_map.1 hz
  exact sign_bd hs (hx j)
set_option maxHeartbeats 4000000 in
theorem cond_shifted (A : Option Addr) (n c : Nat) (K : Int) (xs : List Int) (s k : Int) (hs : s = 1 ∨ s = -1) (hK : -1048576 ≤ K ∧ K ≤ 1048576) (hk : -512 ≤ k ∧ k ≤ 512) (hx : Tame xs) (w : World) (hI : IntsAt w A n xs) :
    Calls Tryz.prog 126 #[.agg #[.slice A n c, .int .i64 K], .int .i64 s, .int .i64 k] w fun e w' =>
      ∃ A' c', e = .returned (.agg #[.slice A' n c', .int .i64 (s * K + k)]) ∧ IntsAt w' A' n (mulL n s xs) ∧ FreshRow w.heap.size w' A' n (mulL n s xs) ∧ Below w.heap.size w w' := by
  have hsm := hI.small
  have hB := below_step (below_alloc w (.cells #[.slice A n c, .int .i64 K] 54)) (below_alloc _ (.cells #[.slice none 0 0, .int .i64 0] 54))
  have h1 := hI.step hB
  have B1 := (LBox.new w A n c K).alloc (.cells #[.slice none 0 0, .int .i64 0] 54)
  have B2 := LBox.new (w.alloc (.cells #[.slice A n c, .int .i64 K] 54)) none 0 0 0
  simp only [World.size_alloc] at B2
  have c0 := B1.c0
  have HX := Lib.hid (And.intro hx hs)
  have HL := Lib.hid hI.len
  have hsk := sign_bd hs hK
  have hw1 : IntKind.i64.wrap (s * K) = s * K := IntWalk.i64_in _ (by omega)
  have hw2 : IntKind.i64.wrap (s * K + k) = s * K + k := IntWalk.i64_in _ (by omega)
  have HKK := Lib.hid hsk
  clear hI hx hs hsk
  go_enter Tryz.func126, Tryz.ntmps126
  go_wp2_with (go_at_call 148; refine (clone_any _ _ _ xs _ h1).mono ?_; rintro e w1 ⟨A1, c1, rfl, I1, F1, hb⟩; replace hB := below_step hB hb; replace B1 := B1.step hb; replace B2 := B2.step hb)
  have l1 := B1.lt
  have l2 := B2.lt
  rcases F1 with rfl | ⟨g, rfl, hg, O⟩
  · go_loopw [14] (fun v wr => v = .int .i64 0 ∧ wr = w1) (fun v _ => 0)
    case atStart => exact ⟨rfl, rfl⟩
    case round =>
      obtain ⟨rfl, rfl⟩ := hrel
      have c11 := B1.c1
      have f20 := B2.f 0
      have f21 := B2.f 1
      have d0 := B2.c0
      have d1 := B2.c1
      have c40 := B2.s0 (.slice A1 0 c1)
      have c41 := (B2.store A1 0 c1 (s * K + k)).c1
      have hEnd := below_store2 hB (b := w.heap.size + 1) (by omega) (.slice A1 0 c1) (.int .i64 (s * K + k))
      go_wp2
      refine bodyPost_ret (v := .agg #[.slice A1 0 c1, .int .i64 (s * K + k)]) (by simp [results, Tryz.results126, go_sem, c40, c41]) rfl ?_
      exact ⟨A1, c1, rfl, ints_nil _ _, .inl rfl, hEnd⟩
  · have hg1 : w.heap.size + 1 < g := by simp at hg; omega
    clear hg hb h1 c0
    go_loopw [14] (fun v wr => ∃ i : Nat, i ≤ n ∧ v = .int .i64 i ∧ LBox wr w.heap.size A n c K ∧ LBox wr (w.heap.size + 1) none 0 0 0 ∧ OwnRow wr g n (mulTo n xs s i) ∧ Below w.heap.size w wr) (fun v _ => n - (intOf v).toNat)
    case atStart => exact ⟨0, Nat.zero_le _, rfl, B1, B2, by rw [mul_zero s HL.out]; exact O, hB⟩
    case round =>
      obtain ⟨i, hi, rfl, S1, S2, hrow, hBw⟩ := hrel
      clear O B1 B2 hB I1
      by_cases hlt : i < n
      · have hcr := hrow.cell hlt
        rw [mul_at hlt] at hcr
        have hfr := hrow.free i
        have q1 : (i : Int) < n := by omega
        have f2 := (hrow.set hlt (s * xs[i]?.getD 0))
        rw [mul_step] at f2
        have f1 := S1.other (a := ⟨g, i, none⟩) (show w.heap.size ≠ g by omega) (.int .i64 (s * xs[i]?.getD 0))
        have f3 := S2.other (a := ⟨g, i, none⟩) (show w.heap.size + 1 ≠ g by omega) (.int .i64 (s * xs[i]?.getD 0))
        have f5 := hBw.setCell (p := ⟨g, i, none⟩) (show w.heap.size ≤ g by omega) (.int .i64 (s * xs[i]?.getD 0))
        have hxb := sign_bd HX.out.2 (HX.out.1 i)
        have FF := Lib.hid (And.intro f1 (And.intro f2 (And.intro f3 f5)))
        generalize xs[i]?.getD 0 = x at *
        have hw : IntKind.i64.wrap (x * s) = s * x := by rw [Int.mul_comm]; exact IntWalk.i64_in _ (by omega)
        clear f1 f2 f3 f5 S1 S2 hrow hBw hxb
        go_wp2
        go_roundw
        case rel => exact ⟨i + 1, by omega, by go_num, FF.out.1, FF.out.2.2.1, FF.out.2.1, FF.out.2.2.2⟩
        case measure => simp [intOf]; omega
      · obtain rfl : i = n := by omega
        rw [mul_all] at hrow
        have hge : ¬ ((i : Int) < i) := by omega
        have c11 := S1.c1
        have f20 := S2.f 0
        have f21 := S2.f 1
        have d0 := S2.c0
        have d1 := S2.c1
        have c40 := S2.s0 (.slice (some ⟨g, 0, none⟩) i c1)
        have c41 := (S2.store (some ⟨g, 0, none⟩) i c1 (s * K + k)).c1
        have hEnd := below_store2 hBw (b := w.heap.size + 1) (by omega) (.slice (some ⟨g, 0, none⟩) i c1) (.int .i64 (s * K + k))
        have O := hrow.store2 (b := w.heap.size + 1) (by omega) (.slice (some ⟨g, 0, none⟩) i c1) (.int .i64 (s * K + k))
        have HW := Lib.hid (mulL_bd (n := i) HX.out.2 HX.out.1)
        clear hrow hBw S1
        go_wp2
        refine bodyPost_ret (v := .agg #[.slice (some ⟨g, 0, none⟩) i c1, .int .i64 (s * K + k)]) (by simp [results, Tryz.results126, go_sem, c40, c41]) rfl ?_
        exact ⟨some ⟨g, 0, none⟩, ⟨c1, rfl⟩, O.ints hsm (fun x hx => by have := HW.out x hx; omega), .inr ⟨g, rfl, by omega, O⟩, hEnd⟩
theorem wide_fits (q M : Int) (A : Option Addr) (n c : Nat) (K : Int) (xs : List Int) (hM : M ≤ 512) (w : World) (hI : IntsAt w A n xs) :
    Calls Tryz.prog 101 #[condV q M A n c K] w fun e w' => e = .returned (.bool (validB xs K)) ∧ Below w.heap.size w w' := by
  have hB := below_alloc w (.cells #[.int .i64 q, .int .i64 M, .slice A n c, .int .i64 K] 56)
  have h1 := hI.step hB
  have B1 := CBox.new w q M A n c K
  have c1 := B1.c1
  have c2 := B1.c2
  have c3 := B1.c3
  clear hI
  obtain ⟨v, hv⟩ : ∃ v, validB xs K = v := ⟨_, rfl⟩
  have HV := Lib.hid hv
  rw [hv]
  clear hv
  go_enter Tryz.func101, Tryz.ntmps101
  go_wp2_with (go_at_call 91; refine (lin_valid _ _ _ _ xs _ h1).mono ?_; rintro e w1 ⟨rfl, hb⟩; rw [HV.out]; replace hB := below_step hB hb)
  go_ret
  exact ⟨ret_bool (by first | rfl | simp), hB⟩
end Go.Proofs.YtkgnlloioaobiaaGreat
namespace Go.Proofs.YtkgnlloioaobiaaGreat
open Go.RowKit
structure CD where
  q : Int
  M : Int
  xs : List Int
  K : Int
structure CEl where
  q : Int
  M : Int
  A : Option Addr
  n : Nat
  c : Nat
  K : Int
  xs : List Int
def CEl.d (e : CEl) : CD := ⟨e.q, e.M, e.xs, e.K⟩
def CEl.cells (e : CEl) : List Value := [.int .i64 e.q, .int .i64 e.M, .slice e.A e.n e.c, .int .i64 e.K]
def ccells : List CEl → List Value
  | [] => []
  | e :: l => e.cells ++ ccells l
theorem ccells_app (l m : List CEl) : ccells (l ++ m) = ccells l ++ ccells m := by
  induction l with
  | nil => rfl
  | cons e l ih => simp [ccells, ih]
theorem ccells_len (l : List CEl) : (ccells l).length = l.length * 4 := by
  induction l with
  | nil => rfl
  | cons e l ih => simp [ccells, CEl.cells, ih]; omega
theorem ccells_at : ∀ (l : List CEl) (j : Nat) (e : CEl), l[j]? = some e → (ccells l)[j * 4]? = some (.int .i64 e.q) ∧ (ccells l)[j * 4 + 1]? = some (.int .i64 e.M) ∧ (ccells l)[j * 4 + 2]? = some (.slice e.A e.n e.c) ∧ (ccells l)[j * 4 + 3]? = some (.int .i64 e.K)
  | [], j, e, h => by simp at h
  | x :: l, 0, e, h => by simp at h; subst h; exact ⟨rfl, rfl, rfl, rfl⟩
  | x :: l, j + 1, e, h => by
    have := ccells_at l j e (by simpa using h)
    rw [show (j + 1) * 4 = j * 4 + 1 + 1 + 1 + 1 by omega]
    exact this
def CellsOf (w : World) (b p : Nat) (e : CEl) : Prop := w.cell? ⟨b, p, none⟩ = some (.int .i64 e.q) ∧ w.cell? ⟨b, p + 1, none⟩ = some (.int .i64 e.M) ∧ w.cell? ⟨b, p + 2, none⟩ = some (.slice e.A e.n e.c) ∧ w.cell? ⟨b, p + 3, none⟩ = some (.int .i64 e.K)
theorem CellsOf.step {w w' : World} {b p : Nat} {e : CEl} {B : Nat} (h : CellsOf w b p e) (hb : Below B w w') (hB : b < B) : CellsOf w' b p e :=
  ⟨(hb.cell (p := ⟨b, p, none⟩) hB).trans h.1, (hb.cell (p := ⟨b, p + 1, none⟩) hB).trans h.2.1, (hb.cell (p := ⟨b, p + 2, none⟩) hB).trans h.2.2.1, (hb.cell (p := ⟨b, p + 3, none⟩) hB).trans h.2.2.2⟩
structure CondsAt (w : World) (A : Option Addr) (m : Nat) (els : List CEl) : Prop where
  len : els.length = m
  small : m ≤ 17592186044416
  cells : 0 < m → ∃ b off, A = some ⟨b, off, none⟩ ∧ b < w.heap.size ∧ ∀ j e, els[j]? = some e → CellsOf w b (off + j * 4) e
  ints : ∀ e ∈ els, IntsAt w e.A e.n e.xs
theorem CondsAt.step {w w' : World} {A : Option Addr} {m : Nat} {els : List CEl} (h : CondsAt w A m els) (hb : Below w.heap.size w w') : CondsAt w' A m els :=
  ⟨h.len, h.small, fun hm => let ⟨b, off, hA, hlt, hc⟩ := h.cells hm; ⟨b, off, hA, Nat.lt_of_lt_of_le hlt hb.size, fun j e he => (hc j e he).step hb hlt⟩, fun e he => (h.ints e he).step hb⟩
theorem conds_nil (w : World) (A : Option Addr) : CondsAt w A 0 [] := ⟨rfl, by omega, fun h => absurd h (by omega), fun e h => by cases h⟩
theorem CondsAt.at {w : World} {A : Option Addr} {m : Nat} {els : List CEl} (h : CondsAt w A m els) {j : Nat} (hj : j < m) : ∃ b off e, A = some ⟨b, off, none⟩ ∧ b < w.heap.size ∧ els[j]? = some e ∧ e ∈ els ∧ CellsOf w b (off + j * 4) e ∧ IntsAt w e.A e.n e.xs := by
  obtain ⟨b, off, hA, hlt, hc⟩ := h.cells (by omega)
  have hj' : j < els.length := by rw [h.len]; exact hj
  refine ⟨b, off, els[j], hA, hlt, List.getElem?_eq_getElem hj', List.getElem_mem hj', hc j _ (List.getElem?_eq_getElem hj'), h.ints _ (List.getElem_mem hj')⟩
def RowOk (N : Nat) (W : World) (A : Option Addr) (n : Nat) : Prop := n = 0 ∨ ∃ g, A = some ⟨g, 0, none⟩ ∧ N ≤ g ∧ ∃ cur : Array Value, W.heap[g]? = some (.cells cur 3 (0, 0)) ∧ n ≤ cur.size
theorem FreshRow.ok {N N' : Nat} {W : World} {A : Option Addr} {n : Nat} {xs : List Int} (h : FreshRow N W A n xs) (hN : N' ≤ N) : RowOk N' W A n :=
  h.imp id fun ⟨g, a, hg, O⟩ => ⟨g, a, Nat.le_trans hN hg, let ⟨_, cur, hc, hn, _⟩ := O; ⟨cur, hc, hn⟩⟩
theorem RowOk.step {N : Nat} {W W' : World} {A : Option Addr} {n : Nat} (h : RowOk N W A n) (hb : Below W.heap.size W W') : RowOk N W' A n :=
  h.imp id fun ⟨g, a, hg, cur, hc, hn⟩ => ⟨g, a, hg, cur, (hb.block g (Array.getElem?_eq_some_iff.1 hc).1).trans hc, hn⟩
theorem RowOk.mono {N N' : Nat} {W : World} {A : Option Addr} {n : Nat} (h : RowOk N W A n) (hN : N' ≤ N) : RowOk N' W A n :=
  h.imp id fun ⟨g, a, hg, r⟩ => ⟨g, a, Nat.le_trans hN hg, r⟩
structure CL2 (N0 N : Nat) (W : World) (u : Value) (els : List CEl) : Prop where
  own : W.ownsRow N 56 4 u els.length (ccells els)
  few : els.length ≤ 100000
  ints : ∀ e ∈ els, IntsAt W e.A e.n e.xs
  rows : ∀ e ∈ els, RowOk N0 W e.A e.n
abbrev CL (N : Nat) (W : World) (u : Value) (els : List CEl) : Prop := CL2 N N W u els
theorem CL2.nil (N0 N : Nat) (W : World) : CL2 N0 N W (.slice none 0 0) [] := ⟨⟨rfl, .inl ⟨rfl, rfl⟩⟩, by simp, (fun e h => nomatch h), (fun e h => nomatch h)⟩
theorem CL.nil (N : Nat) (W : World) : CL N W (.slice none 0 0) [] := CL2.nil N N W
theorem CL2.step {N0 N : Nat} {W W' : World} {u : Value} {els : List CEl} (h : CL2 N0 N W u els) (hb : Below W.heap.size W W') : CL2 N0 N W' u els := by
  refine ⟨⟨h.own.1, ?_⟩, h.few, fun e he => (h.ints e he).step hb, fun e he => (h.rows e he).step hb⟩
  rcases h.own.2 with h0 | ⟨g, cap, cur, hv, hg, hc, rest⟩
  · exact .inl h0
  · exact .inr ⟨g, cap, cur, hv, hg, (hb.block g (Array.getElem?_eq_some_iff.1 hc).1).trans hc, rest⟩
theorem CL2.slice {N0 N : Nat} {W : World} {u : Value} {els : List CEl} (h : CL2 N0 N W u els) : ∃ A c, u = .slice A els.length c := by
  rcases h.own.2 with ⟨rfl, h0⟩ | ⟨g, cap, cur, rfl, _⟩
  · rw [h0]; exact ⟨none, 0, rfl⟩
  · exact ⟨_, _, rfl⟩
theorem CL2.conds {N0 N : Nat} {W : World} {A : Option Addr} {m c : Nat} {els : List CEl} (h : CL2 N0 N W (.slice A m c) els) : m = els.length ∧ CondsAt W A els.length els := by
  have hm : m = els.length := by
    obtain ⟨A', c', e⟩ := h.slice
    cases e; rfl
  subst hm
  have hf := h.few
  refine ⟨rfl, rfl, by omega, ?_, h.ints⟩
  · intro h0
    rcases h.own.2 with ⟨_, h1⟩ | ⟨g, cap, cur, hv, hb, hc, h1, h2, h3, h4⟩
    · omega
    · cases hv
      refine ⟨g, 0, rfl, (Array.getElem?_eq_some_iff.1 hc).1, fun j e he => ?_⟩
      obtain ⟨a0, a1, a2, a3⟩ := ccells_at els j e he
      have hj := (List.getElem?_eq_some_iff.1 he).1
      rw [Nat.zero_add]
      refine ⟨?_, ?_, ?_, ?_⟩
      · have := World.ownsRow.cellAt h.own (j * 4) (by omega); rw [this]; exact a0
      · have := World.ownsRow.cellAt h.own (j * 4 + 1) (by omega); rw [this]; exact a1
      · have := World.ownsRow.cellAt h.own (j * 4 + 2) (by omega); rw [this]; exact a2
      · have := World.ownsRow.cellAt h.own (j * 4 + 3) (by omega); rw [this]; exact a3
theorem infoCond : (Tryz.prog.info? 56).map (fun i => (i.zero, i.size, i.bytes)) = some (some (.agg #[.int .i64 0, .int .i64 0, .slice none 0 0, .int .i64 0]), 4, 48) := by kernel_rfl
theorem RowOk.grown {N : Nat} {W W' : World} {A : Option Addr} {n : Nat} {row : Option Nat} (h : RowOk N W A n) (hg : W.grownBy W' row) (hr : ∀ r, row = some r → ∃ cur fr, W.heap[r]? = some (.cells cur 56 fr)) : RowOk N W' A n := by
  refine h.imp id ?_
  rintro ⟨b, a, hb, cur, hc, hn⟩
  refine ⟨b, a, hb, cur, (hg.block b (Array.getElem?_eq_some_iff.1 hc).1 fun e => ?_).trans hc, hn⟩
  obtain ⟨cur', fr, hr'⟩ := hr b e.symm
  rw [hc] at hr'
  simp at hr'
theorem IntsAt.grown {N : Nat} {W W' : World} {A : Option Addr} {n : Nat} {xs : List Int} {row : Option Nat} (h : IntsAt W A n xs) (ho : RowOk N W A n) (hg : W.grownBy W' row) (hr : ∀ r, row = some r → ∃ cur fr, W.heap[r]? = some (.cells cur 56 fr)) : IntsAt W' A n xs := by
  refine ⟨h.len, h.small, h.wf, fun hn => ?_⟩
  obtain ⟨b, off, hA, hlt, hc⟩ := h.cells hn
  refine ⟨b, off, hA, Nat.lt_of_lt_of_le hlt hg.size, fun j hj => ?_⟩
  have hne : row ≠ some b := fun e => by
    obtain ⟨cur', fr, hr'⟩ := hr b e
    rcases ho with h0 | ⟨b', hA', _, cur, h1, _⟩
    · omega
    · rw [hA] at hA'
      cases hA'
      rw [h1] at hr'; simp at hr'
  rw [← hc j hj]
  exact World.cell?_of_block (hg.block b hlt fun e => hne e.symm)
theorem append_conds {N0 N : Nat} {w : World} {u : Value} {els : List CEl} (h : CL2 N0 N w u els) (g : Nat) (new : List CEl) (hg : w.heap[g]? = some (.cells (ccells new).toArray 56 (0, 0))) (hi : ∀ e ∈ new, IntsAt w e.A e.n e.xs) (hro : ∀ e ∈ new, RowOk N0 w e.A e.n) (hm : els.length + new.length ≤ 100000) (h0 : 0 < new.length) (hN : N ≤ w.heap.size) (ty : TypeId) (t : TypeId) (ht : Tryz.prog.underlying t = some (.slice 56)) :
    ∃ g' cap w', (Builtin.append_ #[t, t] ty #[u, .slice (some ⟨g, 0, none⟩) new.length new.length]).run Tryz.prog w = .ok (.slice (some ⟨g', 0, none⟩) (els.length + new.length) cap) w' ∧ CL2 N0 N w' (.slice (some ⟨g', 0, none⟩) (els.length + new.length) cap) (els ++ new) ∧ w.grownBy w' u.ownBlock ∧ Below N w w' := by
  obtain ⟨i0, hi0, hz, hz1, hz2⟩ := info_parts infoCond
  obtain ⟨g', cap, w', hr, hown, hgr, _, _⟩ := run_append_lies (P := Tryz.prog) w t ty N 56 i0 (.agg #[.int .i64 0, .int .i64 0, .slice none 0 0, .int .i64 0]) 4 48 ht hi0 hz hz1 hz2 rfl (by decide) u els.length (ccells els) h.own ⟨g, 0, none⟩ new.length new.length (ccells new) (ccells_len new)
    (fun j v hv => World.news_of_block hg j v (by simpa using hv))
    (fun v hv => by
      clear hg hi hro hm h0
      induction new with
      | nil => simp [ccells] at hv
      | cons e l ih =>
        simp only [ccells, CEl.cells, List.cons_append, List.nil_append, List.mem_cons] at hv
        rcases hv with rfl | rfl | rfl | rfl | hv
        · rfl
        · rfl
        · rfl
        · rfl
        · exact ih hv) h0 (by unfold maxLen; omega) (by omega) hN _ rfl
  have hb : Below N w w' := (Below.refl N w).grown hgr hN fun k e => (h.own.lt k e).1
  have hrow : ∀ r, u.ownBlock = some r → ∃ cur fr, w.heap[r]? = some (.cells cur 56 fr) := fun r e => by
    rcases h.own.2 with ⟨hv, _⟩ | ⟨gl, cap', cur', hv, hgN, hgl, _⟩
    · rw [hv] at e; cases e
    · rw [hv] at e
      simp only [Value.ownBlock, Option.some.injEq] at e
      subst e
      exact ⟨cur', _, hgl⟩
  refine ⟨g', cap, w', hr, ⟨by rw [List.length_append, ccells_app]; exact hown, by rw [List.length_append]; exact hm, fun e he => ?_, fun e he => ?_⟩, hgr, hb⟩
  · rcases List.mem_append.1 he with he | he
    · exact (h.ints e he).grown (h.rows e he) hgr hrow
    · exact (hi e he).grown (hro e he) hgr hrow
  · rcases List.mem_append.1 he with he | he
    · exact (h.rows e he).grown hgr hrow
    · exact (hro e he).grown hgr hrow
section
variable {ops : Array Oper} {o : Oper} {a : Act} {w : World} {Q : Exit → Act → World → Prop}
theorem wpList_append_cond {rest : List Oper} (hgd : o.guard = none) (s x : Operand) (t : TypeId) (ho : o.op = .call { callee := .builtin .append, args := #[s, x], argTypes := #[t, t] }) (ht : Tryz.prog.underlying t = some (.slice 56))
    {N0 N : Nat} {u : Value} {els : List CEl} (hs : a.eval s = u) (hL : CL2 N0 N w u els) (g : Nat) (e : CEl) (hx : a.eval x = .slice (some ⟨g, 0, none⟩) 1 1) (hg : w.heap[g]? = some (.cells e.cells.toArray 56 (0, 0))) (hi : IntsAt w e.A e.n e.xs) (hro : RowOk N0 w e.A e.n) (hm : els.length + 1 ≤ 100000) (hN : N ≤ w.heap.size)
    (h : ∀ g' cap w', CL2 N0 N w' (.slice (some ⟨g', 0, none⟩) (els.length + 1) cap) (els ++ [e]) → w.grownBy w' u.ownBlock → Below N w w' → wpList Tryz.prog ops Q rest (a.put o.dst (.slice (some ⟨g', 0, none⟩) (els.length + 1) cap)) w') : wpList Tryz.prog ops Q (o :: rest) a w :=
  wpList_plain hgd fun _ hK => by
    obtain ⟨g', cap, w', h1, h2, h3, h4⟩ := append_conds hL g [e] (by simpa [ccells] using hg) (fun e' he => by rw [List.mem_singleton.1 he]; exact hi) (fun e' he => by rw [List.mem_singleton.1 he]; exact hro) hm (by simp) hN o.type t ht
    unfold Oper.wp
    rw [exec_append ho hs hx h1, Oper.upon_value]
    exact hK _ _ (h g' cap w' h2 h3 h4)
theorem step_append_cond {K : Act → World → Prop} {E : Prop} (hgd : o.guard = none) (s x : Operand) (t : TypeId) (ho : o.op = .call { callee := .builtin .append, args := #[s, x], argTypes := #[t, t] }) (ht : Tryz.prog.underlying t = some (.slice 56))
    {N0 N : Nat} {u : Value} {els : List CEl} (hs : a.eval s = u) (hL : CL2 N0 N w u els) (g : Nat) (e : CEl) (hx : a.eval x = .slice (some ⟨g, 0, none⟩) 1 1) (hg : w.heap[g]? = some (.cells e.cells.toArray 56 (0, 0))) (hi : IntsAt w e.A e.n e.xs) (hro : RowOk N0 w e.A e.n) (hm : els.length + 1 ≤ 100000) (hN : N ≤ w.heap.size)
    (h : ∀ g' cap w', CL2 N0 N w' (.slice (some ⟨g', 0, none⟩) (els.length + 1) cap) (els ++ [e]) → w.grownBy w' u.ownBlock → Below N w w' → K (a.put o.dst (.slice (some ⟨g', 0, none⟩) (els.length + 1) cap)) w') : if Region.wanted o (yielded ops a.tmps) = true then Oper.wp Tryz.prog o a w K Q else E := by
  have hw : Region.wanted o (yielded ops a.tmps) = true := by simp [Region.wanted, hgd]
  rw [if_pos hw]
  obtain ⟨g', cap, w', h1, h2, h3, h4⟩ := append_conds hL g [e] (by simpa [ccells] using hg) (fun e' he => by rw [List.mem_singleton.1 he]; exact hi) (fun e' he => by rw [List.mem_singleton.1 he]; exact hro) hm (by simp) hN o.type t ht
  unfold Oper.wp
  rw [exec_append ho hs hx h1, Oper.upon_value]
  exact h g' cap w' h2 h3 h4
end
end Go.Proofs.YtkgnlloioaobiaaGreat
namespace Go.Proofs.YtkgnlloioaobiaaGreat
open Go.RowKit
def zz (n : Int) : Nat := if 0 ≤ n then (2 * n).toNat else (-2 * n - 1).toNat
theorem zz_inj {a b : Int} (h : zz a = zz b) : a = b := by
  unfold zz at h
  split at h <;> split at h <;> omega
def numB (u : Nat) : List Int := if h : u < 128 then [(u : Int)] else (128 + u % 128 : Nat) :: numB (u / 128)
termination_by u
decreasing_by omega
theorem num_small {u : Nat} (h : u < 128) : numB u = [(u : Int)] := by rw [numB, dif_pos h]
theorem num_great {u : Nat} (h : ¬ u < 128) : numB u = ((128 + u % 128 : Nat) : Int) :: numB (u / 128) := by rw [numB, dif_neg h]
theorem num_inj : ∀ (u v : Nat) (X Y : List Int), numB u ++ X = numB v ++ Y → u = v ∧ X = Y := by
  intro u
  induction u using Nat.strongRecOn with
  | ind u ih =>
    intro v X Y h
    by_cases hu : u < 128
    · by_cases hv : v < 128
      · rw [num_small hu, num_small hv] at h
        simp only [List.cons_append, List.nil_append, List.cons.injEq] at h
        exact ⟨by omega, h.2⟩
      · rw [num_small hu, num_great hv] at h
        simp only [List.cons_append, List.nil_append, List.cons.injEq] at h
        omega
    · by_cases hv : v < 128
      · rw [num_great hu, num_small hv] at h
        simp only [List.cons_append, List.nil_append, List.cons.injEq] at h
        omega
      · rw [num_great hu, num_great hv] at h
        simp only [List.cons_append, List.cons.injEq] at h
        obtain ⟨h1, h2⟩ := ih (u / 128) (by omega) (v / 128) X Y h.2
        exact ⟨by omega, h2⟩
def numsB (xs : List Int) : List Int := xs.flatMap fun x => numB (zz x)
theorem nums_inj : ∀ (xs ys X Y : List Int), xs.length = ys.length → numsB xs ++ X = numsB ys ++ Y → xs = ys ∧ X = Y
  | [], [], X, Y, _, h => ⟨rfl, h⟩
  | [], _ :: _, _, _, hl, _ => by simp at hl
  | _ :: _, [], _, _, hl, _ => by simp at hl
  | x :: xs, y :: ys, X, Y, hl, h => by
    simp only [numsB, List.flatMap_cons, List.append_assoc] at h
    obtain ⟨h1, h2⟩ := num_inj _ _ _ _ h
    obtain ⟨h3, h4⟩ := nums_inj xs ys X Y (by simpa using hl) h2
    exact ⟨by rw [zz_inj h1, h3], h4⟩
def keyC (d : CD) : List Int := d.q :: (numB (zz d.M) ++ (numsB d.xs ++ numB (zz d.K)))
def keyB (l : List CD) : List Int := l.flatMap keyC
theorem keyC_inj {a b : CD} {X Y : List Int} (hl : a.xs.length = b.xs.length) (h : keyC a ++ X = keyC b ++ Y) : a = b ∧ X = Y := by
  obtain ⟨q, M, xs, K⟩ := a
  obtain ⟨q', M', ys, L⟩ := b
  simp only [keyC, List.cons_append, List.cons.injEq, List.append_assoc] at h
  obtain ⟨rfl, h⟩ := h
  obtain ⟨h1, h⟩ := num_inj _ _ _ _ h
  obtain ⟨h2, h⟩ := nums_inj _ _ _ _ hl h
  obtain ⟨h3, h⟩ := num_inj _ _ _ _ h
  have e1 : M = M' := zz_inj h1
  have e3 : K = L := zz_inj h3
  have e2 : xs = ys := h2
  exact ⟨by rw [e1, e2, e3], h⟩
theorem key_inj2 {n : Nat} : ∀ (l l' : List CD), (∀ d ∈ l, d.xs.length = n) → (∀ d ∈ l', d.xs.length = n) → keyB l = keyB l' → l = l'
  | [], [], _, _, _ => rfl
  | [], d :: l, _, _, h => by simp [keyB, keyC] at h
  | d :: l, [], _, _, h => by simp [keyB, keyC] at h
  | a :: l, b :: l', h1, h2, h => by
    simp only [keyB, List.flatMap_cons] at h
    obtain ⟨h3, h4⟩ := keyC_inj (by rw [h1 a (List.mem_cons_self ..), h2 b (List.mem_cons_self ..)]) h
    rw [h3, key_inj2 l l' (fun d hd => h1 d (List.mem_cons_of_mem _ hd)) (fun d hd => h2 d (List.mem_cons_of_mem _ hd)) h4]
theorem num_byte : ∀ u : Nat, ∀ x ∈ numB u, 0 ≤ x ∧ x ≤ 255 := by
  intro u
  induction u using Nat.strongRecOn with
  | ind u ih =>
    intro x hx
    by_cases hu : u < 128
    · rw [num_small hu, List.mem_singleton] at hx
      omega
    · rw [num_great hu, List.mem_cons] at hx
      rcases hx with rfl | hx
      · omega
      · exact ih (u / 128) (by omega) x hx
theorem num_len : ∀ (k u : Nat), u < 128 ^ k → 0 < k → (numB u).length ≤ k
  | 0, u, h, h0 => by omega
  | k + 1, u, h, _ => by
    by_cases hu : u < 128
    · rw [num_small hu]; simp
    · have hk : 0 < k := by
        rcases Nat.eq_zero_or_pos k with rfl | hk
        · simp at h; omega
        · exact hk
      rw [num_great hu, List.length_cons]
      have := num_len k (u / 128) (by rw [Nat.pow_succ] at h; omega) hk
      omega
theorem or_bits : ∀ x : Fin 256, (BitVec.ofInt 8 (x.val : Int) ||| BitVec.ofInt 8 128).toNat = 128 + x.val % 128 := by decide +kernel
end Go.Proofs.YtkgnlloioaobiaaGreat
namespace Go.Proofs.YtkgnlloioaobiaaGreat
open Go.RowKit
structure CV (N0 N : Nat) (W : World) (A : Option Addr) (m : Nat) (els : List CEl) : Prop where
  len : els.length = m
  few : m ≤ 100000
  ints : ∀ e ∈ els, IntsAt W e.A e.n e.xs
  rows : ∀ e ∈ els, RowOk N0 W e.A e.n
  row : 0 < m → ∃ g o cur, A = some ⟨g, o, none⟩ ∧ N ≤ g ∧ W.heap[g]? = some (.cells cur 56 (0, 0)) ∧ o + m * 4 ≤ cur.size ∧ ∀ j, j < m * 4 → cur[o + j]? = (ccells els)[j]?
theorem cells_drop (l : List CEl) (k j : Nat) : (ccells (l.drop k))[j]? = (ccells l)[k * 4 + j]? := by
  induction l generalizing k with
  | nil => simp [ccells]
  | cons e l ih =>
    cases k with
    | zero => simp
    | succ k =>
      rw [List.drop_succ_cons, ih, show (k + 1) * 4 + j = 4 + (k * 4 + j) by omega]
      show _ = (e.cells ++ ccells l)[4 + (k * 4 + j)]?
      rw [List.getElem?_append_right (by simp [CEl.cells])]
      congr 1
      simp [CEl.cells]
theorem cells_take (l : List CEl) (k j : Nat) (hj : j < k * 4) : (ccells (l.take k))[j]? = (ccells l)[j]? := by
  have h : ccells l = ccells (l.take k) ++ ccells (l.drop k) := by rw [← ccells_app, List.take_append_drop]
  rw [h]
  by_cases hl : j < (ccells (l.take k)).length
  · rw [List.getElem?_append_left hl]
  · have hl' : l.length * 4 ≤ j := by
      rw [ccells_len, List.length_take] at hl
      rcases Nat.le_total k l.length with h1 | h1
      · rw [Nat.min_eq_left h1] at hl; omega
      · rw [Nat.min_eq_right h1] at hl; omega
    rw [List.getElem?_eq_none (by omega), ← h, List.getElem?_eq_none (by rw [ccells_len]; omega)]
section
variable {N0 N : Nat} {W W' : World} {A : Option Addr} {m : Nat} {els : List CEl}
theorem CV.conds (h : CV N0 N W A m els) : CondsAt W A m els := by
  refine ⟨h.len, by have := h.few; omega, fun h0 => ?_, h.ints⟩
  obtain ⟨g, o, cur, hA, hg, hc, hsz, hat⟩ := h.row h0
  refine ⟨g, o, hA, (Array.getElem?_eq_some_iff.1 hc).1, fun j e he => ?_⟩
  have hj := (List.getElem?_eq_some_iff.1 he).1
  have hl := h.len
  obtain ⟨a0, a1, a2, a3⟩ := ccells_at els j e he
  have key : ∀ k v, k < 4 → (ccells els)[j * 4 + k]? = some v → W.cell? ⟨g, o + j * 4 + k, none⟩ = some v := fun k v hk hv => by
    have := hat (j * 4 + k) (by omega)
    rw [hv] at this
    simp only [World.cell?, hc]
    simpa [Nat.add_assoc] using this
  exact ⟨key 0 _ (by omega) a0, key 1 _ (by omega) a1, key 2 _ (by omega) a2, key 3 _ (by omega) a3⟩
theorem CV.of_cl {c : Nat} (h : CL2 N0 N W (.slice A m c) els) : CV N0 N W A m els := by
  obtain ⟨hm, _⟩ := h.conds
  subst hm
  refine ⟨rfl, h.few, h.ints, h.rows, fun h0 => ?_⟩
  rcases h.own.2 with ⟨_, h1⟩ | ⟨g, cap, cur, hv, hb, hc, h1, h2, h3, h4⟩
  · omega
  · cases hv
    refine ⟨g, 0, cur, rfl, hb, hc, by rw [h3]; omega, fun j hj => ?_⟩
    rw [← h4, List.getElem?_take, if_pos hj, Nat.zero_add, Array.getElem?_toList]
theorem CV.nil (N0 N : Nat) (W : World) (A : Option Addr) : CV N0 N W A 0 [] := ⟨rfl, by omega, (fun e h => nomatch h), (fun e h => nomatch h), fun h => absurd h (by omega)⟩
theorem CV.step (h : CV N0 N W A m els) (hb : Below W.heap.size W W') : CV N0 N W' A m els :=
  ⟨h.len, h.few, fun e he => (h.ints e he).step hb, fun e he => (h.rows e he).step hb, fun h0 => let ⟨g, o, cur, hA, hg, hc, r⟩ := h.row h0; ⟨g, o, cur, hA, hg, (hb.block g (Array.getElem?_eq_some_iff.1 hc).1).trans hc, r⟩⟩
theorem CV.mono {N0' N' : Nat} (h : CV N0 N W A m els) (h0 : N0' ≤ N0) (hN : N' ≤ N) : CV N0' N' W A m els :=
  ⟨h.len, h.few, h.ints, fun e he => (h.rows e he).mono h0, fun h0 => let ⟨g, o, cur, hA, hg, r⟩ := h.row h0; ⟨g, o, cur, hA, Nat.le_trans hN hg, r⟩⟩
theorem CV.sub (h : CV N0 N W A m els) {i k : Nat} (hk : i + k ≤ m) {A' : Option Addr} (hA : 0 < k → ∀ g o, A = some ⟨g, o, none⟩ → A' = some ⟨g, o + i * 4, none⟩) : CV N0 N W A' k ((els.drop i).take k) := by
  have hl := h.len
  refine ⟨by rw [List.length_take, List.length_drop]; omega, by have := h.few; omega, fun e he => h.ints e (List.mem_of_mem_drop (List.mem_of_mem_take he)), fun e he => h.rows e (List.mem_of_mem_drop (List.mem_of_mem_take he)), fun h0 => ?_⟩
  obtain ⟨g, o, cur, hA', hg, hc, hsz, hat⟩ := h.row (by omega)
  refine ⟨g, o + i * 4, cur, hA h0 g o hA', hg, hc, by omega, fun j hj => ?_⟩
  rw [cells_take _ _ _ hj, cells_drop, Nat.add_assoc]
  exact hat (i * 4 + j) (by omega)
def Sane (A : Option Addr) (c : Nat) : Prop := (A = none → c = 0) ∧ ∀ ad, A = some ad → ad.spot = none
structure Touch (A : Option Addr) (m : Nat) (W W' : World) : Prop where
  os : W'.os = W.os
  tape : W'.tape = W.tape
  output : W'.output = W.output
  size : W.heap.size ≤ W'.heap.size
  block : ∀ k, k < W.heap.size → (∀ o, 0 < m → A = some ⟨k, o, none⟩ → False) → W'.heap[k]? = W.heap[k]?
  part : ∀ g o cur fz, A = some ⟨g, o, none⟩ → W.heap[g]? = some (.cells cur 56 fz) → ∃ cur', W'.heap[g]? = some (.cells cur' 56 fz) ∧ cur'.size = cur.size ∧ ∀ j, (j < o ∨ o + m * 4 ≤ j) → cur'[j]? = cur[j]?
theorem Touch.of_below (hb : Below W.heap.size W W') : Touch A m W W' :=
  ⟨hb.os, hb.tape, hb.output, hb.size, fun k hk _ => hb.block k hk, fun g o cur fz _ hc => ⟨cur, (hb.block g (Array.getElem?_eq_some_iff.1 hc).1).trans hc, rfl, fun _ _ => rfl⟩⟩
theorem Touch.trans {W'' : World} (h : Touch A m W W') (h' : Touch A m W' W'') : Touch A m W W'' :=
  ⟨h'.os.trans h.os, h'.tape.trans h.tape, h'.output.trans h.output, Nat.le_trans h.size h'.size, fun k hk hn => (h'.block k (Nat.lt_of_lt_of_le hk h.size) hn).trans (h.block k hk hn), fun g o cur fz hA hc => by
    obtain ⟨c1, h1, s1, e1⟩ := h.part g o cur fz hA hc
    obtain ⟨c2, h2, s2, e2⟩ := h'.part g o c1 fz hA h1
    exact ⟨c2, h2, s2.trans s1, fun j hj => (e2 j hj).trans (e1 j hj)⟩⟩
theorem Touch.below (h : Touch A m W W') (hA : 0 < m → ∃ g o, A = some ⟨g, o, none⟩ ∧ N ≤ g) (hN : N ≤ W.heap.size) : Below N W W' :=
  ⟨h.os, h.tape, h.output, h.size, fun k hk => h.block k (by omega) fun o h0 e => by
    obtain ⟨g, o', hg, hN'⟩ := hA h0
    rw [hg] at e
    cases e
    omega⟩
theorem CV.addr (h : CV N0 N W A m els) (h0 : 0 < m) : ∃ g o, A = some ⟨g, o, none⟩ ∧ N ≤ g := let ⟨g, o, cur, hA, hg, _⟩ := h.row h0; ⟨g, o, hA, hg⟩
theorem RowOk.touch {n : Nat} {B : Option Addr} (h : RowOk N0 W B n) (ht : Touch A m W W') (hA : 0 < m → ∀ g o, A = some ⟨g, o, none⟩ → ∃ cur fz, W.heap[g]? = some (.cells cur 56 fz)) : RowOk N0 W' B n := by
  refine h.imp id ?_
  rintro ⟨b, a, hb, cur, hc, hn⟩
  refine ⟨b, a, hb, cur, (ht.block b (Array.getElem?_eq_some_iff.1 hc).1 fun o h0 e => ?_).trans hc, hn⟩
  obtain ⟨cur', fz, hr⟩ := hA h0 _ _ e
  rw [hc] at hr
  simp at hr
theorem IntsAt.touch {n : Nat} {B : Option Addr} {xs : List Int} (h : IntsAt W B n xs) (ho : RowOk N0 W B n) (ht : Touch A m W W') (hA : 0 < m → ∀ g o, A = some ⟨g, o, none⟩ → ∃ cur fz, W.heap[g]? = some (.cells cur 56 fz)) : IntsAt W' B n xs := by
  refine ⟨h.len, h.small, h.wf, fun hn => ?_⟩
  obtain ⟨b, off, hB, hlt, hc⟩ := h.cells hn
  refine ⟨b, off, hB, Nat.lt_of_lt_of_le hlt ht.size, fun j hj => ?_⟩
  rw [← hc j hj]
  refine World.cell?_of_block (ht.block b hlt fun o h0 e => ?_)
  obtain ⟨cur', fz, hr⟩ := hA h0 _ _ e
  rcases ho with h1 | ⟨b', hB', _, cur, h1, _⟩
  · omega
  · rw [hB] at hB'
    cases hB'
    rw [h1] at hr
    simp at hr
theorem CV.typed (h : CV N0 N W A m els) : 0 < m → ∀ g o, A = some ⟨g, o, none⟩ → ∃ cur fz, W.heap[g]? = some (.cells cur 56 fz) := fun h0 g o hA => by
  obtain ⟨g', o', cur, hA', _, hc, _⟩ := h.row h0
  rw [hA] at hA'
  cases hA'
  exact ⟨cur, _, hc⟩
theorem CV.touch {N0' N' : Nat} {B : Option Addr} {k : Nat} {els' : List CEl} (h : CV N0 N W B k els') (h' : CV N0' N' W A m els) (ht : Touch A m W W') (hd : 0 < m → 0 < k → ∀ g o o', A = some ⟨g, o, none⟩ → B = some ⟨g, o', none⟩ → o' + k * 4 ≤ o ∨ o + m * 4 ≤ o') : CV N0 N W' B k els' := by
  refine ⟨h.len, h.few, fun e he => (h.ints e he).touch (h.rows e he) ht h'.typed, fun e he => (h.rows e he).touch ht h'.typed, fun h0 => ?_⟩
  obtain ⟨g, o, cur, hA, hg, hc, hsz, hat⟩ := h.row h0
  by_cases hm : 0 < m
  · obtain ⟨g2, o2, cur2, hA2, hg2, hc2, hsz2, _⟩ := h'.row hm
    by_cases hgg : g2 = g
    · subst hgg
      rw [hc] at hc2
      simp only [Option.some.injEq, Obj.cells.injEq, and_true] at hc2
      subst hc2
      obtain ⟨cur', h1, s1, e1⟩ := ht.part g2 o2 cur _ hA2 hc
      refine ⟨g2, o, cur', hA, hg, h1, by omega, fun j hj => ?_⟩
      rw [e1 (o + j) (by have := hd hm h0 _ _ _ hA2 hA; omega)]
      exact hat j hj
    · exact ⟨g, o, cur, hA, hg, (ht.block g (Array.getElem?_eq_some_iff.1 hc).1 fun o' _ e => by rw [hA2] at e; cases e; exact hgg rfl).trans hc, hsz, hat⟩
  · exact ⟨g, o, cur, hA, hg, (ht.block g (Array.getElem?_eq_some_iff.1 hc).1 fun o' h1 _ => hm h1).trans hc, hsz, hat⟩
end
end Go.Proofs.YtkgnlloioaobiaaGreat
namespace Go.Proofs.YtkgnlloioaobiaaGreat
open Go.RowKit
section
variable {α β : Type} (R : α → α → Bool)
def compG (p : α) : List α → List α
  | [] => []
  | a :: l => if R a p = true then compG a l else a :: compG a l
def comp : List α → List α
  | [] => []
  | a :: l => a :: compG R a l
theorem compG_snoc : ∀ (l : List α) (p q a : α), (p :: l).getLast? = some q → compG R p (l ++ [a]) = if R a q = true then compG R p l else compG R p l ++ [a]
  | [], p, q, a, h => by
    simp at h; subst h
    simp [compG]
  | b :: l, p, q, a, h => by
    have ih := compG_snoc l b q a (by simpa using h)
    rw [List.cons_append]
    unfold compG
    rw [ih]
    by_cases h1 : R b p = true
    · rw [if_pos h1, if_pos h1]
    · rw [if_neg h1, if_neg h1]
      by_cases h2 : R a q = true
      · rw [if_pos h2, if_pos h2]
      · rw [if_neg h2, if_neg h2]; rfl
theorem comp_snoc {l : List α} {i : Nat} {p a : α} (hi : 0 < i) (hp : l[i - 1]? = some p) (ha : l[i]? = some a) : comp R (l.take (i + 1)) = if R a p = true then comp R (l.take i) else comp R (l.take i) ++ [a] := by
  obtain ⟨hil, hia⟩ := List.getElem?_eq_some_iff.1 ha
  rw [List.take_succ_eq_append_getElem hil, hia]
  cases l with
  | nil => simp at ha
  | cons x l =>
    obtain ⟨k, rfl⟩ : ∃ k, i = k + 1 := ⟨i - 1, by omega⟩
    rw [List.take_succ_cons]
    have hq : (x :: l.take k).getLast? = some p := by
      rw [← List.take_succ_cons, List.getLast?_eq_getElem?, List.length_take]
      have : min (k + 1) (x :: l).length = k + 1 := by omega
      rw [this, List.getElem?_take, if_pos (by omega)]
      exact hp
    show x :: compG R x (l.take k ++ [a]) = _
    rw [compG_snoc R _ _ _ _ hq]
    show _ = if R a p = true then x :: compG R x (l.take k) else x :: compG R x (l.take k) ++ [a]
    split <;> rfl
theorem comp_one {l : List α} : comp R (l.take 1) = l.take 1 := by
  cases l with
  | nil => rfl
  | cons a l => rfl
theorem comp_len : ∀ l : List α, (comp R l).length ≤ l.length
  | [] => Nat.le_refl _
  | a :: l => by
    have : ∀ (l : List α) (p : α), (compG R p l).length ≤ l.length := by
      intro l
      induction l with
      | nil => intro p; exact Nat.le_refl _
      | cons b l ih =>
        intro p
        unfold compG
        have := ih b
        split <;> simp <;> omega
    have := this l a
    show (compG R a l).length + 1 ≤ _
    simp; omega
theorem comp_sub : ∀ l : List α, (comp R l).Sublist l
  | [] => List.Sublist.refl _
  | a :: l => by
    have : ∀ (l : List α) (p : α), (compG R p l).Sublist l := by
      intro l
      induction l with
      | nil => intro p; exact List.Sublist.refl _
      | cons b l ih =>
        intro p
        unfold compG
        split
        · exact (ih b).cons _
        · exact (ih b).cons_cons _
    exact (this l a).cons_cons _
theorem comp_map (f : α → β) (S : β → β → Bool) (h : ∀ a b, R a b = S (f a) (f b)) : ∀ l : List α, (comp R l).map f = comp S (l.map f)
  | [] => rfl
  | a :: l => by
    have : ∀ (l : List α) (p : α), (compG R p l).map f = compG S (f p) (l.map f) := by
      intro l
      induction l with
      | nil => intro p; rfl
      | cons b l ih =>
        intro p
        unfold compG
        rw [List.map_cons]
        simp only [← h]
        split
        · exact ih b
        · rw [List.map_cons, ih b]
    show f a :: _ = f a :: _
    rw [this]
end
theorem set_row (b : Nat) : ∀ (vs : List Value) (o : Nat) (w : World) {cur : Array Value} {e : TypeId} {fz : Nat × Nat}, w.heap[b]? = some (.cells cur e fz) → o + vs.length ≤ cur.size →
    ∃ cur', (w.setCells b o vs).heap[b]? = some (.cells cur' e fz) ∧ cur'.size = cur.size ∧ (∀ j, (j < o ∨ o + vs.length ≤ j) → cur'[j]? = cur[j]?) ∧ ∀ j, j < vs.length → cur'[o + j]? = vs[j]?
  | [], o, w, cur, e, fz, h, _ => ⟨cur, h, rfl, fun _ _ => rfl, fun j hj => by simp at hj⟩
  | v :: vs, o, w, cur, e, fz, h, hs => by
    have h1 : (w.setCell ⟨b, o, none⟩ v).heap[b]? = some (.cells (cur.setIfInBounds o v) e fz) := by
      simp only [World.setCell]
      rw [Array.getElem?_modify, if_pos rfl, h]
      rfl
    simp only [List.length_cons] at hs
    obtain ⟨cur', h2, s2, out, inn⟩ := set_row b vs (o + 1) _ h1 (by simp; omega)
    refine ⟨cur', h2, by simpa using s2, fun j hj => ?_, fun j hj => ?_⟩
    · simp only [List.length_cons] at hj
      rw [out j (by omega), Array.getElem?_setIfInBounds, if_neg (by omega)]
    · cases j with
      | zero =>
        rw [Nat.add_zero, out o (by omega), Array.getElem?_setIfInBounds, if_pos rfl, if_pos (by omega)]
        rfl
      | succ j =>
        have := inn j (by simp at hj; omega)
        rw [show o + (j + 1) = o + 1 + j by omega, this]
        rfl
theorem set_else (b : Nat) : ∀ (vs : List Value) (o : Nat) (w : World), (w.setCells b o vs).heap.size = w.heap.size ∧ (w.setCells b o vs).os = w.os ∧ (w.setCells b o vs).tape = w.tape ∧ (w.setCells b o vs).output = w.output ∧ ∀ k, k ≠ b → (w.setCells b o vs).heap[k]? = w.heap[k]?
  | [], o, w => ⟨rfl, rfl, rfl, rfl, fun _ _ => rfl⟩
  | v :: vs, o, w => by
    obtain ⟨h1, h2, h3, h4, h5⟩ := set_else b vs (o + 1) (w.setCell ⟨b, o, none⟩ v)
    refine ⟨h1.trans (by simp [World.setCell]), h2, h3, h4, fun k hk => (h5 k hk).trans ?_⟩
    simp only [World.setCell]
    rw [Array.getElem?_modify, if_neg fun e => hk e.symm]
theorem touch_set {A : Option Addr} {m g o : Nat} {W : World} (hA : A = some ⟨g, o, none⟩) (h0 : 0 < m) {vs : List Value} {p : Nat} (hp : o ≤ p) (hq : p + vs.length ≤ o + m * 4) {cur : Array Value} {fz : Nat × Nat} (hc : W.heap[g]? = some (.cells cur 56 fz)) (hs : o + m * 4 ≤ cur.size) : Touch A m W (W.setCells g p vs) := by
  obtain ⟨h1, h2, h3, h4, h5⟩ := set_else g vs p W
  refine ⟨h2, h3, h4, by rw [h1]; exact Nat.le_refl _, fun k hk hn => h5 k fun e => hn o h0 (by rw [e]; exact hA), fun g' o' cur' fz' hA' hc' => ?_⟩
  rw [hA] at hA'
  cases hA'
  rw [hc] at hc'
  simp only [Option.some.injEq, Obj.cells.injEq, true_and] at hc'
  obtain ⟨rfl, rfl⟩ := hc'
  obtain ⟨c2, k1, k2, k3, _⟩ := set_row g vs p W hc (by omega)
  exact ⟨c2, k1, k2, fun j hj => k3 j (by omega)⟩
theorem zero_cells (n : Nat) (vs : Array Value) (h : vs.size = 4) (h1 : ∀ v ∈ vs, v.oneCell' = true) : ∀ v ∈ (Builtin.zeroCells vs n).toList, v.oneCell' = true := by
  intro v hv
  simp only [Builtin.zeroCells, Array.toList_map, List.mem_map] at hv
  obtain ⟨i, _, rfl⟩ := hv
  refine h1 _ ?_
  rw [getElem!_pos vs _ (by rw [h]; exact Nat.mod_lt _ (by omega))]
  exact Array.getElem_mem _
theorem zero_size (n : Nat) (vs : Array Value) (h : vs.size = 4) : (Builtin.zeroCells vs n).toList.length = n * 4 := by
  simp [Builtin.zeroCells, h]
theorem run_clear_conds (w : World) (t : TypeId) (ht : Tryz.prog.underlying t = some (.slice 56)) (b o n c : Nat) (hn : 0 < n)
    (hc : ∀ j, j < n * 4 → (w.cell? ⟨b, o + j, none⟩).isSome = true) (hf : ∀ j, j < n * 4 → w.frozen? ⟨b, o + j, none⟩ = false) :
    ∃ vs, vs.length = n * 4 ∧ ∀ ty, (Builtin.clear_ #[t] ty #[.slice (some ⟨b, o, none⟩) n c]).run Tryz.prog w = .ok (.tuple #[]) (w.setCells b o vs) := by
  obtain ⟨i0, hi, hz0, hz1, hz2⟩ := info_parts infoCond
  have hcz : (Value.agg #[.int .i64 0, .int .i64 0, .slice none 0 0, .int .i64 0]).cells = #[.int .i64 0, .int .i64 0, .slice none 0 0, .int .i64 0] := by rfl
  have hv : ∀ w, (zeroValue 56).run Tryz.prog w = .ok (.agg #[.int .i64 0, .int .i64 0, .slice none 0 0, .int .i64 0]) w := fun w => by simp [zeroValue, run_typeInfo, hi, hz0]
  refine ⟨(Builtin.zeroCells (Value.agg #[.int .i64 0, .int .i64 0, .slice none 0 0, .int .i64 0]).cells n).toList, by rw [hcz]; exact zero_size n _ rfl, fun ty => ?_⟩
  have hst := run_storeCells_cells (P := Tryz.prog) b o (Builtin.zeroCells (Value.agg #[.int .i64 0, .int .i64 0, .slice none 0 0, .int .i64 0]).cells n).toList 0 w (by rw [hcz, zero_size n _ rfl]; simpa using hc) (by rw [hcz, zero_size n _ rfl]; simpa using hf)
    (by rw [hcz]; exact zero_cells n _ rfl (fun v hv => by obtain ⟨i, hi, rfl⟩ := Array.getElem_of_mem hv; match i, hi with | 0, _ => rfl | 1, _ => rfl | 2, _ => rfl | 3, _ => rfl))
  simp only [Nat.add_zero] at hst
  obtain ⟨m, rfl⟩ : ∃ m, n = m + 1 := ⟨n - 1, by omega⟩
  simp [Builtin.clear_, run_underlying ht, hv, hst]
end Go.Proofs.YtkgnlloioaobiaaGreat
namespace Go.Proofs.YtkgnlloioaobiaaGreat
open Go.RowKit
def oppL (q M : Int) (n : Nat) (xs : List Int) (K : Int) : List CD :=
  if q = 0 then [⟨0, 0, mulL n (-1) xs, -1 * K + -1⟩]
  else if q = 1 then [⟨0, 0, mulL n 1 xs, 1 * K + -1⟩, ⟨0, 0, mulL n (-1) xs, -1 * K + -1⟩]
  else (List.range (M.toNat - 1)).map fun (r : Nat) => ⟨2, M, mulL n 1 xs, 1 * K + -((r : Int) + 1)⟩
theorem conds_lit {w : World} {g : Nat} {els : List CEl} (hg : w.heap[g]? = some (.cells (ccells els).toArray 56 (0, 0))) (hs : els.length ≤ 100000) (hi : ∀ e ∈ els, IntsAt w e.A e.n e.xs) : CondsAt w (some ⟨g, 0, none⟩) els.length els := by
  refine ⟨rfl, by omega, fun _ => ⟨g, 0, rfl, (Array.getElem?_eq_some_iff.1 hg).1, fun j e he => ?_⟩, hi⟩
  obtain ⟨a0, a1, a2, a3⟩ := ccells_at els j e he
  rw [Nat.zero_add]
  refine ⟨?_, ?_, ?_, ?_⟩
  · rw [cell_of_row w g (j * 4) _ _ (0, 0) hg]; simpa using a0
  · rw [cell_of_row w g (j * 4 + 1) _ _ (0, 0) hg]; simpa using a1
  · rw [cell_of_row w g (j * 4 + 2) _ _ (0, 0) hg]; simpa using a2
  · rw [cell_of_row w g (j * 4 + 3) _ _ (0, 0) hg]; simpa using a3
def CondsRet (w : World) (e : Ending) (w' : World) (n : Nat) (ds : List CD) : Prop :=
  ∃ A c els, e = .returned (.slice A els.length c) ∧ CondsAt w' A els.length els ∧ els.map CEl.d = ds ∧ (∀ e ∈ els, e.n = n) ∧ Below w.heap.size w w'
section
variable (q M : Int) (A : Option Addr) (n c : Nat) (K : Int) (xs : List Int) (hK : -1048576 ≤ K ∧ K ≤ 1048576) (hx : Tame xs) (w : World) (hI : IntsAt w A n xs)
include hK hx hI
set_option maxHeartbeats 4000000 in
theorem opp_ge : Calls Tryz.prog 99 #[condV 0 M A n c K] w fun e w' => CondsRet w e w' n (oppL 0 M n xs K) := by
  have hB := below_alloc w (.cells #[.int .i64 0, .int .i64 M, .slice A n c, .int .i64 K] 56); have h1 := hI.step hB; have B1 := CBox.new w 0 M A n c K; have c0 := B1.c0; have c1 := B1.c1; have c2 := B1.c2; have c3 := B1.c3; have HS := Lib.hid (fun W (h : IntsAt W A n xs) => cond_shifted A n c K xs (-1) (-1) (.inr rfl) hK (by omega) hx W h); obtain ⟨k1, hk1⟩ : ∃ k, -1 * K + -1 = k := ⟨_, rfl⟩; rw [hk1] at HS
  have HR := Lib.hid (show oppL 0 M n xs K = [⟨0, 0, mulL n (-1) xs, k1⟩] by unfold oppL; rw [if_pos rfl, hk1])
  have T1 : True := trivial
  clear hI hk1
  go_enter Tryz.func99, Tryz.ntmps99
  go_wp2_with (first
    | (go_at_call 126; have t1 := T1; clear T1 t1; refine (HS.out _ h1).mono ?_; rintro e w1 ⟨A1, c1, rfl, I1, F1, hb⟩; have b5 := below_alloc w1 (.cells #[.int .i64 0, .int .i64 0, .slice A1 n c1, .int .i64 k1] 56); replace hB := below_step (below_step hB hb) b5; replace h1 := (h1.step hb).step b5; replace B1 := (B1.step hb).step b5; replace I1 := I1.step b5; have X1 := CBox.new w1 0 0 A1 n c1 k1; have d0 := X1.c0; have d1 := X1.c1; have d2 := X1.c2; have d3 := X1.c3; have c0 := B1.c0; have c1' := B1.c1; have c2 := B1.c2; have c3 := B1.c3; have l1 := B1.lt; have l2 := X1.lt; clear b5))
  have b6 := below_alloc (w1.alloc (.cells #[.int .i64 0, .int .i64 0, .slice A1 n c1, .int .i64 k1] 56)) (.cells #[.int .i64 0, .int .i64 0, .slice A1 n c1, .int .i64 k1] 56)
  have G6 := heap_alloc_new (w1.alloc (.cells #[.int .i64 0, .int .i64 0, .slice A1 n c1, .int .i64 k1] 56)) (.cells #[.int .i64 0, .int .i64 0, .slice A1 n c1, .int .i64 k1] 56)
  rw [World.size_alloc] at G6
  go_ret
  refine ⟨some ⟨_, 0, none⟩, 1, [⟨0, 0, A1, n, c1, k1, mulL n (-1) xs⟩], rfl, conds_lit G6 (by simp) (fun e he => by rw [List.mem_singleton.1 he]; exact I1.step b6), ?_, (fun e he => by rw [List.mem_singleton.1 he]), below_step hB b6⟩
  rw [HR.out]; rfl
set_option maxHeartbeats 4000000 in
theorem opp_eq : Calls Tryz.prog 99 #[condV 1 M A n c K] w fun e w' => CondsRet w e w' n (oppL 1 M n xs K) := by
  have hB := below_alloc w (.cells #[.int .i64 1, .int .i64 M, .slice A n c, .int .i64 K] 56); have h1 := hI.step hB; have B1 := CBox.new w 1 M A n c K; have c0 := B1.c0; have c1 := B1.c1; have c2 := B1.c2; have c3 := B1.c3; have HS := Lib.hid (fun W (h : IntsAt W A n xs) => cond_shifted A n c K xs (-1) (-1) (.inr rfl) hK (by omega) hx W h); obtain ⟨k1, hk1⟩ : ∃ k, -1 * K + -1 = k := ⟨_, rfl⟩; rw [hk1] at HS
  have HS2 := Lib.hid (fun W (h : IntsAt W A n xs) => cond_shifted A n c K xs 1 (-1) (.inl rfl) hK (by omega) hx W h)
  obtain ⟨k2, hk2⟩ : ∃ k, 1 * K + -1 = k := ⟨_, rfl⟩
  rw [hk2] at HS2
  have HR := Lib.hid (show oppL 1 M n xs K = [⟨0, 0, mulL n 1 xs, k2⟩, ⟨0, 0, mulL n (-1) xs, k1⟩] by unfold oppL; rw [if_neg (by decide), if_pos rfl, hk1, hk2])
  have T1 : True := trivial
  clear hI hk1 hk2
  go_enter Tryz.func99, Tryz.ntmps99
  go_wp2_with (first
    | (go_at_call 126; have t1 := T1; clear T1 t1; refine (HS.out _ h1).mono ?_; rintro e w1 ⟨A1, c1, rfl, I1, F1, hb⟩; have b5 := below_alloc w1 (.cells #[.int .i64 0, .int .i64 0, .slice A1 n c1, .int .i64 k1] 56); replace hB := below_step (below_step hB hb) b5; replace h1 := (h1.step hb).step b5; replace B1 := (B1.step hb).step b5; replace I1 := I1.step b5; have X1 := CBox.new w1 0 0 A1 n c1 k1; have d0 := X1.c0; have d1 := X1.c1; have d2 := X1.c2; have d3 := X1.c3; have c0 := B1.c0; have c1' := B1.c1; have c2 := B1.c2; have c3 := B1.c3; have l1 := B1.lt; have l2 := X1.lt; clear b5))
  generalize hw3 : (w1.alloc (.cells #[.int .i64 0, .int .i64 0, .slice A1 n c1, .int .i64 k1] 56)) = w3 at *
  clear hw3
  replace hB := hB.drew
  replace h1 := h1.step (Below.refl _ w3).drew
  replace B1 := B1.step (Below.refl _ w3).drew
  replace X1 := X1.step (Below.refl _ w3).drew
  replace I1 := I1.step (Below.refl _ w3).drew
  go_region_held3 (fun W => W.cell? ⟨w.heap.size, 2, none⟩ = some (.slice A n c) ∧ W.cell? ⟨w.heap.size, 3, none⟩ = some (.int .i64 K) ∧ W.cell? ⟨w1.heap.size, 0, none⟩ = some (.int .i64 0) ∧ W.cell? ⟨w1.heap.size, 1, none⟩ = some (.int .i64 0) ∧ W.cell? ⟨w1.heap.size, 2, none⟩ = some (.slice A1 n c1) ∧ W.cell? ⟨w1.heap.size, 3, none⟩ = some (.int .i64 k1)) (first | exact ⟨e2, e3, e4, e5, e6, e7⟩ | exact ⟨c2, c3, d0, d1, d2, d3⟩ | exact ⟨g2, g3, g4, g5, g6, g7⟩ | go_keep)
    (first
      | (go_at_call 126; refine (HS2.out _ h1).mono ?_; rintro e w4 ⟨A2, c2, rfl, I2, F2, hb⟩; replace hB := below_step hB hb; replace B1 := B1.step hb; replace X1 := X1.step hb; replace I1 := I1.step hb; have e2 := B1.c2; have e3 := B1.c3; have e4 := X1.c0; have e5 := X1.c1; have e6 := X1.c2; have e7 := X1.c3; have Y1 := B1.alloc (.cells (ccells [⟨0, 0, A2, n, c2, k2, mulL n 1 xs⟩, ⟨0, 0, A1, n, c1, k1, mulL n (-1) xs⟩]).toArray 56); have Y2 := X1.alloc (.cells (ccells [⟨0, 0, A2, n, c2, k2, mulL n 1 xs⟩, ⟨0, 0, A1, n, c1, k1, mulL n (-1) xs⟩]).toArray 56); have g2 := Y1.c2; have g3 := Y1.c3; have g4 := Y2.c0; have g5 := Y2.c1; have g6 := Y2.c2; have g7 := Y2.c3))
  all_goals
    have b6 := below_alloc w4 (.cells (ccells [⟨0, 0, A2, n, c2, k2, mulL n 1 xs⟩, ⟨0, 0, A1, n, c1, k1, mulL n (-1) xs⟩]).toArray 56)
    go_wp2
    go_ret
    refine ⟨some ⟨_, 0, none⟩, 2, [⟨0, 0, A2, n, c2, k2, mulL n 1 xs⟩, ⟨0, 0, A1, n, c1, k1, mulL n (-1) xs⟩], rfl, conds_lit (heap_alloc_new w4 _) (by simp) (fun e he => by
      rcases List.mem_cons.1 he with rfl | he
      · exact I2.step b6
      · rw [List.mem_singleton.1 he]; exact I1.step b6), ?_, (fun e he => by
      rcases List.mem_cons.1 he with rfl | he
      · rfl
      · rw [List.mem_singleton.1 he]), below_step hB b6⟩
    rw [HR.out]; rfl
omit hK hx hI in
theorem range_snoc (f : Nat → CD) (i : Nat) : (List.range (i + 1)).map f = (List.range i).map f ++ [f i] := by simp [List.range_succ]
set_option maxHeartbeats 8000000 in
set_option maxRecDepth 100000 in
theorem opp_dv (hM : 1 ≤ M ∧ M ≤ 512) : Calls Tryz.prog 99 #[condV 2 M A n c K] w fun e w' => CondsRet w e w' n (oppL 2 M n xs K) := by
  have hB := below_alloc w (.cells #[.int .i64 2, .int .i64 M, .slice A n c, .int .i64 K] 56); have h1 := hI.step hB; have B1 := CBox.new w 2 M A n c K; have c0 := B1.c0; have c1 := B1.c1; have c2 := B1.c2; have c3 := B1.c3; have HS := Lib.hid (fun W (h : IntsAt W A n xs) => cond_shifted A n c K xs (-1) (-1) (.inr rfl) hK (by omega) hx W h); obtain ⟨k1, hk1⟩ : ∃ k, -1 * K + -1 = k := ⟨_, rfl⟩; rw [hk1] at HS
  have HS2 := Lib.hid (fun (i : Nat) (hi : (i : Int) ≤ 512) W (h : IntsAt W A n xs) => cond_shifted A n c K xs 1 (-(i : Int)) (.inl rfl) hK (by omega) hx W h)
  have HR := Lib.hid (show oppL 2 M n xs K = (List.range (M.toNat - 1)).map fun (r : Nat) => ⟨2, M, mulL n 1 xs, 1 * K + -((r : Int) + 1)⟩ by unfold oppL; rw [if_neg (by decide), if_neg (by decide)])
  have T1 : True := trivial
  clear hI hk1
  go_enter Tryz.func99, Tryz.ntmps99
  go_wp2_with (first
    | (go_at_call 126; have t1 := T1; clear T1 t1; refine (HS.out _ h1).mono ?_; rintro e w1 ⟨A1, c1, rfl, I1, F1, hb⟩; have b5 := below_alloc w1 (.cells #[.int .i64 0, .int .i64 0, .slice A1 n c1, .int .i64 k1] 56); replace hB := below_step (below_step hB hb) b5; replace h1 := (h1.step hb).step b5; replace B1 := (B1.step hb).step b5; replace I1 := I1.step b5; have X1 := CBox.new w1 0 0 A1 n c1 k1; have d0 := X1.c0; have d1 := X1.c1; have d2 := X1.c2; have d3 := X1.c3; have c0 := B1.c0; have c1' := B1.c1; have c2 := B1.c2; have c3 := B1.c3; have l1 := B1.lt; have l2 := X1.lt; clear b5))
  generalize hw3 : (w1.alloc (.cells #[.int .i64 0, .int .i64 0, .slice A1 n c1, .int .i64 k1] 56)) = w3 at *
  clear hw3 hb I1 F1 X1 d0 d1 d2 d3 l2 c0 c1' c2 c3
  go_loopw [4, 5] (fun u v wr => ∃ (i : Nat) (els : List CEl), (i : Int) + 1 ≤ M ∧ v = .int .i64 ((i : Int) + 1) ∧ CL w3.heap.size wr u els ∧ els.map CEl.d = (List.range i).map (fun (r : Nat) => (⟨2, M, mulL n 1 xs, 1 * K + -((r : Int) + 1)⟩ : CD)) ∧ (∀ e ∈ els, e.n = n) ∧ Below w3.heap.size w3 wr) (fun _ v _ => (M - intOf v).toNat)
  case atStart => exact ⟨0, [], by omega, by simp, CL.nil _ _, rfl, (fun e h => nomatch h), Below.refl _ _⟩
  case round =>
    obtain ⟨i, els, hi, rfl, hL, hd, hn, hbr⟩ := hrel
    have HLEN := Lib.hid (show els.length = i by have := congrArg List.length hd; simpa using this)
    have HD := Lib.hid (And.intro hd hn)
    have S1 := B1.below hbr l1
    have c1 := S1.c1
    have c2 := S1.c2
    have c3 := S1.c3
    have hNs := hbr.size
    clear hd hn
    by_cases hlt : (i : Int) + 1 < M
    · have hS3 := HS2.out (i + 1) (by omega)
      obtain ⟨kk, hkk⟩ : ∃ k, 1 * K + -(((i : Nat) : Int) + 1) = k := ⟨_, rfl⟩
      have HKK := Lib.hid hkk
      rw [show (((i + 1 : Nat) : Int)) = (i : Int) + 1 by omega, hkk] at hS3
      have HS3 := Lib.hid hS3
      have hwn : IntKind.i64.wrap (-((i : Int) + 1)) = -((i : Int) + 1) := IntWalk.i64_in _ (by omega)
      have hwp : IntKind.i64.wrap ((i : Int) + 1 + 1) = (i : Int) + 1 + 1 := IntWalk.i64_in _ (by omega)
      clear hkk hS3
      obtain ⟨A0, c00, rfl⟩ := hL.slice
      go_wp2
      have h1r := h1.step (below_step (Below.refl _ w3) hbr).drew
      replace hbr := hbr.drew
      replace hL := hL.step (Below.refl _ wr).drew
      have hNs2 : w3.heap.size ≤ wr.drew.heap.size := hNs
      go_region_held3 (fun W => W.cell? ⟨w.heap.size, 1, none⟩ = some (.int .i64 M) ∧ W.cell? ⟨w.heap.size, 2, none⟩ = some (.slice A n c) ∧ W.cell? ⟨w.heap.size, 3, none⟩ = some (.int .i64 K)) (first | exact ⟨e1, e2, e3⟩ | exact ⟨c1, c2, c3⟩ | exact ⟨g1, g2, g3⟩ | exact ⟨f1, f2, f3⟩ | go_keep)
        (first
          | (go_at_call 126; refine (HS3.out _ h1r).mono ?_; rintro e w4 ⟨A2, c2, rfl, I2, F2, hb⟩; have b5 := below_alloc w4 (.cells #[.int .i64 2, .int .i64 M, .slice A2 n c2, .int .i64 kk] 56); have hN4 := Nat.le_trans hNs2 hb.size; replace hbr := hbr.trans (hb.mono hNs2); have Z1 := B1.below hbr l1; have e1 := Z1.c1; have e2 := Z1.c2; have e3 := Z1.c3; have hbr5 := hbr.trans (b5.mono hN4); have Z2 := B1.below hbr5 l1; have g1 := Z2.c1; have g2 := Z2.c2; have g3 := Z2.c3; have L5 := (hL.step hb).step b5; have I5 := I2.step b5; have R5 := (F2.ok hNs2).step b5; have G5 := heap_alloc_new w4 (.cells #[.int .i64 2, .int .i64 M, .slice A2 n c2, .int .i64 kk] 56); have hN5 := Nat.le_trans hN4 b5.size)
          | (refine step_append_cond rfl _ _ 34 rfl rfl rfl L5 w4.heap.size ⟨2, M, A2, n, c2, kk, mulL n 1 xs⟩ rfl G5 I5 R5 (by have := HLEN.out; omega) hN5 ?_; intro g6 cap6 w6 L6 gr6 hb6; replace hbr := hbr5.trans hb6; have Z3 := B1.below hbr l1; have f1 := Z3.c1; have f2 := Z3.c2; have f3 := Z3.c3))
      all_goals
        have HN := Lib.hid (And.intro L6 hbr)
        clear L5 I5 R5 G5 hbr5 hL hN5 e1 e2 e3 g1 g2 g3 f1 f2 f3
        go_wp2
        go_roundw
        case rel => exact ⟨i + 1, els ++ [⟨2, M, A2, n, c2, kk, mulL n 1 xs⟩], by omega, by simp [hwp], HN.out.1, by rw [range_snoc, List.map_append, HD.out.1, ← HKK.out]; rfl, (fun e he => by
          rcases List.mem_append.1 he with h | h
          · exact HD.out.2 e h
          · rw [List.mem_singleton.1 h]), HN.out.2⟩
        case measure => simp [intOf, hwp]; omega
    · have hge : ¬ ((i : Int) + 1 < M) := hlt
      obtain ⟨A0, c00, rfl⟩ := hL.slice
      obtain ⟨_, hC⟩ := hL.conds
      have hend := below_step hB hbr
      clear hL
      go_wp2
      go_ret
      exact ⟨A0, c00, els, rfl, hC, by rw [HD.out.1, HR.out, show M.toNat - 1 = i by omega], HD.out.2, hend⟩
end
end Go.Proofs.YtkgnlloioaobiaaGreat
