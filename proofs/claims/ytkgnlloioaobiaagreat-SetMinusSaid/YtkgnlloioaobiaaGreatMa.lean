/-
  Part 1 of the texts that the laws stand on, merged: what each part says stands at its own head.
-/
import Derived.WalkKit
import Derived.ProofKit
import Derived.OpenShut
import Derived.SizedLaws
import Derived.Handy
import Derived.Deep.Draws
import Derived.Test.YtkgnlloioaobiaaGreatProg
import Derived.Deep.QuietTactic
import Derived.BigQuiet
import Derived.Lib.Hide
import Derived.OwnWalk
import Derived.Laws.OwnMore
import Derived.RangeFuncNested
import Derived.RangeFuncBound
import Derived.RangeFuncCalls
import Derived.RangeFuncLeaves
import Derived.Shelf.Abstract
import Derived.Shelf.RegionOpen
import Derived.OwnWalkIn
import Derived.TacticsInMore
import Derived.LoopNIn
import Derived.LoopIn
import Derived.OrdersIn
import Derived.OrdersHeld
import Derived.Orders
import Derived.TacticsIn
import Derived.Deep.RegionHeld3
import Derived.BigRegion
import Derived.Deep.Cut

/-
  What every proof of a law here shares: slices of integers as lists, and the step from a contract of the law's function to what its row asks of the world.
-/
namespace Go.Proofs.YtkgnlloioaobiaaGreat
open Go.ChangeShapes Go.WideShapes Go.ChangeAt Go.RowKit

section lift
variable {H : Type} {enc : TypeId × Value → H} {P : Program}

/-- Arguments that lie below the heap's old size read as they did. -/
theorem args_stay (hl : laidOutB P = true) {W W' : World} (hb : Below W.heap.size W W') :
    ∀ {ts : List TypeId} {vs : List Value} {ds : List (DataW H)} {p : List MemPlace}, (∀ t ∈ ts, P.readableRec t = true ∧ t < P.types.size) → (∀ x ∈ p, x.block < W.heap.size) →
      DataW.TrodAll enc P W 0 (fun _ => true) true ts vs ds p → DataW.TrodAll enc P W' 0 (fun b => decide (b < W.heap.size)) true ts vs ds p
  | [], vs, ds, p, _, _, h => by
    obtain ⟨rfl, rfl, rfl⟩ := trodAll_nil h
    exact trodAll_mk0
  | t :: ts, vs, ds, p, ht, hp, h => by
    obtain ⟨v, vs', d, ds', p1, p2, rfl, rfl, rfl, h1, h2⟩ := trodAll_cons h
    have a := ht t List.mem_cons_self
    exact trodAll_cons_mk (Below.trod hl a.1 a.2 h1 hb fun x hx => hp x (List.mem_append_left _ hx))
      (args_stay hl hb (fun t' h' => ht t' (List.mem_cons_of_mem _ h')) (fun x hx => hp x (List.mem_append_right _ hx)) h2)

/-- A law's call that returned true and left the old blocks alone. -/
theorem law_post {f : Func} {s : ChangeSpec} {W W' : World} {args : Array Value} {ds gs : List (DataW H)} {before : List MemPlace} {tb : TypeId}
    (hl : laidOutB P = true) (hr : ∀ t ∈ f.params.toList, P.readableRec t = true ∧ t < P.types.size) (hvars : s.vars = []) (hres : f.resultTypes = #[tb]) (htb : P.underlying tb = some .bool)
    (hfn : s.fn H (ds ++ gs) = { results := [.lit (.bool true)], args := ds })
    (hW : DataW.Whole enc P f.params.toList s.vars false W args.toList ds gs before) (hb : Below W.heap.size W W') :
    s.post enc P f false true false false W args (.bool true) W' := by
  have hlt := hW.lt
  have hW' := hW
  obtain ⟨p, q, hA, hV, rfl, _, _⟩ := hW
  rw [hvars] at hV
  obtain ⟨rfl, rfl⟩ := trodVars_none hV
  refine ⟨ds, [], p ++ [], [], p, [], hW', ?_, ?_, ?_, hb.frame _, fun h => by cases h⟩
  · rw [hfn, hres]; exact trodAll_mk1 (shut_bool htb _)
  · rw [hfn]; exact args_stay hl hb hr (fun x hx => hlt x (List.mem_append_left _ hx)) hA
  · rw [hfn, hvars]; exact rfl
theorem weights_cons {q : Nat → Bool} {t : TypeId} {ts : List TypeId} {d : DataW H} {ds : List (DataW H)} (h : (DataW.weightsEach P (t :: ts) (d :: ds)).all q = true) :
    (d.weights P t).all q = true ∧ (DataW.weightsEach P ts ds).all q = true := by
  simpa only [DataW.weightsEach, List.all_append, Bool.and_eq_true] using h
end lift

theorem below_of_drewN {w : World} (k : Nat) : Below w.heap.size w (w.drewN k) := ⟨rfl, rfl, rfl, Nat.le_refl _, fun _ _ => rfl⟩

/-- The slice of address A, length n holds the integers xs, below block B. -/
structure Ints (w : World) (B : Nat) (A : Option Addr) (n : Nat) (xs : List Int) : Prop where
  len : xs.length = n
  small : n ≤ 17592186044416
  wf : ∀ x ∈ xs, -9223372036854775808 ≤ x ∧ x ≤ 9223372036854775807
  cells : 0 < n → ∃ b off, A = some ⟨b, off, none⟩ ∧ b < B ∧ ∀ j, j < n → w.cell? ⟨b, off + j, none⟩ = some (.int .i64 (xs[j]?.getD 0))

theorem Ints.below {w w' : World} {B B' n : Nat} {A : Option Addr} {xs : List Int} (h : Ints w B A n xs) (hb : Below B' w w') (hB : B ≤ B') : Ints w' B A n xs :=
  ⟨h.len, h.small, h.wf, fun hn => by
    obtain ⟨b, off, e, hlt, hc⟩ := h.cells hn
    exact ⟨b, off, e, hlt, fun j hj => (hb.cell (p := ⟨b, off + j, none⟩) (by show b < B'; omega)).trans (hc j hj)⟩⟩

theorem Ints.rng {w : World} {B n : Nat} {A : Option Addr} {xs : List Int} (h : Ints w B A n xs) (j : Nat) : -9223372036854775808 ≤ xs[j]?.getD 0 ∧ xs[j]?.getD 0 ≤ 9223372036854775807 := by
  by_cases hj : j < xs.length
  · have : xs[j]?.getD 0 = xs[j] := by simp [hj]
    rw [this]; exact h.wf _ (List.getElem_mem hj)
  · have : xs[j]?.getD 0 = 0 := by simp [hj]
    rw [this]; omega

theorem Ints.mem {w : World} {B n : Nat} {A : Option Addr} {xs : List Int} (h : Ints w B A n xs) {j : Nat} (hj : j < n) : xs[j]?.getD 0 ∈ xs := by
  have hj' : j < xs.length := by rw [h.len]; exact hj
  have : xs[j]?.getD 0 = xs[j] := by simp [hj']
  rw [this]; exact List.getElem_mem hj'

theorem foldl_take {α : Type} (f : α → Int → α) (a : α) (xs : List Int) {i : Nat} (hi : i < xs.length) : (xs.take (i + 1)).foldl f a = f ((xs.take i).foldl f a) (xs[i]?.getD 0) := by
  rw [List.take_succ_eq_append_getElem hi, List.foldl_append]
  simp [hi]

/-- An argument that is a slice of integers. -/
theorem ints_of {H : Type} {enc : TypeId × Value → H} {P : Program} {w : World} {r : Reach} {b0 : Nat} {t e : TypeId} {v : Value} {d : DataW H} {p : List MemPlace}
    (ht : P.underlying t = some (.slice e)) (he : P.underlying e = some (.int .i64)) (hc : P.cellsOf e = 1) (hbytes : P.bytesOf e = 8)
    (hok : Value.okWide P w r b0 t v) (hlt : ∀ x ∈ p, x.block < w.heap.size) (hsz : (d.weights P t).all (· ≤ reachBytes) = true)
    (h : DataW.Trod enc P w 0 (fun _ => true) true t v d p) : ∃ A n c xs, v = .slice A n c ∧ Ints w w.heap.size A n xs := by
  obtain ⟨a0, len, cap, rfl⟩ := okWide_slice ht hok
  obtain ⟨fuel, hf⟩ := h
  rcases open_ints ht he hc hf with ⟨hcs, hx⟩ | ⟨a, len', cap', zs, hcs, _, hl, hm, hz, hx, hcell, hwz⟩
  · simp [Value.cells] at hcs
    obtain ⟨rfl, rfl, rfl⟩ := hcs
    exact ⟨none, 0, 0, [], rfl, ⟨rfl, by omega, fun x hx => by simp at hx, fun h => absurd h (by omega)⟩⟩
  · simp [Value.cells] at hcs
    obtain ⟨rfl, rfl, rfl⟩ := hcs
    simp only [Prod.mk.injEq] at hx
    obtain ⟨rfl, rfl⟩ := hx
    simp only [if_true] at hz
    have hreach : (zs.length) * 8 ≤ reachBytes := by
      have := List.all_eq_true.1 hsz
      simp only [DataW.weights, ht] at this
      have h0 := this _ List.mem_cons_self
      rw [hbytes] at h0
      simp only [lits, List.length_map, List.length_take, List.length_drop, decide_eq_true_eq] at h0
      have : min len zs.length + (zs.length - len) = zs.length := by omega
      rw [this] at h0
      exact h0
    have hn : len ≤ 17592186044416 := by unfold reachBytes at hreach; omega
    refine ⟨some a, len, cap, zs.take len, rfl, ⟨by rw [List.length_take]; omega, hn, fun x hx => bounds_i64 (hwz x (List.mem_of_mem_take hx)), fun h0 => ?_⟩⟩
    obtain ⟨b, off, spot⟩ := a
    have hspot : spot = none := by simpa [Addr.add] using World.cell?_spot (hcell 0 (by omega))
    subst hspot
    refine ⟨b, off, rfl, hlt (.cell b off) (MemPlace.mem_row.2 ⟨0, by omega, by simp⟩), fun j hj => ?_⟩
    rw [← add_plain, hcell j (by omega)]
    congr 2
    simp [List.getD, hj]

end Go.Proofs.YtkgnlloioaobiaaGreat

/-
  Plain facts on numbers for the proofs of layer 1.
-/
namespace Go.Proofs.YtkgnlloioaobiaaGreat

theorem tmod_cases (a b : Int) (hb : 1 ≤ b) : (a.tmod b = a % b ∧ a.tdiv b = a / b ∧ (0 ≤ a ∨ a % b = 0)) ∨ (a.tmod b = a % b - b ∧ a.tdiv b = a / b + 1 ∧ a < 0 ∧ a % b ≠ 0) := by
  have h1 := @Int.tdiv_eq_ediv a b
  have h2 := @Int.tmod_eq_emod a b
  have hs : b.sign = 1 := Int.sign_eq_one_of_pos (by omega)
  have hn : (b.natAbs : Int) = b := by omega
  rw [hs] at h1
  by_cases h : 0 ≤ a ∨ b ∣ a
  · rw [if_pos h] at h1 h2
    refine .inl ⟨by omega, by omega, ?_⟩
    rcases h with h | h
    · exact .inl h
    · exact .inr (Int.emod_eq_zero_of_dvd h)
  · rw [if_neg h] at h1 h2
    refine .inr ⟨by omega, h1, by omega, fun hz => h (.inr (Int.dvd_of_emod_eq_zero hz))⟩

theorem div_bd (a b : Int) (hb : 1 ≤ b) : (0 ≤ a → 0 ≤ a / b ∧ a / b ≤ a) ∧ (a < 0 → a ≤ a / b ∧ a / b < 0) := by
  refine ⟨fun h => ⟨Int.ediv_nonneg h (by omega), Int.ediv_le_self b h⟩, fun h => ⟨?_, Int.ediv_neg_of_neg_of_pos h (by omega)⟩⟩
  rw [Int.le_ediv_iff_mul_le (by omega)]
  have := Int.mul_le_mul_of_nonpos_left (a := a) (show a ≤ 0 by omega) hb
  omega

def ceilDiv (a b : Int) : Int := if a % b = 0 then a / b else a / b + 1

theorem ceil_lt (a b : Int) (hb : 1 ≤ b) : a % b ≠ 0 → 0 ≤ a → a / b < a := by
  intro h h0
  have h1 : b ≠ 1 := fun e => h (by rw [e]; omega)
  have h2 : 0 < a := by
    rcases Int.lt_or_eq_of_le h0 with h2 | h2
    · exact h2
    · exact absurd (by rw [← h2]; simp) h
  rw [Int.ediv_lt_iff_lt_mul (by omega)]
  have := Int.mul_lt_mul_of_pos_left (show 1 < b by omega) h2
  omega

end Go.Proofs.YtkgnlloioaobiaaGreat

/-
  Contracts for the functions of package num, and of its reference, that only compute with numbers.
-/
namespace Go.Proofs.YtkgnlloioaobiaaGreat
open Go.RowKit
set_option linter.unusedVariables false

theorem own : ownKnob Tryz.prog.godebug = none := by kernel_rfl
theorem laidOut : laidOutB Tryz.prog = true := by kernel_rfl

theorem ret_bool {a b : Bool} (h : a = b) : Ending.returned (.bool a) = .returned (.bool b) := by rw [h]
theorem ret1 {a b : Value} (h : a = b) : Ending.returned a = .returned b := by rw [h]
theorem ret2 {a b c d : Value} (h : a = b) (h' : c = d) : Ending.returned (.tuple #[a, c]) = .returned (.tuple #[b, d]) := by rw [h, h']
theorem vint {k : IntKind} {a b : Int} (h : a = b) : Value.int k a = .int k b := by rw [h]

/-- A valid coefficient. -/
def fitsB (n : Int) : Bool := decide (-1048576 ≤ n ∧ n ≤ 1048576)
theorem fitsB_true {n : Int} : fitsB n = true ↔ -1048576 ≤ n ∧ n ≤ 1048576 := by unfold fitsB; simp
theorem fitsB_false {n : Int} : fitsB n = false ↔ ¬ (-1048576 ≤ n ∧ n ≤ 1048576) := by unfold fitsB; simp

theorem num_fits (n : Int) (w : World) : Calls Tryz.prog 111 #[.int .i64 n] w fun e w' => e = .returned (.bool (fitsB n)) ∧ w = w' := by
  by_cases h1 : -1048576 ≤ n
  all_goals
    go_enter Tryz.func111, Tryz.ntmps111
    go_wp2
    go_ret
    exact ⟨ret_bool (by unfold fitsB; simp; omega), rfl⟩

theorem num_mod (a b : Int) (wa : -9223372036854775808 ≤ a) (wa' : a ≤ 9223372036854775807) (wb : b ≤ 9223372036854775807) (hb : 1 ≤ b) (w : World) : Calls Tryz.prog 89 #[.int .i64 a, .int .i64 b] w fun e w' => e = .returned (.tuple #[.int .i64 (a % b), .int .i64 0]) ∧ w = w' := by
  have hc := tmod_cases a b hb
  have m0 := Int.emod_nonneg a (show b ≠ 0 by omega)
  have m1 := Int.emod_lt_of_pos a (show 0 < b by omega)
  have HC := Lib.hid (And.intro hc (And.intro m0 m1))
  clear hc m0 m1
  by_cases g1 : a.tmod b < 0
  · go_enter Tryz.func89, Tryz.ntmps89
    go_wp2
    go_ret2
    exact ⟨ret2 (vint (by have := HC.out; unfold wrap64; omega)) rfl, rfl⟩
  · go_enter Tryz.func89, Tryz.ntmps89
    go_wp2
    go_ret2
    exact ⟨ret2 (vint (by have := HC.out; omega)) rfl, rfl⟩

theorem num_Mod_bad (a b : Int) (hb : b < 1) (w : World) : Calls Tryz.prog 89 #[.int .i64 a, .int .i64 b] w fun e w' => e = .returned (.tuple #[.int .i64 0, .int .i64 1]) ∧ w = w' := by
  go_enter Tryz.func89, Tryz.ntmps89
  go_wp2
  go_ret2
  exact ⟨rfl, rfl⟩

theorem headlandref01_fits (n : Int) (w : World) : Calls Tryz.prog 108 #[.int .i64 n] w fun e w' => e = .returned (.bool (fitsB n)) ∧ w = w' := by
  by_cases h1 : -1048576 ≤ n
  all_goals
    go_enter Tryz.func108, Tryz.ntmps108
    go_wp2
    go_ret
    exact ⟨ret_bool (by unfold fitsB; simp; omega), rfl⟩

theorem headlandref01_floor (a b : Int) (wa : -9223372036854775808 ≤ a) (wa' : a ≤ 9223372036854775807) (wb : b ≤ 9223372036854775807) (hb : 1 ≤ b) (w : World) : Calls Tryz.prog 104 #[.int .i64 a, .int .i64 b] w fun e w' => e = .returned (.tuple #[.int .i64 (a / b), .int .i64 0]) ∧ w = w' := by
  have hc := tmod_cases a b hb
  have hd := div_bd a b hb
  have m0 := Int.emod_nonneg a (show b ≠ 0 by omega)
  have m1 := Int.emod_lt_of_pos a (show 0 < b by omega)
  rcases hc with ⟨h1, h2, h3⟩ | ⟨h1, h2, h3, h4⟩
  · have HC := Lib.hid (And.intro h1 h2)
    clear h1 h2
    have g1 : 0 ≤ a.tmod b := by have := HC.out; omega
    clear m0 m1 hd
    go_enter Tryz.func104, Tryz.ntmps104
    go_wp2
    go_ret2
    exact ⟨ret2 (vint HC.out.2) rfl, rfl⟩
  · have HC := Lib.hid (And.intro h1 (And.intro h2 (And.intro h3 (And.intro hd h4))))
    have g1 : a.tmod b < 0 := by omega
    clear h1 h2 h4 hd m0 m1
    go_enter Tryz.func104, Tryz.ntmps104
    go_wp2
    go_ret2
    exact ⟨ret2 (vint (by have := HC.out; unfold wrap64; omega)) rfl, rfl⟩

theorem headlandref01_mod (a b : Int) (wa : -9223372036854775808 ≤ a) (wa' : a ≤ 9223372036854775807) (wb : b ≤ 9223372036854775807) (hb : 1 ≤ b) (w : World) : Calls Tryz.prog 106 #[.int .i64 a, .int .i64 b] w fun e w' => e = .returned (.tuple #[.int .i64 (a % b), .int .i64 0]) ∧ w = w' := by
  have hc := tmod_cases a b hb
  have m0 := Int.emod_nonneg a (show b ≠ 0 by omega)
  have m1 := Int.emod_lt_of_pos a (show 0 < b by omega)
  have HC := Lib.hid (And.intro hc (And.intro m0 m1))
  clear hc m0 m1
  by_cases g1 : a.tmod b < 0
  · go_enter Tryz.func106, Tryz.ntmps106
    go_wp2
    go_ret2
    exact ⟨ret2 (vint (by have := HC.out; unfold wrap64; omega)) rfl, rfl⟩
  · go_enter Tryz.func106, Tryz.ntmps106
    go_wp2
    go_ret2
    exact ⟨ret2 (vint (by have := HC.out; omega)) rfl, rfl⟩

theorem headlandref01_Floor_bad (a b : Int) (hb : b < 1) (w : World) : Calls Tryz.prog 104 #[.int .i64 a, .int .i64 b] w fun e w' => e = .returned (.tuple #[.int .i64 0, .int .i64 1]) ∧ w = w' := by
  go_enter Tryz.func104, Tryz.ntmps104
  go_wp2
  go_ret2
  exact ⟨rfl, rfl⟩

theorem headlandref01_Mod_bad (a b : Int) (hb : b < 1) (w : World) : Calls Tryz.prog 106 #[.int .i64 a, .int .i64 b] w fun e w' => e = .returned (.tuple #[.int .i64 0, .int .i64 1]) ∧ w = w' := by
  go_enter Tryz.func106, Tryz.ntmps106
  go_wp2
  go_ret2
  exact ⟨rfl, rfl⟩

end Go.Proofs.YtkgnlloioaobiaaGreat

/-
  What the proofs of layer 2 share: integers of the world at hand, expressions, and what stays behind a call.
-/
namespace Go.Proofs.YtkgnlloioaobiaaGreat
open Go.RowKit
set_option linter.unusedVariables false

/-- The slice holds the integers xs, in a block that lies in the world. -/
def IntsAt (w : World) (A : Option Addr) (n : Nat) (xs : List Int) : Prop := Ints w w.heap.size A n xs

theorem Ints.mono {w : World} {B B' n : Nat} {A : Option Addr} {xs : List Int} (h : Ints w B A n xs) (hB : B ≤ B') : Ints w B' A n xs :=
  ⟨h.len, h.small, h.wf, fun hn => by
    obtain ⟨b, off, e, hlt, hc⟩ := h.cells hn
    exact ⟨b, off, e, by omega, hc⟩⟩

theorem IntsAt.step {w w' : World} {n : Nat} {A : Option Addr} {xs : List Int} (h : IntsAt w A n xs) (hb : Below w.heap.size w w') : IntsAt w' A n xs :=
  (Ints.below h hb (Nat.le_refl _)).mono hb.size

theorem below_step {w0 w w' : World} (h : Below w0.heap.size w0 w) (hb : Below w.heap.size w w') : Below w0.heap.size w0 w' := h.trans (hb.mono h.size)
theorem below_alloc (w : World) (o : Obj) : Below w.heap.size w (w.alloc o) := (Below.refl _ w).alloc (Nat.le_refl _) o

/-- A valid expression: at most 12 coefficients; these and the constant fit. -/
def validB (xs : List Int) (K : Int) : Bool := decide (xs.length ≤ 12) && fitsB K && xs.all fitsB

theorem validB_true {xs : List Int} {K : Int} : validB xs K = true ↔ xs.length ≤ 12 ∧ fitsB K = true ∧ ∀ x ∈ xs, fitsB x = true := by
  unfold validB; simp [and_assoc]

theorem getD_mem {xs : List Int} {j : Nat} (h : j < xs.length) : xs[j]?.getD 0 ∈ xs := by
  have e : xs[j]?.getD 0 = xs[j] := by simp [h]
  rw [e]; exact List.getElem_mem h

theorem all_getD {xs : List Int} {p : Int → Prop} : (∀ x ∈ xs, p x) ↔ ∀ j, j < xs.length → p (xs[j]?.getD 0) :=
  ⟨fun h j hj => h _ (getD_mem hj), fun h x hx => by
    obtain ⟨j, hj, rfl⟩ := List.getElem_of_mem hx
    have := h j hj
    have e : xs[j]?.getD 0 = xs[j] := by simp [hj]
    rwa [e] at this⟩

/-- Block g holds just the integers xs, and none of its cells is frozen. -/
def Row (w : World) (g : Nat) (xs : List Int) : Prop := w.heap[g]? = some (.cells (xs.map (Value.int .i64)).toArray 3 (0, 0))

theorem Row.lt {w : World} {g : Nat} {xs : List Int} (h : Row w g xs) : g < w.heap.size := (Array.getElem?_eq_some_iff.1 h).1
theorem Row.cell {w : World} {g : Nat} {xs : List Int} (h : Row w g xs) {j : Nat} (hj : j < xs.length) : w.cell? ⟨g, j, none⟩ = some (.int .i64 (xs[j]?.getD 0)) := by
  rw [cell_of_row w g j _ _ (0, 0) h]; simp [hj]
theorem Row.free {w : World} {g : Nat} {xs : List Int} (h : Row w g xs) (j : Nat) : w.frozen? ⟨g, j, none⟩ = false := by
  unfold Row at h; simp [World.frozen?, h]
theorem Row.below {w w' : World} {g B : Nat} {xs : List Int} (h : Row w g xs) (hb : Below B w w') (hg : g < B) : Row w' g xs := (hb.block g hg).trans h
theorem Row.step {w w' : World} {g : Nat} {xs : List Int} (h : Row w g xs) (hb : Below w.heap.size w w') : Row w' g xs := h.below hb h.lt
theorem Row.drewN {w : World} {g : Nat} {xs : List Int} (h : Row w g xs) (k : Nat) : Row (w.drewN k) g xs := h
theorem Row.other {w : World} {g : Nat} {xs : List Int} (h : Row w g xs) {a : Addr} (ha : g ≠ a.block) (u : Value) : Row (w.setCell a u) g xs := (Below.heap_setCell w a u g ha).trans h
theorem Row.set {w : World} {g : Nat} {xs : List Int} (h : Row w g xs) {j : Nat} (hj : j < xs.length) (x : Int) : Row (w.setCell ⟨g, j, none⟩ (.int .i64 x)) g (xs.set j x) := by
  have hlt := h.lt
  unfold Row at h ⊢
  simp only [World.setCell]
  rw [Array.getElem?_modify]
  simp [h, List.map_set]
theorem Row.new (w : World) (xs : List Int) : Row (w.alloc (.cells (xs.map (Value.int .i64)).toArray 3)) w.heap.size xs := heap_alloc_new w _
theorem Row.ints {w : World} {g n : Nat} {xs : List Int} (h : Row w g xs) (hn : xs.length = n) (hs : n ≤ 17592186044416) (hw : ∀ x ∈ xs, -9223372036854775808 ≤ x ∧ x ≤ 9223372036854775807) : IntsAt w (some ⟨g, 0, none⟩) n xs :=
  ⟨hn, hs, hw, fun _ => ⟨g, 0, rfl, h.lt, fun j hj => by simpa using h.cell (j := j) (by omega)⟩⟩

def zeros (n : Nat) : List Int := List.replicate n 0
theorem zeros_len (n : Nat) : (zeros n).length = n := by simp [zeros]
theorem ints_nil (w : World) (A : Option Addr) : IntsAt w A 0 [] := ⟨rfl, (by omega), (fun x hx => by cases hx), (fun h => absurd h (by omega))⟩

theorem infoInt : (Tryz.prog.info? 3).map (fun i => (i.zero, i.size, i.bytes)) = some (some (.int .i64 0), 1, 8) := by kernel_rfl

theorem make_ints (n : Nat) (hn : n ≤ 17592186044416) (w : World) :
    (Instr.makeSlice 38 (.int .i64 (n : Int)) (.int .i64 (n : Int))).run Tryz.prog w = .ok (.slice (some ⟨w.heap.size, 0, none⟩) n n) (w.alloc (.cells ((zeros n).map (Value.int .i64)).toArray 3)) := by
  obtain ⟨i0, hi, hz0, hz1, hz2⟩ := info_parts infoInt
  have h := run_make (P := Tryz.prog) w 38 3 i0 _ Tryz.underlying38 hi hz0 .i64 .i64 (n : Int) (n : Int) (by omega) (by omega) (by rw [hz2]; omega) (by omega)
  rw [h, hz1]
  have e : madeCells (Value.int .i64 0).cells (n * 1) = ((zeros n).map (Value.int .i64)).toArray := by
    apply Array.ext'
    simp [madeCells, zeros, Value.cells, Nat.mod_one, List.eq_replicate_iff]
  simp only [Int.toNat_natCast]
  rw [e]

/-- Block b is a variable that holds an expression. -/
def LBox (w : World) (b : Nat) (A : Option Addr) (n c : Nat) (K : Int) : Prop := w.heap[b]? = some (.cells #[.slice A n c, .int .i64 K] 54 (0, 0))
theorem LBox.new (w : World) (A : Option Addr) (n c : Nat) (K : Int) : LBox (w.alloc (.cells #[.slice A n c, .int .i64 K] 54)) w.heap.size A n c K := heap_alloc_new w _
theorem LBox.lt {w : World} {b : Nat} {A : Option Addr} {n c : Nat} {K : Int} (h : LBox w b A n c K) : b < w.heap.size := (Array.getElem?_eq_some_iff.1 h).1
theorem LBox.alloc {w : World} {b : Nat} {A : Option Addr} {n c : Nat} {K : Int} (h : LBox w b A n c K) (o : Obj) : LBox (w.alloc o) b A n c K := (Below.heap_alloc w o b h.lt).trans h
theorem LBox.below {w w' : World} {b B : Nat} {A : Option Addr} {n c : Nat} {K : Int} (h : LBox w b A n c K) (hb : Below B w w') (hB : b < B) : LBox w' b A n c K := (hb.block b hB).trans h
theorem LBox.step {w w' : World} {b : Nat} {A : Option Addr} {n c : Nat} {K : Int} (h : LBox w b A n c K) (hb : Below w.heap.size w w') : LBox w' b A n c K := h.below hb h.lt
theorem LBox.c0 {w : World} {b : Nat} {A : Option Addr} {n c : Nat} {K : Int} (h : LBox w b A n c K) : w.cell? ⟨b, 0, none⟩ = some (.slice A n c) := by
  rw [cell_of_row w b 0 _ _ (0, 0) h]; rfl
theorem LBox.c1 {w : World} {b : Nat} {A : Option Addr} {n c : Nat} {K : Int} (h : LBox w b A n c K) : w.cell? ⟨b, 1, none⟩ = some (.int .i64 K) := by
  rw [cell_of_row w b 1 _ _ (0, 0) h]; rfl
theorem LBox.f {w : World} {b : Nat} {A : Option Addr} {n c : Nat} {K : Int} (h : LBox w b A n c K) (j : Nat) : w.frozen? ⟨b, j, none⟩ = false := by
  unfold LBox at h; simp [World.frozen?, h]
theorem LBox.store {w : World} {b : Nat} {A : Option Addr} {n c : Nat} {K : Int} (h : LBox w b A n c K) (A' : Option Addr) (n' c' : Nat) (K' : Int) :
    LBox ((w.setCell ⟨b, 0, none⟩ (.slice A' n' c')).setCell ⟨b, 1, none⟩ (.int .i64 K')) b A' n' c' K' := by
  unfold LBox at h ⊢
  simp only [World.setCell]
  rw [Array.getElem?_modify, if_pos rfl, Array.getElem?_modify, if_pos rfl, h]
  rfl
theorem LBox.s0 {w : World} {b : Nat} {A : Option Addr} {n c : Nat} {K : Int} (h : LBox w b A n c K) (v : Value) : (w.setCell ⟨b, 0, none⟩ v).cell? ⟨b, 0, none⟩ = some v :=
  World.cell?_setCell_same' _ _ _ (by rw [h.c0]; rfl)
theorem below_store2 {w0 w : World} (h : Below w0.heap.size w0 w) {b : Nat} (hb : w0.heap.size ≤ b) (u v : Value) : Below w0.heap.size w0 ((w.setCell ⟨b, 0, none⟩ u).setCell ⟨b, 1, none⟩ v) :=
  (h.setCell (p := ⟨b, 0, none⟩) hb u).setCell (p := ⟨b, 1, none⟩) hb v
end Go.Proofs.YtkgnlloioaobiaaGreat

/-
  The iterator of package lin over the coefficients that are not 0, and lin.Valid.
-/
namespace Go.Proofs.YtkgnlloioaobiaaGreat
open Go.RowKit Go.Shelf
set_option linter.unusedVariables false

attribute [local go_sem] Oper.semAt_some

/-- A place whose coefficient is not 0. -/
abbrev NzAt (n : Nat) (xs : List Int) : Type := { i : Nat // i < n ∧ xs[i]?.getD 0 ≠ 0 }
/-- The places below k. -/
def nzl (n : Nat) (xs : List Int) : Nat → List (NzAt n xs)
  | 0 => []
  | k + 1 => if h : k < n ∧ xs[k]?.getD 0 ≠ 0 then nzl n xs k ++ [⟨k, h⟩] else nzl n xs k
theorem nzl_len (n : Nat) (xs : List Int) : ∀ k, (nzl n xs k).length ≤ k
  | 0 => Nat.le_refl _
  | k + 1 => by
    have := nzl_len n xs k
    rw [nzl]
    split
    · rw [List.length_append, List.length_singleton]; omega
    · omega
theorem nzl_hit {n : Nat} {xs : List Int} {k : Nat} (h : k < n ∧ xs[k]?.getD 0 ≠ 0) : nzl n xs (k + 1) = nzl n xs k ++ [⟨k, h⟩] := by rw [nzl, dif_pos h]
theorem nzl_miss {n : Nat} {xs : List Int} {k : Nat} (h : xs[k]?.getD 0 = 0) : nzl n xs (k + 1) = nzl n xs k := by rw [nzl, dif_neg (fun h' => h'.2 h)]
theorem nzl_mem {n : Nat} {xs : List Int} : ∀ {k : Nat} (i : NzAt n xs), i.1 < k → i ∈ nzl n xs k
  | k + 1, i, hi => by
    rw [nzl]
    split
    · rcases Nat.lt_or_eq_of_le (Nat.le_of_lt_succ hi) with h | h
      · exact List.mem_append_left _ (nzl_mem i h)
      · exact List.mem_append_right _ (List.mem_singleton.2 (Subtype.ext h))
    · rename_i hno
      rcases Nat.lt_or_eq_of_le (Nat.le_of_lt_succ hi) with h | h
      · exact nzl_mem i h
      · exact absurd (h ▸ i.2) hno

def nzEnc (n : Nat) (xs : List Int) (i : NzAt n xs) : Array Value := #[.int .i64 (i.1 : Int), .int .i64 (xs[i.1]?.getD 0)]

set_option maxRecDepth 100000 in
set_option maxHeartbeats 2000000 in
theorem terms1_in (F : Fence) (N : Nat) (hf : F.fn 133) (hro : F.round = none) (hN : 1 ≤ N) (l Bs n₀ : Nat) (A : Option Addr) (n c : Nat) (K : Int) (xs : List Int) (J Jx : List (NzAt n xs) → World → Prop)
    (hY : ∀ pre x W, J pre W → pre.length < n → YieldAt F (N - 1) Tryz.prog l (nzEnc n xs x) W fun e W' =>
      (e = .returned (.bool true) ∧ J (pre ++ [x]) W' ∧ Below n₀ W W') ∨ (e = .returned (.bool false) ∧ Jx (pre ++ [x]) W'))
    (W : World) (hBs : W.cell? ⟨Bs, 0, none⟩ = some (.slice A n c)) (hI : Ints W n₀ A n xs) (h0 : J [] W) :
    CallsIn F N Tryz.prog 133 #[.func (.yield l) #[] #[], .pointer (some ⟨Bs, 0, none⟩)] W fun e W' => (∃ v, e = .returned v) ∧
      ((∃ ys, ys = nzl n xs n ∧ J ys W') ∨ (∃ pre, (∃ k, k ≤ n ∧ pre = nzl n xs k) ∧ Jx pre W')) := by
  have hsm := hI.small
  refine callsIn_of_wp Tryz.func133 rfl hf ?_ hro
  simp only [Tryz.ntmps133, List.size_toArray, List.length_cons, List.length_nil, Nat.reduceAdd, Nat.reduceSub, Array.replicate_succ, Array.replicate_zero, List.push_toArray, List.append_toArray, List.nil_append, List.cons_append]
  gi_wp2
  gi_loopw [8] (fun i wr => ∃ k : Nat, k ≤ n ∧ i = .int .i64 k ∧ J (nzl n xs k) wr ∧ Below n₀ W wr) (fun i _ => n - (intOf i).toNat)
  case atStart => exact ⟨0, Nat.zero_le _, rfl, h0, Below.refl _ _⟩
  case round =>
    obtain ⟨k, hk, rfl, hJs, hnx⟩ := hrel
    by_cases hlt : k < n
    · obtain ⟨b, off, rfl, hb, hc⟩ := hI.cells (by omega)
      have hcx : wr.cell? ⟨b, off + k, none⟩ = some (.int .i64 (xs[k]?.getD 0)) := (hnx.cell (p := ⟨b, off + k, none⟩) hb).trans (hc k hlt)
      clear hc
      by_cases hz : xs[k]?.getD 0 = 0
      · have HM := Lib.hid (nzl_miss (n := n) hz)
        rw [hz] at hcx
        clear hz
        gi_wp2
        refine ⟨fun _ h => (by cases h), ?_⟩
        gi_wp2
        go_roundw
        case rel => exact ⟨k + 1, by omega, by simp, by rw [HM.out]; exact hJs, hnx⟩
        case measure => simp [intOf]; omega
      · obtain ⟨x, hx, hm⟩ : ∃ x : NzAt n xs, x.1 = k ∧ nzl n xs (k + 1) = nzl n xs k ++ [x] := ⟨⟨k, hlt, hz⟩, rfl, nzl_hit ⟨hlt, hz⟩⟩
        have HM := Lib.hid hm
        obtain ⟨fn, tmps, assign, body, hy, hR⟩ := hY _ x wr hJs (by have := nzl_len n xs k; omega)
        dsimp only [nzEnc] at hy
        rw [hx] at hy
        clear hm hx
        have hz' : (xs[k]?.getD 0 != 0) = true := by simpa using hz
        have hz'' : (xs[k]?.getD 0 == 0) = false := by simpa using hz
        clear hz
        gi_wp2
        refine hR.mono ?_
        rintro e W3 (⟨rfl, hJ3, hk3⟩ | ⟨rfl, hJx3⟩)
        · gi_wp2
          go_roundw
          case rel => exact ⟨k + 1, by omega, by simp, by rw [HM.out]; exact hJ3, hnx.trans hk3⟩
          case measure => simp [intOf]; omega
        · gi_wp2
          refine bodyPost_ret (results_none rfl _ _ _) rfl ?_
          exact ⟨⟨_, rfl⟩, .inr ⟨_, ⟨k + 1, by omega, HM.out.symm⟩, hJx3⟩⟩
    · obtain rfl : k = n := by omega
      gi_wp2
      go_end0
      exact ⟨⟨_, rfl⟩, .inl ⟨_, rfl, hJs⟩⟩

set_option maxHeartbeats 1000000 in
/-- lin.terms: the expression is boxed; the function value captures the box. -/
theorem terms_in (F : Fence) (N : Nat) (hf : F.fn 112) (hro : F.round = none) (A : Option Addr) (n c : Nat) (K : Int) (w : World) :
    CallsIn F N Tryz.prog 112 #[.agg #[.slice A n c, .int .i64 K]] w fun e w' => e = .returned (.func (.func 133) #[] #[.pointer (some ⟨w.heap.size, 0, none⟩)]) ∧ w' = w.alloc (.cells #[.slice A n c, .int .i64 K] 54) := by
  refine callsIn_of_wp Tryz.func112 rfl hf ?_ hro
  simp only [Tryz.ntmps112, List.size_toArray, List.length_cons, List.length_nil, Nat.reduceAdd, Nat.reduceSub, Array.replicate_succ, Array.replicate_zero, List.push_toArray, List.append_toArray, List.nil_append, List.cons_append]
  gi_wp2
  go_ret
  exact ⟨rfl, rfl⟩

/-- What lin.terms hands back hands on the places whose coefficients are not 0, in their order. -/
theorem terms_stops (F : Fence) (N : Nat) (hf : F.fn 133) (hro : F.round = none) (hN : 1 ≤ N) (Bs n₀ : Nat) (A : Option Addr) (n c : Nat) (K : Int) (xs : List Int) (w : World) (hBs : Bs < w.heap.size) (hn₀ : n₀ ≤ w.heap.size)
    (hc : w.cell? ⟨Bs, 0, none⟩ = some (.slice A n c)) (hI : Ints w n₀ A n xs) :
    SeqStopsK F N Tryz.prog 133 #[.pointer (some ⟨Bs, 0, none⟩)] (nzEnc n xs) (Below n₀) (fun ys => ys = nzl n xs n) (fun pre => ∃ k, k ≤ n ∧ pre = nzl n xs k) n w := fun l J Jx W hW _ _ hY h0 => by
  have hc' := (hW.cell (p := ⟨Bs, 0, none⟩) hBs).trans hc
  exact terms1_in F N hf hro hN l Bs n₀ A n c K xs J Jx hY W hc' (hI.below hW hn₀) h0

set_option maxRecDepth 100000 in
set_option maxHeartbeats 4000000 in
theorem lin_valid (A : Option Addr) (n c : Nat) (K : Int) (xs : List Int) (w : World) (hI : IntsAt w A n xs) :
    Calls Tryz.prog 91 #[.agg #[.slice A n c, .int .i64 K]] w fun e w' => e = .returned (.bool (validB xs K)) ∧ Below w.heap.size w w' := by
  have hro : Fence.wide.round = none := rfl
  have h1 : 1 ≤ 5 := by omega
  refine (callsIn_wide (n := 5)).1 ?_
  refine callsIn_of_wp_marks Tryz.func91 rfl trivial ?_ hro
  simp only [Tryz.ntmps91, List.size_toArray, List.length_cons, List.length_nil, Nat.reduceAdd, Nat.reduceSub, Array.replicate_succ, Array.replicate_zero, List.push_toArray, List.append_toArray, List.nil_append, List.cons_append]
  have hlen := hI.len
  have hB0 : Below w.heap.size w ((w.alloc (.cells #[.slice A n c, .int .i64 K] 54)).alloc (.cells #[.bool false] 4)) := ((Below.refl _ w).alloc (Nat.le_refl _) _).alloc (by simp) _
  by_cases h12 : 12 < n
  · have HV := Lib.hid (show validB xs K = false by unfold validB; rw [hlen, decide_eq_false (by omega)]; rfl)
    have h12' : (12 : Int) < n := by omega
    gi_wp2_with (refine ⟨trivial, ?_⟩)
    refine ⟨.bool false, ?_, ?_⟩
    · simp [results, Tryz.f91, go_sem]
    · exact ⟨by rw [HV.out], hB0⟩
  · have h12' : decide ((12 : Int) < n) = false := by simp; omega
    cases hK : fitsB K
    · have HV := Lib.hid (show validB xs K = false by unfold validB; rw [hK]; simp)
      gi_wp2_with (refine ⟨trivial, ?_⟩; gi_at_call 111; refine (callsIn_wide.2 (num_fits _ _)).mono ?_; rintro e w' ⟨rfl, rfl⟩)
      refine ⟨.bool false, ?_, ?_⟩
      · simp [results, Tryz.f91, go_sem]
      · exact ⟨by rw [HV.out], hB0⟩
    · gi_wp2_with (first
        | (refine ⟨trivial, ?_⟩; gi_at_call 111; refine (callsIn_wide.2 (num_fits _ _)).mono ?_; rintro e w' ⟨rfl, rfl⟩)
        | (refine ⟨trivial, ?_⟩; gi_at_call 112; refine (terms_in Fence.wide _ trivial hro _ _ _ _ _).mono ?_; rintro e w' ⟨rfl, rfl⟩))
      have bR := (Boxed.new (w.alloc (.cells #[.slice A n c, .int .i64 K] 54)) 4 (.bool false)).alloc (.cells #[.slice A n c, .int .i64 K] 54)
      rw [World.size_alloc] at bR
      have hB1 := hB0.alloc (by simp; omega) (.cells #[.slice A n c, .int .i64 K] 54)
      have hcl : ((((w.alloc (.cells #[.slice A n c, .int .i64 K] 54)).alloc (.cells #[.bool false] 4)).alloc (.cells #[.slice A n c, .int .i64 K] 54))).cell? ⟨w.heap.size + 1 + 1, 0, none⟩ = some (.slice A n c) := by
        rw [World.cell?_alloc_at _ _ _ _ (by simp)]; rfl
      refine wpIn_rangeFunc_ownG hro h1 (gf := 133) (lb := #[.pointer (some ⟨w.heap.size + 1 + 1, 0, none⟩)]) rfl trivial (enters_of Tryz.func133 (by kernel_rfl) rfl)
        (terms_stops Fence.wide (5 - 1) trivial hro (by omega) (w.heap.size + 1 + 1) w.heap.size A n c K xs _ (by simp) (by simp; omega) hcl (hI.below hB1 (Nat.le_refl _))) belowK_t (belowK_b (by simp; omega)) (Below.refl _ _) (fun _ => rfl)
        (fun pre W => ((∀ i ∈ pre, fitsB (xs[i.1]?.getD 0) = true) ∧ W.cell? ⟨w.heap.size + 1, 0, none⟩ = some (.bool false) ∧ W.frozen? ⟨w.heap.size + 1, 0, none⟩ = false) ∧ Below w.heap.size w W)
        (fun cd pre W => (cd = .ret ∧ validB xs K = false ∧ W.cell? ⟨w.heap.size + 1, 0, none⟩ = some (.bool false)) ∧ Below w.heap.size w W)
        (OwnFrom.and (Own.from (fun s A B row hs hg hr => ⟨hs.1, cell_kept hs.2.1 hg hr, (frozen_kept hs.2.1 hg hr).trans hs.2.2⟩) _) (ownFrom_below (Nat.le_refl _) (by simp; omega)))
        (fun cd => OwnFrom.and (Own.from (fun s A B row hs hg hr => ⟨hs.1, hs.2.1, cell_kept hs.2.2 hg hr⟩) _) (ownFrom_below (Nat.le_refl _) (by simp; omega)))
        ⟨⟨by simp, bR.cell, bR.frozen⟩, hB1⟩
        (fun x => { tmps := #[.agg #[.slice A n c, .int .i64 K], .pointer (some ⟨w.heap.size, 0, none⟩), .pointer (some ⟨w.heap.size + 1, 0, none⟩), undef, .int .i64 (xs[x.1]?.getD 0), .pointer (some ⟨w.heap.size, 0, none⟩), .slice A n c, .int .i64 n, .bool false, .bool false,
          .pointer (some ⟨w.heap.size, 1, none⟩), .int .i64 K, .bool true, .bool false, .bool false, .agg #[.slice A n c, .int .i64 K], .func (.func 133) #[] #[.pointer (some ⟨w.heap.size + 1 + 1, 0, none⟩)], .int .i64 (x.1 : Int), .int .i64 (xs[x.1]?.getD 0), undef, undef, undef], defers := [] }) ?assign ?body ?done ?stop
      case assign =>
        intro l x W K hK
        dsimp only [nzEnc]
        gi_wp2
        exact hK
      case body =>
        rintro l pre x W ⟨⟨hp, hcr, hfr⟩, hB⟩ _
        cases hx : fitsB (xs[x.1]?.getD 0)
        · have HV := Lib.hid (show validB xs K = false by
            rw [Bool.eq_false_iff]; intro h; have := (validB_true.1 h).2.2 _ (hI.mem x.2.1); rw [hx] at this; cases this)
          gi_wp2_with (refine ⟨trivial, ?_⟩; gi_at_call 111; refine (CallsIn.inRound l (callsIn_wide.2 (num_fits _ _))).mono ?_; rintro e w' ⟨rfl, rfl⟩)
          exact ⟨(KeepsOthers.setCell _ _ _).from _, ⟨rfl, HV.out, World.cell?_setCell_same' _ _ _ (by rw [hcr]; rfl)⟩, hB.setCell (p := ⟨w.heap.size + 1, 0, none⟩) (by simp) _⟩
        · gi_wp2_with (refine ⟨trivial, ?_⟩; gi_at_call 111; refine (CallsIn.inRound l (callsIn_wide.2 (num_fits _ _))).mono ?_; rintro e w' ⟨rfl, rfl⟩)
          exact ⟨KeepsFrom.refl _ _, Below.refl _ _, ⟨fun p hp' => (List.mem_append.1 hp').elim (hp p) (fun e => by rw [List.mem_singleton] at e; subst e; exact hx), hcr, hfr⟩, hB⟩
      case done =>
        rintro D ys W hD rfl ⟨⟨hne, hcr, hfr⟩, hB⟩ hK'
        have HV := Lib.hid (show validB xs K = true from validB_true.2 ⟨by omega, hK, (all_getD (p := fun x => fitsB x = true)).2 fun j hj => by
          by_cases hz : xs[j]?.getD 0 = 0
          · rw [hz]; rfl
          · exact hne ⟨j, by omega, hz⟩ (nzl_mem _ (by show j < n; omega))⟩)
        clear hne
        gi_wp2
        have hK2 := (KeepsOthers.setCell W ⟨w.heap.size + 1, 0, none⟩ (.bool true)).same D _ hK' rfl
        refine ⟨by simp, .inl ⟨_, _, rfl, run_takeDeferred hK2, ?_⟩⟩
        have hc5 := cell_kept (World.cell?_setCell_same' W ⟨w.heap.size + 1, 0, none⟩ (.bool true) (by rw [hcr]; rfl)) (grownBy_putObj' _ D (.deferred none)) (fun r e => by cases e; exact ⟨_, hK2, rfl⟩)
        refine ⟨.bool true, ?_, by rw [HV.out], (hB.setCell (p := ⟨w.heap.size + 1, 0, none⟩) (by simp) _).trans (belowK_b (w := w) (Nat.le_refl _) _ D _ _ (by simp at hD; omega) hK2 rfl rfl)⟩
        simp [results, Tryz.f91, go_sem, hc5]
      case stop =>
        rintro D cd pre W hD _ ⟨⟨rfl, hv, hcr⟩, hB⟩ hK'
        have HV := Lib.hid hv
        clear hv
        gi_wp2
        refine ⟨by simp, .inl ⟨_, _, rfl, run_takeDeferred hK', ?_⟩⟩
        have hc5 := cell_kept hcr (grownBy_putObj' _ D (.deferred none)) (fun r e => by cases e; exact ⟨_, hK', rfl⟩)
        refine ⟨.bool false, ?_, by rw [HV.out], hB.trans (belowK_b (w := w) (Nat.le_refl _) W D _ _ (by simp at hD; omega) hK' rfl rfl)⟩
        simp [results, Tryz.f91, go_sem, hc5]
end Go.Proofs.YtkgnlloioaobiaaGreat

/-
  Contracts for Dot of package num and of its reference.
-/
namespace Go.Proofs.YtkgnlloioaobiaaGreat
open Go.RowKit
set_option linter.unusedVariables false

def dotSum (cs xs : List Int) : Nat → Int
  | 0 => 0
  | i + 1 => dotSum cs xs i + cs[i]?.getD 0 * xs[i]?.getD 0
def goodAt (cs xs : List Int) (i : Nat) : Prop := (-1048576 ≤ cs[i]?.getD 0 ∧ cs[i]?.getD 0 ≤ 1048576) ∧ -4294967296 ≤ xs[i]?.getD 0 ∧ xs[i]?.getD 0 ≤ 4294967296
open Classical in
noncomputable def dotErr (cs xs : List Int) : Int := if cs.length ≠ xs.length then 2 else if 12 < cs.length then 3 else if ∀ i, i < cs.length → goodAt cs xs i then 0 else 6
noncomputable def dotVal (cs xs : List Int) : Int := if dotErr cs xs = 0 then dotSum cs xs cs.length else 0

theorem mul_bd {x y A B : Int} (hx : -A ≤ x ∧ x ≤ A) (hy : -B ≤ y ∧ y ≤ B) : -(A * B) ≤ x * y ∧ x * y ≤ A * B := by
  have h : (x * y).natAbs ≤ A.natAbs * B.natAbs := by rw [Int.natAbs_mul]; exact Nat.mul_le_mul (by omega) (by omega)
  have e : ((A.natAbs * B.natAbs : Nat) : Int) = A * B := by
    rw [Int.natCast_mul]
    have h1 : (A.natAbs : Int) = A := by omega
    have h2 : (B.natAbs : Int) = B := by omega
    rw [h1, h2]
  omega

theorem dotSum_bd {cs xs : List Int} : ∀ i, (∀ j, j < i → goodAt cs xs j) → -(4503599627370496 * (i : Int)) ≤ dotSum cs xs i ∧ dotSum cs xs i ≤ 4503599627370496 * (i : Int)
  | 0, _ => by simp [dotSum]
  | i + 1, h => by
    have ih := dotSum_bd i fun j hj => h j (by omega)
    obtain ⟨h1, h2⟩ := h i (by omega)
    have hm := mul_bd h1 h2
    simp only [dotSum, Int.natCast_add]
    omega

theorem good_succ {cs xs : List Int} {i : Nat} (hg : ∀ j, j < i → goodAt cs xs j) (h : goodAt cs xs i) : ∀ j, j < i + 1 → goodAt cs xs j := fun j hj => by
  rcases Nat.lt_or_eq_of_le (Nat.le_of_lt_succ hj) with h1 | h1
  · exact hg j h1
  · exact h1 ▸ h

/-- A valid coordinate. -/
def coordB (n : Int) : Bool := decide (-4294967296 ≤ n ∧ n ≤ 4294967296)
theorem coordB_true {n : Int} : coordB n = true ↔ -4294967296 ≤ n ∧ n ≤ 4294967296 := by unfold coordB; simp
theorem coordB_false {n : Int} : coordB n = false ↔ ¬ (-4294967296 ≤ n ∧ n ≤ 4294967296) := by unfold coordB; simp

theorem coord_any (n : Int) (w : World) : Calls Tryz.prog 63 #[.int .i64 n] w fun e w' => e = .returned (.bool (coordB n)) ∧ w = w' := by
  by_cases h1 : -4294967296 ≤ n
  all_goals
    go_enter Tryz.func63, Tryz.ntmps63
    go_wp2
    go_ret
    exact ⟨ret_bool (by unfold coordB; simp; omega), rfl⟩

theorem dot_bad {cs xs : List Int} {i : Nat} (hl : cs.length = xs.length) (h12 : ¬ 12 < cs.length) (hi : i < cs.length) (hb : ¬ goodAt cs xs i) : 0 = dotVal cs xs ∧ 6 = dotErr cs xs := by
  have e1 : dotErr cs xs = 6 := by
    unfold dotErr
    rw [if_neg (by simpa using hl), if_neg h12, if_neg (fun h => hb (h i hi))]
  exact ⟨by unfold dotVal; rw [if_neg (by rw [e1]; decide)], e1.symm⟩

theorem dot_ok {cs xs : List Int} (hl : cs.length = xs.length) (h12 : ¬ 12 < cs.length) (h : ∀ i, i < cs.length → goodAt cs xs i) : dotSum cs xs cs.length = dotVal cs xs ∧ 0 = dotErr cs xs := by
  have e1 : dotErr cs xs = 0 := by
    unfold dotErr
    rw [if_neg (by simpa using hl), if_neg h12, if_pos h]
  exact ⟨by unfold dotVal; rw [if_pos e1], e1.symm⟩

theorem not_good {cs xs : List Int} {i : Nat} (h : ¬ goodAt cs xs i) : ¬ (-1048576 ≤ cs[i]?.getD 0 ∧ cs[i]?.getD 0 ≤ 1048576) ∨
    ((-1048576 ≤ cs[i]?.getD 0 ∧ cs[i]?.getD 0 ≤ 1048576) ∧ xs[i]?.getD 0 < -4294967296) ∨ ((-1048576 ≤ cs[i]?.getD 0 ∧ cs[i]?.getD 0 ≤ 1048576) ∧ -4294967296 ≤ xs[i]?.getD 0 ∧ 4294967296 < xs[i]?.getD 0) := by
  unfold goodAt at h; omega

theorem num_dot (w : World) (B : Nat) (A A' : Option Addr) (n c n' c' : Nat) (cs xs : List Int) (h : Ints w B A n cs) (h' : Ints w B A' n' xs) :
    Calls Tryz.prog 109 #[.slice A n c, .slice A' n' c'] w fun e w' => e = .returned (.tuple #[.int .i64 (dotVal cs xs), .int .i64 (dotErr cs xs)]) ∧ ∃ k, w' = w.drewN k := by
  have hn := h.small
  have hn' := h'.small
  by_cases hl : n = n'
  · subst hl
    by_cases h12 : 12 < n
    · have e1 : dotErr cs xs = 3 := by unfold dotErr; rw [if_neg (by rw [h.len, h'.len]; simp), if_pos (by rw [h.len]; exact h12)]
      have e2 : dotVal cs xs = 0 := by unfold dotVal; rw [if_neg (by rw [e1]; decide)]
      have HE := Lib.hid (And.intro e2.symm e1.symm)
      clear e1 e2
      have h12' : (12 : Int) < n := by omega
      go_enter Tryz.func109, Tryz.ntmps109
      go_wp2
      go_ret2
      exact ⟨ret2 (vint HE.out.1) (vint HE.out.2), 0, rfl⟩
    · have h12' : (n : Int) ≤ 12 := by omega
      go_enter Tryz.func109, Tryz.ntmps109
      go_wp2
      go_loopw [6, 18] (fun u v wr => ∃ (i k : Nat), i ≤ n ∧ v = .int .i64 i ∧ u = .int .i64 (dotSum cs xs i) ∧ (∀ j, j < i → goodAt cs xs j) ∧ wr = w.drewN k) (fun _ v _ => n - (intOf v).toNat)
      case atStart => exact ⟨0, 0, Nat.zero_le _, rfl, rfl, fun j hj => absurd hj (by omega), rfl⟩
      case round =>
        obtain ⟨i, k, hi, rfl, rfl, hg, rfl⟩ := hrel
        by_cases hlt : i < n
        · obtain ⟨bl, off, rfl, hb, hc⟩ := h.cells (by omega)
          obtain ⟨bl', off', rfl, hb', hc'⟩ := h'.cells (by omega)
          have hcell := hc i hlt
          have hcell' := hc' i hlt
          clear hc hc'
          by_cases hgood : goodAt cs xs i
          · have hs := dotSum_bd i hg
            have hs' := dotSum_bd (cs := cs) (xs := xs) (i + 1) (good_succ hg hgood)
            have hm := mul_bd hgood.1 hgood.2
            have HG := Lib.hid (And.intro hg hgood)
            have gd := coordB_true.2 hgood.2
            have gf := fitsB_true.2 hgood.1
            obtain ⟨⟨g1, g2⟩, g3, g4⟩ := hgood
            simp only [dotSum] at hs'
            have HE := Lib.hid (show wrap64 (dotSum cs xs i + wrap64 (cs[i]?.getD 0 * xs[i]?.getD 0)) = dotSum cs xs (i + 1) by
              rw [IntWalk.wrap64_in (cs[i]?.getD 0 * xs[i]?.getD 0) (by omega)]
              exact IntWalk.wrap64_in _ (by omega))
            clear hs hs' hm hg
            have q1 : (0 : Int) ≤ i := by omega
            have q2 : (i : Int) < n := by omega
            go_wp2_with (first
              | (go_at_call 111; refine (num_fits _ _).mono ?_; rintro e w' ⟨rfl, rfl⟩)
              | (go_at_call 111; refine (coord_any _ _).mono ?_; rintro e w' ⟨rfl, rfl⟩))
            go_quiet (fail)
            go_wp2
            go_roundw
            case rel => exact ⟨i + 1, _, by omega, by go_num, vint HE.out, good_succ HG.out.1 HG.out.2, rfl⟩
            case measure => simp [intOf]; omega
          · have HB := Lib.hid (dot_bad (h.len.trans h'.len.symm) (by rw [h.len]; exact h12) (by rw [h.len]; exact hlt) hgood)
            have q1 : (0 : Int) ≤ i := by omega
            have q2 : (i : Int) < n := by omega
            rcases not_good hgood with g | ⟨⟨g1, g2⟩, g3⟩ | ⟨⟨g1, g2⟩, g3, g4⟩
            · have gd := fitsB_false.2 g
              clear g hgood hg
              go_wp2_with (first
                | (go_at_call 111; refine (num_fits _ _).mono ?_; rintro e w' ⟨rfl, rfl⟩)
                | (go_at_call 111; refine (coord_any _ _).mono ?_; rintro e w' ⟨rfl, rfl⟩))
              go_ret2
              exact ⟨ret2 (vint HB.out.1) (vint HB.out.2), _, rfl⟩
            · have gd : coordB (xs[i]?.getD 0) = false := coordB_false.2 (by omega)
              have gf := fitsB_true.2 ⟨g1, g2⟩
              clear hgood hg
              go_wp2_with (first
                | (go_at_call 111; refine (num_fits _ _).mono ?_; rintro e w' ⟨rfl, rfl⟩)
                | (go_at_call 111; refine (coord_any _ _).mono ?_; rintro e w' ⟨rfl, rfl⟩))
              go_ret2
              exact ⟨ret2 (vint HB.out.1) (vint HB.out.2), _, rfl⟩
            · have gd : coordB (xs[i]?.getD 0) = false := coordB_false.2 (by omega)
              have gf := fitsB_true.2 ⟨g1, g2⟩
              clear hgood hg
              go_wp2_with (first
                | (go_at_call 111; refine (num_fits _ _).mono ?_; rintro e w' ⟨rfl, rfl⟩)
                | (go_at_call 111; refine (coord_any _ _).mono ?_; rintro e w' ⟨rfl, rfl⟩))
              go_ret2
              exact ⟨ret2 (vint HB.out.1) (vint HB.out.2), _, rfl⟩
        · have e : n = i := by omega
          have HB := Lib.hid (dot_ok (h.len.trans h'.len.symm) (by rw [h.len]; exact h12) (fun j hj => hg j (by rw [h.len] at hj; omega)))
          have HL := Lib.hid (h.len.trans e)
          have hge : ¬ i < n := hlt
          clear e hg
          go_wp2
          go_ret2
          exact ⟨ret2 (vint (by rw [← HB.out.1, HL.out])) (vint HB.out.2), _, rfl⟩
  · have e1 : dotErr cs xs = 2 := by unfold dotErr; rw [if_pos (by rw [h.len, h'.len]; exact hl)]
    have e2 : dotVal cs xs = 0 := by unfold dotVal; rw [if_neg (by rw [e1]; decide)]
    have HE := Lib.hid (And.intro e2.symm e1.symm)
    have hne : ((n : Int) != n') = true := by simp; omega
    clear e1 e2
    go_enter Tryz.func109, Tryz.ntmps109
    go_wp2
    go_ret2
    exact ⟨ret2 (vint HE.out.1) (vint HE.out.2), 0, rfl⟩


end Go.Proofs.YtkgnlloioaobiaaGreat

/-
  Contracts for the functions of package lin, and of its reference, that only read.
-/
namespace Go.Proofs.YtkgnlloioaobiaaGreat
open Go.RowKit
set_option linter.unusedVariables false

theorem ref_valid (A : Option Addr) (n c : Nat) (K : Int) (xs : List Int) (w : World) (hI : IntsAt w A n xs) :
    Calls Tryz.prog 85 #[.agg #[.slice A n c, .int .i64 K]] w fun e w' => e = .returned (.bool (validB xs K)) ∧ Below w.heap.size w w' := by
  have hB := below_alloc w (.cells #[.slice A n c, .int .i64 K] 54)
  have h := hI.step hB
  have HL := Lib.hid hI.len
  have hsm := hI.small
  go_enter Tryz.func85, Tryz.ntmps85
  go_wp2
  go_loop [8] (fun v => ∃ i : Nat, i ≤ n ∧ v = .int .i64 i ∧ ∀ j, j < i → fitsB (xs[j]?.getD 0) = true) (fun v => n - (intOf v).toNat)
  case atStart => exact ⟨0, Nat.zero_le _, rfl, fun j hj => absurd hj (by omega)⟩
  case round =>
    obtain ⟨i, hi, rfl, hg⟩ := hrel
    have HG := Lib.hid hg
    clear hg
    by_cases hlt : i < n
    · obtain ⟨b, off, rfl, hb, hc⟩ := h.cells (by omega)
      have hcell := hc i hlt
      clear hc
      cases hx : fitsB (xs[i]?.getD 0)
      · have HV := Lib.hid (show validB xs K = false by
          rw [Bool.eq_false_iff]; intro h'; have := (validB_true.1 h').2.2 _ (hI.mem hlt); rw [hx] at this; cases this)
        go_wp2_with (go_at_call 108; refine (headlandref01_fits _ _).mono ?_; rintro e w' ⟨rfl, rfl⟩)
        go_ret
        exact ⟨ret_bool HV.out.symm, hB⟩
      · have HX := Lib.hid hx
        go_wp2_with (go_at_call 108; refine (headlandref01_fits _ _).mono ?_; rintro e w' ⟨rfl, rfl⟩)
        go_round
        case rel => exact ⟨i + 1, by omega, by go_num, fun j hj => by
          rcases Nat.lt_or_eq_of_le (Nat.le_of_lt_succ hj) with h1 | h1
          · exact HG.out j h1
          · exact h1 ▸ HX.out⟩
        case measure => simp [intOf]; omega
    · obtain rfl : i = n := by omega
      have hall : ∀ x ∈ xs, fitsB x = true := (all_getD (p := fun x => fitsB x = true)).2 fun j hj => HG.out j (by have := HL.out; omega)
      by_cases h12 : 12 < i
      · have HV := Lib.hid (show validB xs K = false by unfold validB; rw [HL.out, decide_eq_false (by omega)]; rfl)
        have h12' : (12 : Int) < i := by omega
        clear hall
        go_wp2
        go_ret
        exact ⟨ret_bool HV.out.symm, hB⟩
      · have HV := Lib.hid (show validB xs K = fitsB K by
          cases hk : fitsB K
          · unfold validB; rw [hk]; simp
          · exact validB_true.2 ⟨by have := HL.out; omega, hk, hall⟩)
        have h12' : (i : Int) ≤ 12 := by omega
        clear hall
        go_wp2_with (go_at_call 108; refine (headlandref01_fits _ _).mono ?_; rintro e w' ⟨rfl, rfl⟩)
        go_ret
        exact ⟨ret_bool HV.out.symm, hB⟩

/-- Equal expressions. -/
def sameB (xs : List Int) (K : Int) (ys : List Int) (L : Int) : Bool := decide (xs = ys ∧ K = L)
theorem sameB_self (xs : List Int) (K : Int) : sameB xs K xs K = true := by unfold sameB; simp
theorem sameB_true {xs ys : List Int} {K L : Int} : sameB xs K ys L = true ↔ xs = ys ∧ K = L := by unfold sameB; simp

theorem ref_same (A : Option Addr) (n c : Nat) (K : Int) (xs : List Int) (A' : Option Addr) (n' c' : Nat) (L : Int) (ys : List Int) (w : World) (hI : IntsAt w A n xs) (hI' : IntsAt w A' n' ys) :
    Calls Tryz.prog 124 #[.agg #[.slice A n c, .int .i64 K], .agg #[.slice A' n' c', .int .i64 L]] w fun e w' => e = .returned (.bool (sameB xs K ys L)) ∧ Below w.heap.size w w' := by
  obtain ⟨o1, ho1⟩ : ∃ o, o = Obj.cells #[.slice A n c, .int .i64 K] 54 := ⟨_, rfl⟩
  obtain ⟨o2, ho2⟩ : ∃ o, o = Obj.cells #[.slice A' n' c', .int .i64 L] 54 := ⟨_, rfl⟩
  have hB := below_step (below_alloc w o1) (below_alloc (w.alloc o1) o2)
  have h := hI.step hB
  have h' := hI'.step hB
  rw [ho1, ho2] at h h' hB
  clear ho1 ho2
  have HL := Lib.hid hI.len
  have HL' := Lib.hid hI'.len
  have hsm := hI.small
  have hsm' := hI'.small
  by_cases hn : n = n'
  · subst hn
    by_cases hk : K = L
    · subst hk
      go_enter Tryz.func124, Tryz.ntmps124
      go_wp2
      go_loopw [23] (fun v wr => ∃ i k : Nat, i ≤ n ∧ v = .int .i64 i ∧ (∀ j, j < i → xs[j]?.getD 0 = ys[j]?.getD 0) ∧ wr = ((w.alloc (.cells #[.slice A n c, .int .i64 K] 54)).alloc (.cells #[.slice A' n c', .int .i64 K] 54)).drewN k) (fun v _ => n - (intOf v).toNat)
      case atStart => exact ⟨0, 0, Nat.zero_le _, rfl, fun j hj => absurd hj (by omega), rfl⟩
      case round =>
        obtain ⟨i, k, hi, rfl, hg, rfl⟩ := hrel
        have HG := Lib.hid hg
        clear hg
        by_cases hlt : i < n
        · obtain ⟨b, off, rfl, hb, hc⟩ := h.cells (by omega)
          obtain ⟨b', off', rfl, hb', hc'⟩ := h'.cells (by omega)
          have hcell := hc i hlt
          have hcell' := hc' i hlt
          clear hc hc'
          by_cases hx : xs[i]?.getD 0 = ys[i]?.getD 0
          · have HX := Lib.hid hx
            rw [hx] at hcell
            clear hx
            go_wp2
            go_quiet (fail)
            go_wp2
            go_roundw
            case rel => exact ⟨i + 1, _, by omega, by go_num, (fun j hj => by
              rcases Nat.lt_or_eq_of_le (Nat.le_of_lt_succ hj) with h1 | h1
              · exact HG.out j h1
              · exact h1 ▸ HX.out), rfl⟩
            case measure => simp [intOf]; omega
          · have HV := Lib.hid (show sameB xs K ys K = false by
              rw [Bool.eq_false_iff]; intro h'; exact hx (by rw [(sameB_true.1 h').1]))
            have hx1 : (xs[i]?.getD 0 != ys[i]?.getD 0) = true := by simpa using hx
            have hx2 : (xs[i]?.getD 0 == ys[i]?.getD 0) = false := by simpa using hx
            clear hx
            go_wp2
            go_quiet (fail)
            go_wp2
            go_ret
            exact ⟨ret_bool HV.out.symm, by first | exact below_step hB (below_of_drewN _) | (simp only [World.drewN_drewN]; exact below_step hB (below_of_drewN _))⟩
        · obtain rfl : i = n := by omega
          have HV := Lib.hid (show sameB xs K ys K = true from sameB_true.2 ⟨by
            apply List.ext_getElem (by rw [HL.out, HL'.out])
            intro j h1 h2
            have := HG.out j (by have := HL.out; omega)
            simpa [h1, h2] using this, rfl⟩)
          go_wp2
          go_ret
          exact ⟨ret_bool HV.out.symm, by first | exact below_step hB (below_of_drewN _) | (simp only [World.drewN_drewN]; exact below_step hB (below_of_drewN _))⟩
    · have HV := Lib.hid (show sameB xs K ys L = false by
        rw [Bool.eq_false_iff]; intro h'; exact hk (sameB_true.1 h').2)
      have hk1 : (K != L) = true := by simpa using hk
      have hk2 : (K == L) = false := by simpa using hk
      clear hk
      go_enter Tryz.func124, Tryz.ntmps124
      go_wp2
      go_ret
      exact ⟨ret_bool HV.out.symm, hB⟩
  · have HV := Lib.hid (show sameB xs K ys L = false by
      rw [Bool.eq_false_iff]; intro h'; exact hn (by rw [← HL.out, ← HL'.out, (sameB_true.1 h').1]))
    have hk1 : ((n : Int) != (n' : Int)) = true := by simpa using fun e => hn (by omega)
    have hk2 : ((n : Int) == (n' : Int)) = false := by simpa using fun e => hn (by omega)
    clear hn
    go_enter Tryz.func124, Tryz.ntmps124
    go_wp2
    go_ret
    exact ⟨ret_bool HV.out.symm, hB⟩
end Go.Proofs.YtkgnlloioaobiaaGreat

/-
  Conditions in variables, and the two Valid of layer 3.
-/
namespace Go.Proofs.YtkgnlloioaobiaaGreat
open Go.RowKit
set_option linter.unusedVariables false
set_option linter.unusedSimpArgs false

/-- A condition as a value. -/
abbrev condV (q M : Int) (A : Option Addr) (n c : Nat) (K : Int) : Value := .agg #[.int .i64 q, .int .i64 M, .slice A n c, .int .i64 K]
/-- Block b is a variable that holds a condition. -/
def CBox (w : World) (b : Nat) (q M : Int) (A : Option Addr) (n c : Nat) (K : Int) : Prop := w.heap[b]? = some (.cells #[.int .i64 q, .int .i64 M, .slice A n c, .int .i64 K] 56 (0, 0))
section
variable {w w' : World} {b : Nat} {q M : Int} {A : Option Addr} {n c : Nat} {K : Int}
theorem CBox.new (w : World) (q M : Int) (A : Option Addr) (n c : Nat) (K : Int) : CBox (w.alloc (.cells #[.int .i64 q, .int .i64 M, .slice A n c, .int .i64 K] 56)) w.heap.size q M A n c K := heap_alloc_new w _
theorem CBox.lt (h : CBox w b q M A n c K) : b < w.heap.size := (Array.getElem?_eq_some_iff.1 h).1
theorem CBox.below {B : Nat} (h : CBox w b q M A n c K) (hb : Below B w w') (hB : b < B) : CBox w' b q M A n c K := (hb.block b hB).trans h
theorem CBox.step (h : CBox w b q M A n c K) (hb : Below w.heap.size w w') : CBox w' b q M A n c K := h.below hb h.lt
theorem CBox.alloc (h : CBox w b q M A n c K) (o : Obj) : CBox (w.alloc o) b q M A n c K := h.step (below_alloc w o)
theorem CBox.c0 (h : CBox w b q M A n c K) : w.cell? ⟨b, 0, none⟩ = some (.int .i64 q) := by rw [cell_of_row w b 0 _ _ (0, 0) h]; rfl
theorem CBox.c1 (h : CBox w b q M A n c K) : w.cell? ⟨b, 1, none⟩ = some (.int .i64 M) := by rw [cell_of_row w b 1 _ _ (0, 0) h]; rfl
theorem CBox.c2 (h : CBox w b q M A n c K) : w.cell? ⟨b, 2, none⟩ = some (.slice A n c) := by rw [cell_of_row w b 2 _ _ (0, 0) h]; rfl
theorem CBox.c3 (h : CBox w b q M A n c K) : w.cell? ⟨b, 3, none⟩ = some (.int .i64 K) := by rw [cell_of_row w b 3 _ _ (0, 0) h]; rfl
end

theorem CBox.f {w : World} {b : Nat} {q M : Int} {A : Option Addr} {n c : Nat} {K : Int} (h : CBox w b q M A n c K) (j : Nat) : w.frozen? ⟨b, j, none⟩ = false := by
  unfold CBox at h; simp [World.frozen?, h]
/-- The four stores of a condition into a variable. -/
theorem CBox.four {w : World} {b : Nat} {q M : Int} {A : Option Addr} {n c : Nat} {K : Int} (h : CBox w b q M A n c K) (q' M' : Int) (A' : Option Addr) (n' c' : Nat) (K' : Int) :
    (w.setCell ⟨b, 0, none⟩ (.int .i64 q')).cell? ⟨b, 0, none⟩ = some (.int .i64 q') ∧
    ((w.setCell ⟨b, 0, none⟩ (.int .i64 q')).setCell ⟨b, 1, none⟩ (.int .i64 M')).cell? ⟨b, 1, none⟩ = some (.int .i64 M') ∧
    (((w.setCell ⟨b, 0, none⟩ (.int .i64 q')).setCell ⟨b, 1, none⟩ (.int .i64 M')).setCell ⟨b, 2, none⟩ (.slice A' n' c')).cell? ⟨b, 2, none⟩ = some (.slice A' n' c') ∧
    ((((w.setCell ⟨b, 0, none⟩ (.int .i64 q')).setCell ⟨b, 1, none⟩ (.int .i64 M')).setCell ⟨b, 2, none⟩ (.slice A' n' c')).setCell ⟨b, 3, none⟩ (.int .i64 K')).cell? ⟨b, 3, none⟩ = some (.int .i64 K') := by
  have s1 : (w.setCell ⟨b, 0, none⟩ (.int .i64 q')).heap[b]? = some (.cells #[.int .i64 q', .int .i64 M, .slice A n c, .int .i64 K] 56 (0, 0)) := by
    unfold CBox at h; simp only [World.setCell]; rw [Array.getElem?_modify, if_pos rfl, h]; rfl
  have s2 : ((w.setCell ⟨b, 0, none⟩ (.int .i64 q')).setCell ⟨b, 1, none⟩ (.int .i64 M')).heap[b]? = some (.cells #[.int .i64 q', .int .i64 M', .slice A n c, .int .i64 K] 56 (0, 0)) := by
    show (Array.modify _ b _)[b]? = _
    rw [Array.getElem?_modify, if_pos rfl, s1]; rfl
  have s3 : (((w.setCell ⟨b, 0, none⟩ (.int .i64 q')).setCell ⟨b, 1, none⟩ (.int .i64 M')).setCell ⟨b, 2, none⟩ (.slice A' n' c')).heap[b]? = some (.cells #[.int .i64 q', .int .i64 M', .slice A' n' c', .int .i64 K] 56 (0, 0)) := by
    show (Array.modify _ b _)[b]? = _
    rw [Array.getElem?_modify, if_pos rfl, s2]; rfl
  have s4 : ((((w.setCell ⟨b, 0, none⟩ (.int .i64 q')).setCell ⟨b, 1, none⟩ (.int .i64 M')).setCell ⟨b, 2, none⟩ (.slice A' n' c')).setCell ⟨b, 3, none⟩ (.int .i64 K')).heap[b]? = some (.cells #[.int .i64 q', .int .i64 M', .slice A' n' c', .int .i64 K'] 56 (0, 0)) := by
    show (Array.modify _ b _)[b]? = _
    rw [Array.getElem?_modify, if_pos rfl, s3]; rfl
  exact ⟨by rw [cell_of_row _ b 0 _ _ (0, 0) s1]; rfl, by rw [cell_of_row _ b 1 _ _ (0, 0) s2]; rfl, by rw [cell_of_row _ b 2 _ _ (0, 0) s3]; rfl, by rw [cell_of_row _ b 3 _ _ (0, 0) s4]; rfl⟩
theorem below_store4 {w0 w : World} (h : Below w0.heap.size w0 w) {b : Nat} (hb : w0.heap.size ≤ b) (u v x y : Value) : Below w0.heap.size w0 ((((w.setCell ⟨b, 0, none⟩ u).setCell ⟨b, 1, none⟩ v).setCell ⟨b, 2, none⟩ x).setCell ⟨b, 3, none⟩ y) :=
  (((h.setCell (p := ⟨b, 0, none⟩) hb u).setCell (p := ⟨b, 1, none⟩) hb v).setCell (p := ⟨b, 2, none⟩) hb x).setCell (p := ⟨b, 3, none⟩) hb y

/-- A valid condition. -/
def validC (q M : Int) (xs : List Int) (K : Int) : Bool := validB xs K && (if q = 2 then decide (1 ≤ M ∧ M ≤ 512) else decide ((q = 0 ∨ q = 1) ∧ M = 0))

set_option maxHeartbeats 2000000 in
theorem cond_valid (q M : Int) (A : Option Addr) (n c : Nat) (K : Int) (xs : List Int) (w : World) (hI : IntsAt w A n xs) :
    Calls Tryz.prog 84 #[condV q M A n c K] w fun e w' => e = .returned (.bool (validC q M xs K)) ∧ Below w.heap.size w w' := by
  have hB := below_alloc w (.cells #[.int .i64 q, .int .i64 M, .slice A n c, .int .i64 K] 56)
  have h1 := hI.step hB
  have B1 := CBox.new w q M A n c K
  obtain ⟨v, hv⟩ : ∃ v, validB xs K = v := ⟨_, rfl⟩
  have HV := Lib.hid hv
  rcases (show q = 0 ∨ q = 1 ∨ q = 2 ∨ (q ≠ 0 ∧ q ≠ 1 ∧ q ≠ 2) by omega) with rfl | rfl | rfl | ⟨g0, g1, g2⟩
  · by_cases hM : M = 0
    · subst hM
      have HE := Lib.hid (show validC 0 0 xs K = v by unfold validC; rw [hv]; simp)
      clear hv hI
      cases v
      all_goals
        go_enter Tryz.func84, Tryz.ntmps84
        go_wp2_with (go_at_call 91; refine (lin_valid _ _ _ _ xs _ h1).mono ?_; rintro e w1 ⟨rfl, hb⟩; rw [HV.out]; replace hB := below_step hB hb; replace B1 := B1.step hb; have c0 := B1.c0; have c1 := B1.c1; have c2 := B1.c2; have c3 := B1.c3)
        all_goals
          go_ret
          exact ⟨ret_bool (by first | exact HE.out.symm | (rw [HE.out]; simp; omega)), hB⟩
    · have HE := Lib.hid (show validC 0 M xs K = false by unfold validC; simp [hM])
      have q1 : (M == 0) = false := by simpa using hM
      clear hv hI hM
      cases v
      all_goals
        go_enter Tryz.func84, Tryz.ntmps84
        go_wp2_with (go_at_call 91; refine (lin_valid _ _ _ _ xs _ h1).mono ?_; rintro e w1 ⟨rfl, hb⟩; rw [HV.out]; replace hB := below_step hB hb; replace B1 := B1.step hb; have c0 := B1.c0; have c1 := B1.c1; have c2 := B1.c2; have c3 := B1.c3)
        all_goals
          go_ret
          exact ⟨ret_bool (by first | exact HE.out.symm | (rw [HE.out]; simp; omega)), hB⟩
  · by_cases hM : M = 0
    · subst hM
      have HE := Lib.hid (show validC 1 0 xs K = v by unfold validC; rw [hv]; simp)
      clear hv hI
      cases v
      all_goals
        go_enter Tryz.func84, Tryz.ntmps84
        go_wp2_with (go_at_call 91; refine (lin_valid _ _ _ _ xs _ h1).mono ?_; rintro e w1 ⟨rfl, hb⟩; rw [HV.out]; replace hB := below_step hB hb; replace B1 := B1.step hb; have c0 := B1.c0; have c1 := B1.c1; have c2 := B1.c2; have c3 := B1.c3)
        all_goals
          go_ret
          exact ⟨ret_bool (by first | exact HE.out.symm | (rw [HE.out]; simp; omega)), hB⟩
    · have HE := Lib.hid (show validC 1 M xs K = false by unfold validC; simp [hM])
      have q1 : (M == 0) = false := by simpa using hM
      clear hv hI hM
      cases v
      all_goals
        go_enter Tryz.func84, Tryz.ntmps84
        go_wp2_with (go_at_call 91; refine (lin_valid _ _ _ _ xs _ h1).mono ?_; rintro e w1 ⟨rfl, hb⟩; rw [HV.out]; replace hB := below_step hB hb; replace B1 := B1.step hb; have c0 := B1.c0; have c1 := B1.c1; have c2 := B1.c2; have c3 := B1.c3)
        all_goals
          go_ret
          exact ⟨ret_bool (by first | exact HE.out.symm | (rw [HE.out]; simp; omega)), hB⟩
  · rcases (show (1 ≤ M ∧ M ≤ 512) ∨ M < 1 ∨ (1 ≤ M ∧ 512 < M) by omega) with ⟨hM, hM'⟩ | hM | ⟨hM, hM'⟩
    · have HE := Lib.hid (show validC 2 M xs K = v by unfold validC; rw [hv]; simp [hM, hM'])
      clear hv hI
      cases v
      all_goals
        go_enter Tryz.func84, Tryz.ntmps84
        go_wp2_with (go_at_call 91; refine (lin_valid _ _ _ _ xs _ h1).mono ?_; rintro e w1 ⟨rfl, hb⟩; rw [HV.out]; replace hB := below_step hB hb; replace B1 := B1.step hb; have c0 := B1.c0; have c1 := B1.c1; have c2 := B1.c2; have c3 := B1.c3)
        all_goals
          go_ret
          exact ⟨ret_bool (by first | exact HE.out.symm | (rw [HE.out]; simp; omega)), hB⟩
    · have HE := Lib.hid (show validC 2 M xs K = false by unfold validC; simp; omega)
      clear hv hI
      cases v
      all_goals
        go_enter Tryz.func84, Tryz.ntmps84
        go_wp2_with (go_at_call 91; refine (lin_valid _ _ _ _ xs _ h1).mono ?_; rintro e w1 ⟨rfl, hb⟩; rw [HV.out]; replace hB := below_step hB hb; replace B1 := B1.step hb; have c0 := B1.c0; have c1 := B1.c1; have c2 := B1.c2; have c3 := B1.c3)
        all_goals
          go_ret
          exact ⟨ret_bool (by first | exact HE.out.symm | (rw [HE.out]; simp; omega)), hB⟩
    · have HE := Lib.hid (show validC 2 M xs K = false by unfold validC; simp; omega)
      clear hv hI
      cases v
      all_goals
        go_enter Tryz.func84, Tryz.ntmps84
        go_wp2_with (go_at_call 91; refine (lin_valid _ _ _ _ xs _ h1).mono ?_; rintro e w1 ⟨rfl, hb⟩; rw [HV.out]; replace hB := below_step hB hb; replace B1 := B1.step hb; have c0 := B1.c0; have c1 := B1.c1; have c2 := B1.c2; have c3 := B1.c3)
        all_goals
          go_ret
          exact ⟨ret_bool (by first | exact HE.out.symm | (rw [HE.out]; simp; omega)), hB⟩
  · have HE := Lib.hid (show validC q M xs K = false by unfold validC; simp [g0, g1, g2])
    have q0 : (q == 0) = false := by simpa using g0
    have q1 : (q == 1) = false := by simpa using g1
    have q2 : (q == 2) = false := by simpa using g2
    clear hv hI g0 g1 g2
    cases v
    all_goals
      go_enter Tryz.func84, Tryz.ntmps84
      go_wp2_with (go_at_call 91; refine (lin_valid _ _ _ _ xs _ h1).mono ?_; rintro e w1 ⟨rfl, hb⟩; rw [HV.out]; replace hB := below_step hB hb; replace B1 := B1.step hb; have c0 := B1.c0; have c1 := B1.c1; have c2 := B1.c2; have c3 := B1.c3)
      all_goals
        go_ret
        exact ⟨ret_bool (by first | exact HE.out.symm | (rw [HE.out]; simp; omega)), hB⟩

set_option maxHeartbeats 2000000 in
theorem ref_cvalid (q M : Int) (A : Option Addr) (n c : Nat) (K : Int) (xs : List Int) (w : World) (hI : IntsAt w A n xs) :
    Calls Tryz.prog 58 #[condV q M A n c K] w fun e w' => e = .returned (.bool (validC q M xs K)) ∧ Below w.heap.size w w' := by
  have hB := below_alloc w (.cells #[.int .i64 q, .int .i64 M, .slice A n c, .int .i64 K] 56)
  have h1 := hI.step hB
  have B1 := CBox.new w q M A n c K
  obtain ⟨v, hv⟩ : ∃ v, validB xs K = v := ⟨_, rfl⟩
  have HV := Lib.hid hv
  rcases (show q = 0 ∨ q = 1 ∨ q = 2 ∨ (q ≠ 0 ∧ q ≠ 1 ∧ q ≠ 2) by omega) with rfl | rfl | rfl | ⟨g0, g1, g2⟩
  · by_cases hM : M = 0
    · subst hM
      have HE := Lib.hid (show validC 0 0 xs K = v by unfold validC; rw [hv]; simp)
      clear hv hI
      cases v
      all_goals
        go_enter Tryz.func58, Tryz.ntmps58
        go_wp2_with (go_at_call 85; refine (ref_valid _ _ _ _ xs _ h1).mono ?_; rintro e w1 ⟨rfl, hb⟩; rw [HV.out]; replace hB := below_step hB hb; replace B1 := B1.step hb; have c0 := B1.c0; have c1 := B1.c1; have c2 := B1.c2; have c3 := B1.c3)
        all_goals
          go_ret
          exact ⟨ret_bool (by first | exact HE.out.symm | (rw [HE.out]; simp; omega)), hB⟩
    · have HE := Lib.hid (show validC 0 M xs K = false by unfold validC; simp [hM])
      have q1 : (M == 0) = false := by simpa using hM
      clear hv hI hM
      cases v
      all_goals
        go_enter Tryz.func58, Tryz.ntmps58
        go_wp2_with (go_at_call 85; refine (ref_valid _ _ _ _ xs _ h1).mono ?_; rintro e w1 ⟨rfl, hb⟩; rw [HV.out]; replace hB := below_step hB hb; replace B1 := B1.step hb; have c0 := B1.c0; have c1 := B1.c1; have c2 := B1.c2; have c3 := B1.c3)
        all_goals
          go_ret
          exact ⟨ret_bool (by first | exact HE.out.symm | (rw [HE.out]; simp; omega)), hB⟩
  · by_cases hM : M = 0
    · subst hM
      have HE := Lib.hid (show validC 1 0 xs K = v by unfold validC; rw [hv]; simp)
      clear hv hI
      cases v
      all_goals
        go_enter Tryz.func58, Tryz.ntmps58
        go_wp2_with (go_at_call 85; refine (ref_valid _ _ _ _ xs _ h1).mono ?_; rintro e w1 ⟨rfl, hb⟩; rw [HV.out]; replace hB := below_step hB hb; replace B1 := B1.step hb; have c0 := B1.c0; have c1 := B1.c1; have c2 := B1.c2; have c3 := B1.c3)
        all_goals
          go_ret
          exact ⟨ret_bool (by first | exact HE.out.symm | (rw [HE.out]; simp; omega)), hB⟩
    · have HE := Lib.hid (show validC 1 M xs K = false by unfold validC; simp [hM])
      have q1 : (M == 0) = false := by simpa using hM
      clear hv hI hM
      cases v
      all_goals
        go_enter Tryz.func58, Tryz.ntmps58
        go_wp2_with (go_at_call 85; refine (ref_valid _ _ _ _ xs _ h1).mono ?_; rintro e w1 ⟨rfl, hb⟩; rw [HV.out]; replace hB := below_step hB hb; replace B1 := B1.step hb; have c0 := B1.c0; have c1 := B1.c1; have c2 := B1.c2; have c3 := B1.c3)
        all_goals
          go_ret
          exact ⟨ret_bool (by first | exact HE.out.symm | (rw [HE.out]; simp; omega)), hB⟩
  · rcases (show (1 ≤ M ∧ M ≤ 512) ∨ M < 1 ∨ (1 ≤ M ∧ 512 < M) by omega) with ⟨hM, hM'⟩ | hM | ⟨hM, hM'⟩
    · have HE := Lib.hid (show validC 2 M xs K = v by unfold validC; rw [hv]; simp [hM, hM'])
      clear hv hI
      cases v
      all_goals
        go_enter Tryz.func58, Tryz.ntmps58
        go_wp2_with (go_at_call 85; refine (ref_valid _ _ _ _ xs _ h1).mono ?_; rintro e w1 ⟨rfl, hb⟩; rw [HV.out]; replace hB := below_step hB hb; replace B1 := B1.step hb; have c0 := B1.c0; have c1 := B1.c1; have c2 := B1.c2; have c3 := B1.c3)
        all_goals
          go_ret
          exact ⟨ret_bool (by first | exact HE.out.symm | (rw [HE.out]; simp; omega)), hB⟩
    · have HE := Lib.hid (show validC 2 M xs K = false by unfold validC; simp; omega)
      clear hv hI
      cases v
      all_goals
        go_enter Tryz.func58, Tryz.ntmps58
        go_wp2_with (go_at_call 85; refine (ref_valid _ _ _ _ xs _ h1).mono ?_; rintro e w1 ⟨rfl, hb⟩; rw [HV.out]; replace hB := below_step hB hb; replace B1 := B1.step hb; have c0 := B1.c0; have c1 := B1.c1; have c2 := B1.c2; have c3 := B1.c3)
        all_goals
          go_ret
          exact ⟨ret_bool (by first | exact HE.out.symm | (rw [HE.out]; simp; omega)), hB⟩
    · have HE := Lib.hid (show validC 2 M xs K = false by unfold validC; simp; omega)
      clear hv hI
      cases v
      all_goals
        go_enter Tryz.func58, Tryz.ntmps58
        go_wp2_with (go_at_call 85; refine (ref_valid _ _ _ _ xs _ h1).mono ?_; rintro e w1 ⟨rfl, hb⟩; rw [HV.out]; replace hB := below_step hB hb; replace B1 := B1.step hb; have c0 := B1.c0; have c1 := B1.c1; have c2 := B1.c2; have c3 := B1.c3)
        all_goals
          go_ret
          exact ⟨ret_bool (by first | exact HE.out.symm | (rw [HE.out]; simp; omega)), hB⟩
  · have HE := Lib.hid (show validC q M xs K = false by unfold validC; simp [g0, g1, g2])
    have q0 : (q == 0) = false := by simpa using g0
    have q1 : (q == 1) = false := by simpa using g1
    have q2 : (q == 2) = false := by simpa using g2
    clear hv hI g0 g1 g2
    cases v
    all_goals
      go_enter Tryz.func58, Tryz.ntmps58
      go_wp2_with (go_at_call 85; refine (ref_valid _ _ _ _ xs _ h1).mono ?_; rintro e w1 ⟨rfl, hb⟩; rw [HV.out]; replace hB := below_step hB hb; replace B1 := B1.step hb; have c0 := B1.c0; have c1 := B1.c1; have c2 := B1.c2; have c3 := B1.c3)
      all_goals
        go_ret
        exact ⟨ret_bool (by first | exact HE.out.symm | (rw [HE.out]; simp; omega)), hB⟩
end Go.Proofs.YtkgnlloioaobiaaGreat

/-
  Rows of integers that a call has made, and slices.Clone.
-/
namespace Go.Proofs.YtkgnlloioaobiaaGreat
open Go.RowKit
set_option linter.unusedVariables false
set_option maxRecDepth 100000

/-- The first n cells of block g hold just the integers xs, and no cell of it is frozen. -/
def OwnRow (w : World) (g n : Nat) (xs : List Int) : Prop := xs.length = n ∧ ∃ cur : Array Value, w.heap[g]? = some (.cells cur 3 (0, 0)) ∧ n ≤ cur.size ∧ ∀ j, j < n → cur[j]? = some (.int .i64 (xs[j]?.getD 0))

section
variable {w w' : World} {g n : Nat} {xs : List Int}
theorem OwnRow.len (h : OwnRow w g n xs) : xs.length = n := h.1
theorem OwnRow.lt (h : OwnRow w g n xs) : g < w.heap.size := by obtain ⟨_, cur, hc, _⟩ := h; exact (Array.getElem?_eq_some_iff.1 hc).1
theorem OwnRow.cell (h : OwnRow w g n xs) {j : Nat} (hj : j < n) : w.cell? ⟨g, j, none⟩ = some (.int .i64 (xs[j]?.getD 0)) := by
  obtain ⟨_, cur, hc, _, hx⟩ := h
  rw [cell_of_row w g j _ _ (0, 0) hc]; exact hx j hj
theorem OwnRow.free (h : OwnRow w g n xs) (j : Nat) : w.frozen? ⟨g, j, none⟩ = false := by
  obtain ⟨_, cur, hc, _⟩ := h
  simp [World.frozen?, hc]
theorem OwnRow.below {B : Nat} (h : OwnRow w g n xs) (hb : Below B w w') (hg : g < B) : OwnRow w' g n xs := by
  obtain ⟨hl, cur, hc, hx⟩ := h
  exact ⟨hl, cur, (hb.block g hg).trans hc, hx⟩
theorem OwnRow.step (h : OwnRow w g n xs) (hb : Below w.heap.size w w') : OwnRow w' g n xs := h.below hb h.lt
theorem OwnRow.drewN (h : OwnRow w g n xs) (k : Nat) : OwnRow (w.drewN k) g n xs := h
theorem OwnRow.other (h : OwnRow w g n xs) {a : Addr} (ha : g ≠ a.block) (u : Value) : OwnRow (w.setCell a u) g n xs := by
  obtain ⟨hl, cur, hc, hx⟩ := h
  exact ⟨hl, cur, (Below.heap_setCell w a u g ha).trans hc, hx⟩
theorem OwnRow.set (h : OwnRow w g n xs) {j : Nat} (hj : j < n) (x : Int) : OwnRow (w.setCell ⟨g, j, none⟩ (.int .i64 x)) g n (xs.set j x) := by
  obtain ⟨hl, cur, hc, hs, hx⟩ := h
  refine ⟨by simp [hl], cur.setIfInBounds j (.int .i64 x), ?_, by simpa using hs, fun k hk => ?_⟩
  · simp only [World.setCell]
    rw [Array.getElem?_modify]
    simp [hc]
  · by_cases e : j = k
    · subst e
      have h1 : j < cur.size := by omega
      have h2 : j < xs.length := by omega
      simp [h1, h2]
    · rw [Array.getElem?_setIfInBounds_ne e, List.getElem?_set_ne e]
      exact hx k hk
theorem OwnRow.ints (h : OwnRow w g n xs) (hs : n ≤ 17592186044416) (hw : ∀ x ∈ xs, -9223372036854775808 ≤ x ∧ x ≤ 9223372036854775807) : IntsAt w (some ⟨g, 0, none⟩) n xs :=
  ⟨h.len, hs, hw, fun _ => ⟨g, 0, rfl, h.lt, fun j hj => by simpa using h.cell (j := j) hj⟩⟩
theorem OwnRow.new (w : World) (xs : List Int) (n : Nat) (hn : xs.length = n) : OwnRow (w.alloc (.cells (xs.map (Value.int .i64)).toArray 3)) w.heap.size n xs :=
  ⟨hn, _, heap_alloc_new w _, by simp [hn], fun j hj => by simp [hn, hj]⟩
theorem ownRow_of_owns {base : Nat} {v : Value} (h : w.ownsRow base 3 1 v n (xs.map (Value.int .i64))) (hn : 0 < n) : ∃ g cap, v = .slice (some ⟨g, 0, none⟩) n cap ∧ base ≤ g ∧ OwnRow w g n xs := by
  obtain ⟨hl, ⟨_, h0⟩ | ⟨g, cap, cur, rfl, hb, hh, hnc, hm, hcs, ht⟩⟩ := h
  · omega
  · have hlen : xs.length = n := by simpa using hl
    refine ⟨g, cap, rfl, hb, hlen, cur, hh, by omega, fun j hj => ?_⟩
    have h1 : (cur.toList.take (n * 1))[j]? = cur[j]? := by rw [List.getElem?_take, if_pos (by omega)]; simp
    rw [← h1, ht]
    simp [hlen, hj]
end

theorem run_eql_slice_nil (w : World) (A : Option Addr) (n c : Nat) :
    (binOp .eql 38 (.slice A n c) (.slice none 0 0)).run Tryz.prog w = .ok (.bool A.isNone) w := by
  have h : ∀ d : Nat, (Op.equalIn (d + 1) 38 (.slice A n c) (.slice none 0 0)).run Tryz.prog w = .ok A.isNone w := fun d => by
    cases A <;> simp [Op.equalIn, run_underlying Tryz.underlying38]
  simp only [binOp]
  simp [Op.equal, Op.maxDepth, h 9999]

theorem clone_in (b off n c : Nat) (xs : List Int) (w : World) (hn : 0 < n) (hsm : n ≤ 17592186044416) (hlen : xs.length = n) (hcells : ∀ j, j < n → w.cell? ⟨b, off + j, none⟩ = some (.int .i64 (xs[j]?.getD 0))) (hb : b < w.heap.size) :
    Calls Tryz.prog 148 #[.slice (some ⟨b, off, none⟩) n c] w fun e w' => ∃ g cap, e = .returned (.slice (some ⟨g, 0, none⟩) n cap) ∧ w.heap.size ≤ g ∧ OwnRow w' g n xs ∧ Below w.heap.size w w' := by
  obtain ⟨i0, hi, hz0, hz1, hz2⟩ := info_parts infoInt
  have hown := World.ownsRow_lit (base := w.heap.size) (e := 3) (size := 1) w #[] 0 (Nat.le_refl _) (by decide) (by simp)
  have heq := fun w => run_eql_slice_nil w (some ⟨b, off, none⟩) n c
  have HC := Lib.hid hcells
  have HL := Lib.hid hlen
  clear hcells hlen
  go_enter Tryz.func148, Tryz.ntmps148
  go_wp2_with (at_builtin; refine wpList_append_own _ rfl _ _ 38 rfl w.heap.size 3 i0 (.int .i64 0) 1 8 Tryz.underlying38 hi hz0 hz1 hz2 rfl (by decide) _ _ _ rfl hown ⟨b, off, none⟩ n c (xs.map (Value.int .i64)) rfl ?c0 ?c1 ?c2 ?c3 ?c4 ?c5 ?_)
  case c0 => first | exact HL.out | (simp; exact HL.out)
  case c1 =>
    intro j a h
    obtain ⟨hj, e⟩ := List.getElem?_eq_some_iff.1 h
    rw [HC.out j (by rw [← HL.out]; exact hj)]
    simp [h]
  case c2 => intro a _; rfl
  case c3 => unfold maxLen; omega
  case c4 => omega
  intro v' w1 hown' hgrow _
  have hx : w1.ownsRow w.heap.size 3 1 v' n (xs.map (Value.int .i64)) := by simpa using hown'
  obtain ⟨g, cap, rfl, hg, hr⟩ := ownRow_of_owns hx hn
  have hB : Below w.heap.size w w1 := (below_alloc w _).grown hgrow (by simp) (fun k e => by cases e; exact Nat.le_refl _)
  clear hown' hgrow hx
  go_wp2
  go_ret
  exact ⟨g, cap, rfl, hg, hr, hB⟩
end Go.Proofs.YtkgnlloioaobiaaGreat

/-
  Contracts for together, fitting and At of package lin, and for both, fit, Point, Value and At of its reference.
-/
namespace Go.Proofs.YtkgnlloioaobiaaGreat
open Go.RowKit
set_option linter.unusedVariables false

/-- The error that two expressions together cause. -/
def pairErr (xs : List Int) (K : Int) (ys : List Int) (L : Int) : Int := if validB xs K = true ∧ validB ys L = true then (if xs.length = ys.length then 0 else 2) else 1

end Go.Proofs.YtkgnlloioaobiaaGreat

/-
  A region that draws its order, in a round of a loop over a function: what holds of it outside a round holds in it.
-/
namespace Go.Proofs.YtkgnlloioaobiaaGreat
set_option linter.unusedVariables false

def noDefer (ops : Array Oper) : Bool := ops.all fun o => match o.op with | .defer _ => false | _ => true

theorem noDefer_spec {ops : Array Oper} (h : noDefer ops = true) (j : Nat) (o : Oper) (ho : ops[j]? = some o) : ∀ c, o.op ≠ .defer c := by
  intro c e
  have hm : o ∈ ops := Array.mem_of_getElem? ho
  have := (Array.all_eq_true_iff_forall_mem.1 h) o hm
  rw [e] at this
  cases this

theorem wpOpIn_of_wpOp {l n : Nat} {P : Program} {ops : Array Oper} {Q : Exit → Act → World → Prop} {i : Nat} {K : Act → World → Prop} {a : Act} {w : World}
    (hd : noDefer ops = true) (hlet : ¬ LetsOut Q) (h : wpOp P ops Q i K a w) : wpOpIn (Fence.wide.inRound l) n P ops Q i K a w := by
  unfold wpOp at h
  unfold wpOpIn
  cases ho : ops[i]? with
  | none => simpa [ho] using h
  | some o =>
    simp only [ho] at h ⊢
    by_cases hw : Region.wanted o (yielded ops a.tmps) = true
    · rw [if_pos hw] at h ⊢
      refine ⟨fun _ _ => trivial, ?_⟩
      have e : (Fence.wide.inRound l).round = some l := rfl
      rw [e, Oper.semAt_some l _ o (noDefer_spec hd i o ho)]
      unfold Oper.wp at h
      replace h := h.resolve_right (fun x => hlet x.2)
      generalize (execOp a.eval o).run P w = r at h ⊢
      cases r with
      | ok x w' =>
        cases x with
        | value v => exact h
        | skip => exact h
        | defer d => exact h
        | enter f args =>
          refine ⟨fun hh => absurd hh (by simp [Fence.wide, Fence.inRound]), ?_⟩
          refine (CallsIn.inRound l (callsIn_wide.2 h)).mono ?_
          intro e w'' he
          cases e <;> exact he
        | row r args => exact ⟨fun hh => absurd hh (by simp [Fence.wide, Fence.inRound]), fun c cs _ => let ⟨v, w', r, s⟩ := h c cs; ⟨v, w', r, stepsIn_wide.2 s⟩⟩
        | _ => exact h.elim
      | halt x w' => cases x <;> exact h
    · rw [if_neg hw] at h ⊢
      exact ⟨fun _ _ => trivial, h⟩

theorem wpAnyIn_of_wpAny {l n : Nat} {P : Program} {md : Region.Mode} {ops : Array Oper} {Q : Exit → Act → World → Prop} (hd : noDefer ops = true) (hlet : ¬ LetsOut Q) :
    ∀ (fuel : Nat) (listed : Array Bool) (a : Act) (w : World), wpAny P md ops Q fuel listed a w → wpAnyIn (Fence.wide.inRound l) n P md ops Q fuel listed a w
  | 0, _, _, _, h => h
  | fuel + 1, _, _, _, h => ⟨h.1, fun i hi => wpOpIn_of_wpOp hd hlet (wpOp_mono (fun a' w' h' => wpAnyIn_of_wpAny hd hlet fuel _ a' w' h') (h.2 i hi))⟩

/-- The beginning of a region's walk in a round: S is held throughout. -/
theorem region_round {l n : Nat} {P : Program} {ops : Array Oper} {Q : Exit → Act → World → Prop} {S : World → Prop} {id : Nat} {a : Act} {w : World} (hm : P.follows .mixedOrders = true) (hd : noDefer ops = true) (hlet : ¬ LetsOut Q)
    (h : wpAnyH P .any ops Q S ops.size (Array.replicate ops.size false) a w.drew) : (Code.region id ops true).wpIn (Fence.wide.inRound l) n P Q a w :=
  wpIn_region_any hm (wpAnyIn_of_wpAny hd hlet _ _ _ _ (wpAny_of_held _ _ _ _ h))
end Go.Proofs.YtkgnlloioaobiaaGreat

/-
  lin.Put.
-/
namespace Go.Proofs.YtkgnlloioaobiaaGreat
open Go.RowKit Go.Shelf
set_option linter.unusedVariables false
set_option linter.unusedSimpArgs false

attribute [local go_sem] Oper.semAt_some

/-- A function's answer is an expression and an error. -/
def LinRet (w : World) (e : Ending) (w' : World) (ys : List Int) (K err : Int) : Prop :=
  ∃ A n c, e = .returned (.tuple #[.agg #[.slice A n c, .int .i64 K], .int .i64 err]) ∧ IntsAt w' A n ys ∧ Below w.heap.size w w'

/-- A function's answer is an expression, in a row of its own, and an error. -/
def RetO (w : World) (e : Ending) (w' : World) (ys : List Int) (K err : Int) : Prop :=
  ∃ A n c, e = .returned (.tuple #[.agg #[.slice A n c, .int .i64 K], .int .i64 err]) ∧ IntsAt w' A n ys ∧ Below w.heap.size w w' ∧ (n = 0 ∨ ∃ g, A = some ⟨g, 0, none⟩ ∧ w.heap.size ≤ g ∧ OwnRow w' g n ys)
theorem RetO.lin {w : World} {e : Ending} {w' : World} {ys : List Int} {K err : Int} (h : RetO w e w' ys K err) : LinRet w e w' ys K err := by
  obtain ⟨A, n, c, h1, h2, h3, _⟩ := h
  exact ⟨A, n, c, h1, h2, h3⟩
theorem LinRet.lin {w : World} {e : Ending} {w' : World} {ys : List Int} {K err : Int} (h : LinRet w e w' ys K err) : LinRet w e w' ys K err := h
theorem LinRet.o_nil {w : World} {e : Ending} {w' : World} {K err : Int} (h : LinRet w e w' [] K err) : RetO w e w' [] K err := by
  obtain ⟨A, n, c, h1, h2, h3⟩ := h
  exact ⟨A, n, c, h1, h2, h3, .inl h2.len.symm⟩
theorem ret_o {A : Option Addr} {n c : Nat} {K err : Int} {w w' : World} {ys : List Int} {K' err' : Int} (h1 : err' = err) (h2 : K' = K) (hI : IntsAt w' A n ys) (hb : Below w.heap.size w w') (hf : n = 0 ∨ ∃ g, A = some ⟨g, 0, none⟩ ∧ w.heap.size ≤ g ∧ OwnRow w' g n ys) :
    RetO w (.returned (.tuple #[.agg #[.slice A n c, .int .i64 K], .int .i64 err])) w' ys K' err' := by
  subst h1; subst h2; exact ⟨A, n, c, rfl, hI, hb, hf⟩
theorem OwnRow.store2 {w : World} {g n b : Nat} {xs : List Int} (h : OwnRow w g n xs) (hne : b ≠ g) (u v : Value) : OwnRow ((w.setCell ⟨b, 0, none⟩ u).setCell ⟨b, 1, none⟩ v) g n xs :=
  (h.other (a := ⟨b, 0, none⟩) (fun e => hne e.symm) u).other (a := ⟨b, 1, none⟩) (fun e => hne e.symm) v

/-- Block b is a variable that holds an int. -/
def IBox (w : World) (b : Nat) (i : Int) : Prop := w.heap[b]? = some (.cells #[.int .i64 i] 3 (0, 0))
section
variable {w w' : World} {b : Nat} {i : Int}
theorem IBox.new (w : World) (i : Int) : IBox (w.alloc (.cells #[.int .i64 i] 3)) w.heap.size i := heap_alloc_new w _
theorem IBox.lt (h : IBox w b i) : b < w.heap.size := (Array.getElem?_eq_some_iff.1 h).1
theorem IBox.below {B : Nat} (h : IBox w b i) (hb : Below B w w') (hB : b < B) : IBox w' b i := (hb.block b hB).trans h
theorem IBox.step (h : IBox w b i) (hb : Below w.heap.size w w') : IBox w' b i := h.below hb h.lt
theorem IBox.alloc (h : IBox w b i) (o : Obj) : IBox (w.alloc o) b i := h.step (below_alloc w o)
theorem IBox.other (h : IBox w b i) {a : Addr} (ha : b ≠ a.block) (u : Value) : IBox (w.setCell a u) b i := (Below.heap_setCell w a u b ha).trans h
theorem LBox.other {A : Option Addr} {n c : Nat} {K : Int} (h : LBox w b A n c K) {a : Addr} (ha : b ≠ a.block) (u : Value) : LBox (w.setCell a u) b A n c K := (Below.heap_setCell w a u b ha).trans h
theorem IBox.c (h : IBox w b i) : w.cell? ⟨b, 0, none⟩ = some (.int .i64 i) := by rw [cell_of_row w b 0 _ _ (0, 0) h]; rfl
end

theorem block_kept {W W' : World} {row : Option Nat} {b : Nat} {cs : Array Value} {t : TypeId} {fr : Nat × Nat} (h : W.heap[b]? = some (.cells cs t fr)) (hg : W.grownBy W' row) (hr : ∀ r, row = some r → ∃ o : Obj, W.heap[r]? = some o ∧ o.isCells = false) : W'.heap[b]? = some (.cells cs t fr) := by
  refine (hg.block b (Array.getElem?_eq_some_iff.1 h).1 fun e => ?_).trans h
  obtain ⟨o, ho, hc⟩ := hr b e.symm
  rw [h] at ho
  cases ho
  cases hc
theorem OwnRow.kept {W W' : World} {row : Option Nat} {g n : Nat} {xs : List Int} (h : OwnRow W g n xs) (hg : W.grownBy W' row) (hr : ∀ r, row = some r → ∃ o : Obj, W.heap[r]? = some o ∧ o.isCells = false) : OwnRow W' g n xs := by
  obtain ⟨hl, cur, hc, hx⟩ := h
  exact ⟨hl, cur, block_kept hc hg hr, hx⟩

/-- One turn of Put's loop. -/
def putStep (xs : List Int) (i : Nat) (n : Nat) (ys : List Int) (r : List Int) (x : NzAt n ys) : List Int := r.set x.1 (IntKind.i64.wrap (r[x.1]?.getD 0 + IntKind.i64.wrap (xs[i]?.getD 0 * ys[x.1]?.getD 0)))

theorem pair_zero {xs ys : List Int} {K L : Int} (h : pairErr xs K ys L = 0) : validB xs K = true ∧ validB ys L = true ∧ xs.length = ys.length := by
  unfold pairErr at h
  split at h
  · rename_i h1
    split at h
    · rename_i h2; exact ⟨h1.1, h1.2, h2⟩
    · cases h
  · cases h

/-- The coefficients of Put's result. -/
def putL (n : Nat) (xs : List Int) (i : Nat) (ys : List Int) : List Int := (List.range n).map fun j => (if j = i then 0 else xs[j]?.getD 0) + xs[i]?.getD 0 * ys[j]?.getD 0
def putXs (n : Nat) (xs : List Int) (K : Int) (i : Nat) (ys : List Int) (L : Int) : List Int := if validB (putL n xs i ys) (K + xs[i]?.getD 0 * L) = true then putL n xs i ys else []
def putK (n : Nat) (xs : List Int) (K : Int) (i : Nat) (ys : List Int) (L : Int) : Int := if validB (putL n xs i ys) (K + xs[i]?.getD 0 * L) = true then K + xs[i]?.getD 0 * L else 0
def putE (n : Nat) (xs : List Int) (K : Int) (i : Nat) (ys : List Int) (L : Int) : Int := if validB (putL n xs i ys) (K + xs[i]?.getD 0 * L) = true then 0 else 3
section
variable {n : Nat} {xs : List Int} {K : Int} {i : Nat} {ys : List Int} {L : Int}
theorem putXs_bad (h : validB (putL n xs i ys) (K + xs[i]?.getD 0 * L) = false) : putXs n xs K i ys L = [] := by unfold putXs; rw [if_neg (by rw [h]; simp)]
theorem putK_bad (h : validB (putL n xs i ys) (K + xs[i]?.getD 0 * L) = false) : putK n xs K i ys L = 0 := by unfold putK; rw [if_neg (by rw [h]; simp)]
theorem putE_bad (h : validB (putL n xs i ys) (K + xs[i]?.getD 0 * L) = false) : putE n xs K i ys L = 3 := by unfold putE; rw [if_neg (by rw [h]; simp)]
theorem putXs_ok (h : validB (putL n xs i ys) (K + xs[i]?.getD 0 * L) = true) : putXs n xs K i ys L = putL n xs i ys := by unfold putXs; rw [if_pos h]
theorem putK_ok (h : validB (putL n xs i ys) (K + xs[i]?.getD 0 * L) = true) : putK n xs K i ys L = K + xs[i]?.getD 0 * L := by unfold putK; rw [if_pos h]
theorem putE_ok (h : validB (putL n xs i ys) (K + xs[i]?.getD 0 * L) = true) : putE n xs K i ys L = 0 := by unfold putE; rw [if_pos h]

theorem valid_at (h : validB xs K = true) (j : Nat) : -1048576 ≤ xs[j]?.getD 0 ∧ xs[j]?.getD 0 ≤ 1048576 := by
  by_cases hj : j < xs.length
  · exact fitsB_true.1 ((validB_true.1 h).2.2 _ (getD_mem hj))
  · have : xs[j]?.getD 0 = 0 := by simp [hj]
    omega

theorem put_bd (hx : validB xs K = true) (hy : validB ys L = true) (i j : Nat) : -1099511627776 ≤ xs[i]?.getD 0 * ys[j]?.getD 0 ∧ xs[i]?.getD 0 * ys[j]?.getD 0 ≤ 1099511627776 := mul_bd (valid_at hx i) (valid_at hy j)

theorem put_wf (hx : validB xs K = true) (hy : validB ys L = true) : ∀ x ∈ putL n xs i ys, -9223372036854775808 ≤ x ∧ x ≤ 9223372036854775807 := by
  intro x hm
  obtain ⟨j, _, rfl⟩ := List.mem_map.1 hm
  have h1 := valid_at hx j
  have h2 := put_bd hx hy i j
  split <;> omega

theorem tab_get {n : Nat} (f : Nat → Int) {j : Nat} (hj : j < n) : ((List.range n).map f)[j]?.getD 0 = f j := by simp [hj]
theorem tab_set {n : Nat} (f : Nat → Int) {k : Nat} (v : Int) : ((List.range n).map f).set k v = (List.range n).map fun j => if j = k then v else f j := by
  apply List.ext_getElem (by simp)
  intro j h1 h2
  simp only [List.getElem_set, List.getElem_map, List.getElem_range]
  by_cases e : k = j
  · rw [if_pos e, if_pos e.symm]
  · rw [if_neg e, if_neg (fun e' => e e'.symm)]
theorem tab_self {n : Nat} (h : xs.length = n) : xs = (List.range n).map fun j => xs[j]?.getD 0 := by
  apply List.ext_getElem (by simp [h])
  intro j h1 h2
  simp [h1]

theorem put_fold_k (hl : xs.length = n) (hl' : ys.length = n) (hx : validB xs K = true) (hy : validB ys L = true) (hi : i < n) : ∀ k, k ≤ n →
    (nzl n ys k).foldl (putStep xs i n ys) (xs.set i 0) = (List.range n).map fun j => (if j = i then 0 else xs[j]?.getD 0) + (if j < k then xs[i]?.getD 0 * ys[j]?.getD 0 else 0)
  | 0, _ => by
    rw [nzl, List.foldl_nil]
    conv => lhs; rw [tab_self hl]
    rw [tab_set]
    simp
  | k + 1, hk => by
    have ih := put_fold_k hl hl' hx hy hi k (by omega)
    by_cases hz : ys[k]?.getD 0 = 0
    · rw [nzl_miss hz, ih]
      apply List.map_congr_left
      intro j _
      by_cases e : j = k
      · subst e; simp [hz]
      · have : (j < k + 1) ↔ (j < k) := by omega
        simp [this]
    · rw [nzl_hit ⟨by omega, hz⟩, List.foldl_append, ih, List.foldl_cons, List.foldl_nil]
      unfold putStep
      rw [tab_get _ (show k < n by omega), tab_set]
      apply List.map_congr_left
      intro j _
      have h1 := valid_at hx k
      have h2 := put_bd hx hy i k
      by_cases e : j = k
      · subst e
        rw [if_pos rfl, if_neg (show ¬ j < j by omega), if_pos (show j < j + 1 by omega), IntWalk.i64_in (xs[i]?.getD 0 * ys[j]?.getD 0) (by omega)]
        generalize xs[i]?.getD 0 * ys[j]?.getD 0 = m at h2 ⊢
        rw [IntWalk.i64_in _ (by split <;> omega)]
        omega
      · rw [if_neg e]
        have : (j < k + 1) ↔ (j < k) := by omega
        simp [this]

theorem put_fold (hl : xs.length = n) (hl' : ys.length = n) (hx : validB xs K = true) (hy : validB ys L = true) (hi : i < n) : (nzl n ys n).foldl (putStep xs i n ys) (xs.set i 0) = putL n xs i ys := by
  rw [put_fold_k hl hl' hx hy hi n (Nat.le_refl _)]
  apply List.map_congr_left
  intro j hj
  rw [if_pos (List.mem_range.1 hj)]
end

end Go.Proofs.YtkgnlloioaobiaaGreat

/-
  Const and Var of package lin and of its reference; the comparison of two answers.
-/
namespace Go.Proofs.YtkgnlloioaobiaaGreat
open Go.RowKit
set_option linter.unusedVariables false
set_option linter.unusedSimpArgs false

def cErr (n k : Int) : Int := if 0 ≤ n ∧ n ≤ 12 then (if fitsB k = true then 0 else 3) else 6
def cXs (n k : Int) : List Int := if 0 ≤ n ∧ n ≤ 12 then (if fitsB k = true then zeros n.toNat else []) else []
def cK (n k : Int) : Int := if 0 ≤ n ∧ n ≤ 12 then (if fitsB k = true then k else 0) else 0
theorem c_rng {n k : Int} (h : ¬ (0 ≤ n ∧ n ≤ 12)) : cErr n k = 6 ∧ cXs n k = [] ∧ cK n k = 0 := by unfold cErr cXs cK; rw [if_neg h, if_neg h, if_neg h]; exact ⟨rfl, rfl, rfl⟩
theorem c_full {n k : Int} (h : 0 ≤ n ∧ n ≤ 12) (hk : fitsB k = false) : cErr n k = 3 ∧ cXs n k = [] ∧ cK n k = 0 := by
  unfold cErr cXs cK; rw [if_pos h, if_pos h, if_pos h, hk]; exact ⟨rfl, rfl, rfl⟩
theorem c_ok {m : Nat} {k : Int} (h : m ≤ 12) (hk : fitsB k = true) : cErr m k = 0 ∧ cXs m k = zeros m ∧ cK m k = k := by
  have h' : 0 ≤ (m : Int) ∧ (m : Int) ≤ 12 := by omega
  unfold cErr cXs cK; rw [if_pos h', if_pos h', if_pos h', hk]; exact ⟨rfl, by simp, rfl⟩
theorem zeros_wf (m : Nat) : ∀ x ∈ zeros m, -9223372036854775808 ≤ x ∧ x ≤ 9223372036854775807 := fun x hx => by
  have := (List.mem_replicate.1 hx).2
  omega
theorem zeros_valid {m : Nat} (h : m ≤ 12) (k : Int) : validB (zeros m) k = fitsB k := by
  cases hk : fitsB k
  · unfold validB; rw [hk]; simp
  · refine validB_true.2 ⟨by rw [zeros_len]; exact h, hk, fun x hx => ?_⟩
    rw [(List.mem_replicate.1 hx).2]; rfl

theorem ret_lin {A : Option Addr} {n c : Nat} {K err : Int} {w w' : World} {ys : List Int} {K' err' : Int} (h1 : err' = err) (h2 : K' = K) (hI : IntsAt w' A n ys) (hb : Below w.heap.size w w') :
    LinRet w (.returned (.tuple #[.agg #[.slice A n c, .int .i64 K], .int .i64 err])) w' ys K' err' := by
  subst h1; subst h2; exact ⟨A, n, c, rfl, hI, hb⟩

theorem ints_store2 {w : World} {g b n : Nat} {xs : List Int} (h : IntsAt w (some ⟨g, 0, none⟩) n xs) {x : Option Addr} (hx : x = some ⟨g, 0, none⟩) (hb : b ≠ g) (u v : Value) : IntsAt ((w.setCell ⟨b, 0, none⟩ u).setCell ⟨b, 1, none⟩ v) x n xs := by
  subst hx
  refine ⟨h.len, h.small, h.wf, fun hn => ?_⟩
  obtain ⟨b', off, e, hlt, hc⟩ := h.cells hn
  obtain ⟨rfl, rfl⟩ : g = b' ∧ 0 = off := by simpa using e
  refine ⟨g, 0, rfl, by simpa using hlt, fun j hj => ?_⟩
  rw [World.cell?_setCell_far _ ⟨b, 1, none⟩ ⟨g, 0 + j, none⟩ _ hb, World.cell?_setCell_far _ ⟨b, 0, none⟩ ⟨g, 0 + j, none⟩ _ hb]
  exact hc j hj

theorem new_ints (w : World) (xs : List Int) (n : Nat) (hl : xs.length = n) (hs : n ≤ 17592186044416) (hw : ∀ x ∈ xs, -9223372036854775808 ≤ x ∧ x ≤ 9223372036854775807) (g : Nat) (hg : g = w.heap.size) :
    IntsAt (w.alloc (.cells (xs.map (Value.int .i64)).toArray 3)) (some ⟨g, 0, none⟩) n xs := by subst hg; exact (OwnRow.new w xs n hl).ints hs hw

def vErr (n i : Int) : Int := if 0 ≤ n ∧ n ≤ 12 ∧ 0 ≤ i ∧ i < n then 0 else 6
def vXs (n i : Int) : List Int := if 0 ≤ n ∧ n ≤ 12 ∧ 0 ≤ i ∧ i < n then (zeros n.toNat).set i.toNat 1 else []
theorem v_bad {n i : Int} (h : ¬ (0 ≤ n ∧ n ≤ 12 ∧ 0 ≤ i ∧ i < n)) : vErr n i = 6 ∧ vXs n i = [] := by unfold vErr vXs; rw [if_neg h, if_neg h]; exact ⟨rfl, rfl⟩
theorem v_ok {m j : Nat} (h : m ≤ 12) (hj : j < m) : vErr m j = 0 ∧ vXs m j = (zeros m).set j 1 := by unfold vErr vXs; rw [if_pos (by omega), if_pos (by omega)]; exact ⟨rfl, by simp⟩
theorem set_wf {xs : List Int} (h : ∀ x ∈ xs, -9223372036854775808 ≤ x ∧ x ≤ 9223372036854775807) (j : Nat) {v : Int} (hv : -9223372036854775808 ≤ v ∧ v ≤ 9223372036854775807) : ∀ x ∈ xs.set j v, -9223372036854775808 ≤ x ∧ x ≤ 9223372036854775807 := fun x hx => by
  rcases List.mem_or_eq_of_mem_set hx with h1 | h1
  · exact h x h1
  · subst h1; exact hv

end Go.Proofs.YtkgnlloioaobiaaGreat

/-
  Mix of the reference of package lin.
-/
namespace Go.Proofs.YtkgnlloioaobiaaGreat
open Go.RowKit
set_option linter.unusedVariables false
set_option linter.unusedSimpArgs false

def mixL (n : Nat) (a : Int) (xs : List Int) (b : Int) (ys : List Int) : List Int := (List.range n).map fun j => a * xs[j]?.getD 0 + b * ys[j]?.getD 0
def mixTo (n : Nat) (a : Int) (xs : List Int) (b : Int) (ys : List Int) (i : Nat) : List Int := (List.range n).map fun j => if j < i then a * xs[j]?.getD 0 + b * ys[j]?.getD 0 else 0
/-- Small numbers. -/
def Tame (xs : List Int) : Prop := ∀ j : Nat, -1048576 ≤ xs[j]?.getD 0 ∧ xs[j]?.getD 0 ≤ 1048576

theorem mix_zero (n : Nat) (a : Int) (xs : List Int) (b : Int) (ys : List Int) : mixTo n a xs b ys 0 = zeros n := by
  apply List.ext_getElem (by simp [mixTo, zeros])
  intro j h1 h2
  simp [mixTo, zeros]
theorem mix_step (n : Nat) (a : Int) (xs : List Int) (b : Int) (ys : List Int) (i : Nat) : (mixTo n a xs b ys i).set i (a * xs[i]?.getD 0 + b * ys[i]?.getD 0) = mixTo n a xs b ys (i + 1) := by
  unfold mixTo
  rw [tab_set]
  apply List.map_congr_left
  intro j _
  by_cases e : j = i
  · subst e; simp
  · have : (j < i + 1) ↔ (j < i) := by omega
    simp [e, this]
theorem mix_all (n : Nat) (a : Int) (xs : List Int) (b : Int) (ys : List Int) : mixTo n a xs b ys n = mixL n a xs b ys := by
  apply List.map_congr_left
  intro j hj
  rw [if_pos (List.mem_range.1 hj)]
theorem mix_bd {a b x y : Int} (ha : -1048576 ≤ a ∧ a ≤ 1048576) (hb : -1048576 ≤ b ∧ b ≤ 1048576) (hx : -1048576 ≤ x ∧ x ≤ 1048576) (hy : -1048576 ≤ y ∧ y ≤ 1048576) :
    IntKind.i64.wrap (IntKind.i64.wrap (a * x) + IntKind.i64.wrap (b * y)) = a * x + b * y ∧ -9223372036854775808 ≤ a * x + b * y ∧ a * x + b * y ≤ 9223372036854775807 := by
  have h1 := mul_bd ha hx
  have h2 := mul_bd hb hy
  rw [IntWalk.i64_in (a * x) (by omega), IntWalk.i64_in (b * y) (by omega), IntWalk.i64_in _ (by omega)]
  exact ⟨rfl, by omega, by omega⟩
theorem mix_wf {n : Nat} {a b : Int} {xs ys : List Int} (ha : -1048576 ≤ a ∧ a ≤ 1048576) (hb : -1048576 ≤ b ∧ b ≤ 1048576) (hx : Tame xs) (hy : Tame ys) : ∀ z ∈ mixL n a xs b ys, -9223372036854775808 ≤ z ∧ z ≤ 9223372036854775807 := by
  intro z hz
  obtain ⟨j, _, rfl⟩ := List.mem_map.1 hz
  exact (mix_bd ha hb (hx j) (hy j)).2

set_option maxHeartbeats 4000000 in
set_option maxRecDepth 100000 in
theorem ref_mix_g (a b : Int) (A : Option Addr) (n c : Nat) (K : Int) (xs : List Int) (A' : Option Addr) (n' c' : Nat) (L : Int) (ys : List Int) (w : World) (hI : IntsAt w A n xs) (hI' : IntsAt w A' n' ys) (hnn : n ≤ n')
    (hKL : IntKind.i64.wrap (IntKind.i64.wrap (a * K) + IntKind.i64.wrap (b * L)) = a * K + b * L)
    (hmx : ∀ j : Nat, IntKind.i64.wrap (IntKind.i64.wrap (a * xs[j]?.getD 0) + IntKind.i64.wrap (b * ys[j]?.getD 0)) = a * xs[j]?.getD 0 + b * ys[j]?.getD 0 ∧ -9223372036854775808 ≤ a * xs[j]?.getD 0 + b * ys[j]?.getD 0 ∧ a * xs[j]?.getD 0 + b * ys[j]?.getD 0 ≤ 9223372036854775807) :
    Calls Tryz.prog 67 #[.int .i64 a, .agg #[.slice A n c, .int .i64 K], .int .i64 b, .agg #[.slice A' n' c', .int .i64 L]] w fun e w' =>
      ∃ g c'', e = .returned (.agg #[.slice (some ⟨g, 0, none⟩) n c'', .int .i64 (a * K + b * L)]) ∧ w.heap.size ≤ g ∧ IntsAt w' (some ⟨g, 0, none⟩) n (mixL n a xs b ys) ∧ OwnRow w' g n (mixL n a xs b ys) ∧ Below w.heap.size w w' := by
  have hsm := hI.small
  have hmk := make_ints n hsm
  have B1 := ((LBox.new w A n c K).alloc (.cells #[.slice A' n' c', .int .i64 L] 54)).alloc (.cells #[.slice none 0 0, .int .i64 0] 54)
  have B2 := (LBox.new (w.alloc (.cells #[.slice A n c, .int .i64 K] 54)) A' n' c' L).alloc (.cells #[.slice none 0 0, .int .i64 0] 54)
  have B3 := LBox.new ((w.alloc (.cells #[.slice A n c, .int .i64 K] 54)).alloc (.cells #[.slice A' n' c', .int .i64 L] 54)) none 0 0 0
  have hB := below_step (below_step (below_alloc w (.cells #[.slice A n c, .int .i64 K] 54)) (below_alloc _ (.cells #[.slice A' n' c', .int .i64 L] 54))) (below_alloc _ (.cells #[.slice none 0 0, .int .i64 0] 54))
  simp only [World.size_alloc] at B2 B3
  have HKL := Lib.hid hKL
  have HMX := Lib.hid hmx
  clear hKL hmx
  go_enter Tryz.func67, Tryz.ntmps67
  go_wp2
  obtain ⟨w0, hw0⟩ : ∃ w0, ((w.alloc (.cells #[.slice A n c, .int .i64 K] 54)).alloc (.cells #[.slice A' n' c', .int .i64 L] 54)).alloc (.cells #[.slice none 0 0, .int .i64 0] 54) = w0 := ⟨_, rfl⟩
  rw [hw0] at B1 B2 B3 hB ⊢
  clear hw0
  have hsz : w.heap.size + 1 + 1 < w0.heap.size := B3.lt
  go_cut [9] from 11 (fun v W => ∃ Br g, v = .pointer (some ⟨Br, 0, none⟩) ∧ w.heap.size + 3 ≤ Br ∧ w.heap.size + 3 ≤ g ∧ Br ≠ g ∧ LBox W Br (some ⟨g, 0, none⟩) n n (a * K + b * L) ∧ OwnRow W g n (zeros n) ∧ LBox W w.heap.size A n c K ∧ LBox W (w.heap.size + 1) A' n' c' L ∧ LBox W (w.heap.size + 1 + 1) none 0 0 0 ∧ Below w.heap.size w W)
  case first =>
    have c10 := B1.c0
    have c11 := B1.c1
    have c21 := B2.c1
    have n0 : w0.heap.size ≠ w.heap.size := by omega
    have n1 : w0.heap.size ≠ w.heap.size + 1 := by omega
    have n2 : w0.heap.size + 1 ≠ w.heap.size := by omega
    have n3 : w0.heap.size + 1 ≠ w.heap.size + 1 := by omega
    go_region_held3 (fun W => W.cell? ⟨w.heap.size, 0, none⟩ = some (.slice A n c) ∧ W.cell? ⟨w.heap.size, 1, none⟩ = some (.int .i64 K) ∧ W.cell? ⟨w.heap.size + 1, 1, none⟩ = some (.int .i64 L)) (go_keep) (fail)
    · clear c10 c11 c21 n0 n1 n2 n3
      rw [HKL.out]
      have f1 := LBox.new (w0.alloc (.cells ((zeros n).map (Value.int .i64)).toArray 3)) (some ⟨w0.heap.size, 0, none⟩) n n (a * K + b * L)
      rw [World.size_alloc] at f1
      have f2 := (OwnRow.new w0 (zeros n) n (zeros_len n)).step (below_alloc _ (.cells #[.slice (some ⟨w0.heap.size, 0, none⟩) n n, .int .i64 (a * K + b * L)] 54))
      have hW := (below_step (below_alloc w0 (.cells ((zeros n).map (Value.int .i64)).toArray 3)) (below_alloc _ (.cells #[.slice (some ⟨w0.heap.size, 0, none⟩) n n, .int .i64 (a * K + b * L)] 54))).drew
      go_wp2
      go_meet
      case rel => exact ⟨w0.heap.size + 1, w0.heap.size, rfl, by omega, by omega, by omega, f1, f2, B1.step hW, B2.step hW, B3.step hW, below_step hB hW⟩
    · clear c10 c11 c21 n0 n1 n2 n3
      rw [HKL.out]
      have f1 := (LBox.new w0 (some ⟨w0.heap.size + 1, 0, none⟩) n n (a * K + b * L)).alloc (.cells ((zeros n).map (Value.int .i64)).toArray 3)
      have f2 := OwnRow.new (w0.alloc (.cells #[.slice (some ⟨w0.heap.size + 1, 0, none⟩) n n, .int .i64 (a * K + b * L)] 54)) (zeros n) n (zeros_len n)
      rw [World.size_alloc] at f2
      have hW := (below_step (below_alloc w0 (.cells #[.slice (some ⟨w0.heap.size + 1, 0, none⟩) n n, .int .i64 (a * K + b * L)] 54)) (below_alloc _ (.cells ((zeros n).map (Value.int .i64)).toArray 3))).drew
      go_wp2
      go_meet
      case rel => exact ⟨w0.heap.size, w0.heap.size + 1, rfl, by omega, by omega, by omega, f1, f2, B1.step hW, B2.step hW, B3.step hW, below_step hB hW⟩
  case rest =>
    obtain ⟨Br, g, rfl, hBr, hg, hne, R9, hrow, S1, S2, S3, hBw⟩ := hcut
    clear B1 B2 B3 hB hmk
    have c10 := S1.c0
    go_wp2
    go_loopw [28] (fun v wr => ∃ i : Nat, i ≤ n ∧ v = .int .i64 i ∧ LBox wr Br (some ⟨g, 0, none⟩) n n (a * K + b * L) ∧ OwnRow wr g n (mixTo n a xs b ys i) ∧ LBox wr w.heap.size A n c K ∧ LBox wr (w.heap.size + 1) A' n' c' L ∧ LBox wr (w.heap.size + 1 + 1) none 0 0 0 ∧ Below w.heap.size w wr) (fun v _ => n - (intOf v).toNat)
    case atStart => exact ⟨0, Nat.zero_le _, rfl, R9, by rw [mix_zero]; exact hrow, S1, S2, S3, hBw⟩
    case round =>
      obtain ⟨i, hi, rfl, R9, hrow, S1, S2, S3, hBw⟩ := hrel
      by_cases hlt : i < n
      · obtain ⟨bl, off, rfl, hbl, hc⟩ := hI.cells (by omega)
        obtain ⟨bl', off', rfl, hbl', hc'⟩ := hI'.cells (by omega)
        have hcell := (hBw.cell (p := ⟨bl, off + i, none⟩) hbl).trans (hc i hlt)
        have hcell' := (hBw.cell (p := ⟨bl', off' + i, none⟩) hbl').trans (hc' i (by omega))
        have c10 := S1.c0
        have c20 := S2.c0
        have c90 := R9.c0
        have hfr := hrow.free i
        have hcr := hrow.cell hlt
        have hm := Lib.hid (HMX.out i).1
        have q1 : (i : Int) < n := by omega
        have q2 : (i : Int) < n' := by omega
        have n0 : g ≠ w.heap.size := by omega
        have n1 : g ≠ w.heap.size + 1 := by omega
        have n2 : g ≠ Br := Ne.symm hne
        have n3 : g ≠ bl := by omega
        have n4 : g ≠ bl' := by omega
        clear hc hc'
        go_wp2
        go_region_held3 (fun W => W.cell? ⟨Br, 0, none⟩ = some (.slice (some ⟨g, 0, none⟩) n n) ∧ W.cell? ⟨w.heap.size, 0, none⟩ = some (.slice (some ⟨bl, off, none⟩) n c) ∧ W.cell? ⟨w.heap.size + 1, 0, none⟩ = some (.slice (some ⟨bl', off', none⟩) n' c') ∧ W.cell? ⟨bl, off + i, none⟩ = some (.int .i64 (xs[i]?.getD 0)) ∧ W.cell? ⟨bl', off' + i, none⟩ = some (.int .i64 (ys[i]?.getD 0))) (go_keep) (fail)
        clear n0 n1 n2 n3 n4 c10 c20 c90 hcell hcell' hcr hfr
        rw [hm.out]
        have f2 := hrow.set hlt (a * xs[i]?.getD 0 + b * ys[i]?.getD 0)
        rw [mix_step] at f2
        have f0 := R9.other (a := ⟨g, i, none⟩) hne (.int .i64 (a * xs[i]?.getD 0 + b * ys[i]?.getD 0))
        have f3 := S1.other (a := ⟨g, i, none⟩) (show w.heap.size ≠ g by omega) (.int .i64 (a * xs[i]?.getD 0 + b * ys[i]?.getD 0))
        have f4 := S2.other (a := ⟨g, i, none⟩) (show w.heap.size + 1 ≠ g by omega) (.int .i64 (a * xs[i]?.getD 0 + b * ys[i]?.getD 0))
        have f5 := S3.other (a := ⟨g, i, none⟩) (show w.heap.size + 1 + 1 ≠ g by omega) (.int .i64 (a * xs[i]?.getD 0 + b * ys[i]?.getD 0))
        have f6 := (hBw.setCell (p := ⟨g, i, none⟩) (show w.heap.size ≤ g by omega) (.int .i64 (a * xs[i]?.getD 0 + b * ys[i]?.getD 0))).drew
        clear R9 hrow S1 S2 S3 hBw hm
        go_wp2
        go_roundw
        case rel => exact ⟨i + 1, by omega, by go_num, f0, f2, f3, f4, f5, f6⟩
        case measure => simp [intOf]; omega
      · obtain rfl : i = n := by omega
        rw [mix_all] at hrow
        have c90 := R9.c0
        have c91 := R9.c1
        have c30 := S3.c0
        have c31 := S3.c1
        have f30 := S3.f 0
        have f31 := S3.f 1
        have c40 := S3.s0 (.slice (some ⟨g, 0, none⟩) i i)
        have c41 := (S3.store (some ⟨g, 0, none⟩) i i (a * K + b * L)).c1
        go_wp2
        refine bodyPost_ret (v := .agg #[.slice (some ⟨g, 0, none⟩) i i, .int .i64 (a * K + b * L)]) (by simp [results, Tryz.results67, go_sem, c40, c41]) rfl ?_
        exact ⟨_, _, rfl, by omega, ints_store2 (hrow.ints hsm (fun z hz => by obtain ⟨j, _, rfl⟩ := List.mem_map.1 hz; exact (HMX.out j).2)) rfl (by omega) _ _, hrow.store2 (by omega) _ _, below_store2 hBw (by omega) _ _⟩

theorem ref_mix_o (a b : Int) (A : Option Addr) (n c : Nat) (K : Int) (xs : List Int) (A' : Option Addr) (n' c' : Nat) (L : Int) (ys : List Int) (w : World) (hI : IntsAt w A n xs) (hI' : IntsAt w A' n' ys) (hnn : n ≤ n')
    (ha : -1048576 ≤ a ∧ a ≤ 1048576) (hb : -1048576 ≤ b ∧ b ≤ 1048576) (hK : -1048576 ≤ K ∧ K ≤ 1048576) (hL : -1048576 ≤ L ∧ L ≤ 1048576) (hx : Tame xs) (hy : Tame ys) :
    Calls Tryz.prog 67 #[.int .i64 a, .agg #[.slice A n c, .int .i64 K], .int .i64 b, .agg #[.slice A' n' c', .int .i64 L]] w fun e w' =>
      ∃ g c'', e = .returned (.agg #[.slice (some ⟨g, 0, none⟩) n c'', .int .i64 (a * K + b * L)]) ∧ w.heap.size ≤ g ∧ IntsAt w' (some ⟨g, 0, none⟩) n (mixL n a xs b ys) ∧ OwnRow w' g n (mixL n a xs b ys) ∧ Below w.heap.size w w' :=
  ref_mix_g a b A n c K xs A' n' c' L ys w hI hI' hnn (mix_bd ha hb hK hL).1 (fun j => mix_bd ha hb (hx j) (hy j))

/-- Mix as a copy. -/
theorem ref_mix_copy (A : Option Addr) (n c : Nat) (K : Int) (xs : List Int) (hK : -9223372036854775808 ≤ K ∧ K ≤ 9223372036854775807) (w : World) (hI : IntsAt w A n xs) :
    Calls Tryz.prog 67 #[.int .i64 1, .agg #[.slice A n c, .int .i64 K], .int .i64 0, .agg #[.slice A n c, .int .i64 K]] w fun e w' =>
      ∃ g c'', e = .returned (.agg #[.slice (some ⟨g, 0, none⟩) n c'', .int .i64 K]) ∧ w.heap.size ≤ g ∧ IntsAt w' (some ⟨g, 0, none⟩) n xs ∧ OwnRow w' g n xs ∧ Below w.heap.size w w' := by
  have key : ∀ x : Int, -9223372036854775808 ≤ x ∧ x ≤ 9223372036854775807 → IntKind.i64.wrap (IntKind.i64.wrap (1 * x) + IntKind.i64.wrap (0 * x)) = 1 * x + 0 * x ∧ -9223372036854775808 ≤ 1 * x + 0 * x ∧ 1 * x + 0 * x ≤ 9223372036854775807 := by
    intro x hx
    rw [Int.one_mul, Int.zero_mul, Int.add_zero]
    have h0 : IntKind.i64.wrap 0 = 0 := rfl
    have h1 : IntKind.i64.wrap x = x := IntWalk.i64_in _ (by omega)
    rw [h0, h1, Int.add_zero, h1]
    exact ⟨rfl, hx⟩
  have h := ref_mix_g 1 0 A n c K xs A n c K xs w hI hI (Nat.le_refl _) (key K hK).1 (fun j => key _ (hI.rng j))
  have e : mixL n 1 xs 0 xs = xs := by
    apply List.ext_getElem (by simp [mixL, hI.len])
    intro j h1 h2
    simp [mixL, h2]
  rw [e, Int.one_mul, Int.zero_mul, Int.add_zero] at h
  exact h

theorem ref_mix (a b : Int) (A : Option Addr) (n c : Nat) (K : Int) (xs : List Int) (A' : Option Addr) (n' c' : Nat) (L : Int) (ys : List Int) (w : World) (hI : IntsAt w A n xs) (hI' : IntsAt w A' n' ys) (hnn : n ≤ n')
    (ha : -1048576 ≤ a ∧ a ≤ 1048576) (hb : -1048576 ≤ b ∧ b ≤ 1048576) (hK : -1048576 ≤ K ∧ K ≤ 1048576) (hL : -1048576 ≤ L ∧ L ≤ 1048576) (hx : Tame xs) (hy : Tame ys) :
    Calls Tryz.prog 67 #[.int .i64 a, .agg #[.slice A n c, .int .i64 K], .int .i64 b, .agg #[.slice A' n' c', .int .i64 L]] w fun e w' =>
      ∃ g c'', e = .returned (.agg #[.slice (some ⟨g, 0, none⟩) n c'', .int .i64 (a * K + b * L)]) ∧ w.heap.size ≤ g ∧ IntsAt w' (some ⟨g, 0, none⟩) n (mixL n a xs b ys) ∧ Below w.heap.size w w' :=
  (ref_mix_o a b A n c K xs A' n' c' L ys w hI hI' hnn ha hb hK hL hx hy).mono (by rintro e w' ⟨g, c'', h1, h2, h3, _, h4⟩; exact ⟨g, c'', h1, h2, h3, h4⟩)
end Go.Proofs.YtkgnlloioaobiaaGreat

/-
  Contracts for At of package lin, and for Point, Value and At of its reference.
-/
namespace Go.Proofs.YtkgnlloioaobiaaGreat
open Go.RowKit
set_option linter.unusedVariables false

noncomputable def atErr (xs : List Int) (K : Int) (ps : List Int) : Int := if validB xs K = true then dotErr xs ps else 1
noncomputable def atVal (xs : List Int) (K : Int) (ps : List Int) : Int := if atErr xs K ps = 0 then K + dotSum xs ps xs.length else 0

theorem dotErr_zero {xs ps : List Int} : dotErr xs ps = 0 ↔ xs.length = ps.length ∧ xs.length ≤ 12 ∧ ∀ i, i < xs.length → goodAt xs ps i := by
  unfold dotErr
  split
  · rename_i h; exact ⟨(fun e => by cases e), fun h' => absurd h'.1 h⟩
  · rename_i h
    split
    · rename_i h'; exact ⟨(fun e => by cases e), fun h2 => absurd h2.2.1 (by omega)⟩
    · rename_i h'
      split
      · rename_i h2; exact ⟨fun _ => ⟨by simpa using h, by omega, h2⟩, fun _ => rfl⟩
      · rename_i h2; exact ⟨(fun e => by cases e), fun h3 => absurd h3.2.2 h2⟩

theorem dotVal_zero {xs ps : List Int} (h : dotErr xs ps = 0) : dotVal xs ps = dotSum xs ps xs.length := by unfold dotVal; rw [if_pos h]

theorem sum_bd {xs ps : List Int} {K : Int} (hk : fitsB K = true) {i : Nat} (h12 : i ≤ 12) (hg : ∀ j, j < i → goodAt xs ps j) : -4611686018427387904 ≤ K + dotSum xs ps i ∧ K + dotSum xs ps i ≤ 4611686018427387904 := by
  have h1 := dotSum_bd i hg
  have h2 := fitsB_true.1 hk
  omega

theorem at_ok {xs ps : List Int} {K : Int} (hv : validB xs K = true) (h : dotErr xs ps = 0) : wrap64 (dotVal xs ps + K) = atVal xs K ps ∧ 0 = atErr xs K ps := by
  have e : atErr xs K ps = 0 := by unfold atErr; rw [if_pos hv, h]
  obtain ⟨h1, h2, h3⟩ := dotErr_zero.1 h
  have hb := sum_bd (validB_true.1 hv).2.1 h2 h3
  rw [dotVal_zero h]
  refine ⟨?_, e.symm⟩
  unfold atVal
  rw [if_pos e, IntWalk.wrap64_in _ (by omega)]; omega
theorem at_bad {xs ps : List Int} {K : Int} (hv : validB xs K = true) (h : dotErr xs ps ≠ 0) : 0 = atVal xs K ps ∧ dotErr xs ps = atErr xs K ps := by
  have e : atErr xs K ps = dotErr xs ps := by unfold atErr; rw [if_pos hv]
  exact ⟨by unfold atVal; rw [if_neg (by rw [e]; exact h)], e.symm⟩
theorem at_invalid {xs ps : List Int} {K : Int} (hv : validB xs K = false) : 0 = atVal xs K ps ∧ 1 = atErr xs K ps := by
  have e : atErr xs K ps = 1 := by unfold atErr; rw [if_neg (by rw [hv]; simp)]
  exact ⟨by unfold atVal; rw [if_neg (by rw [e]; decide)], e.symm⟩

theorem lin_at (A : Option Addr) (n c : Nat) (K : Int) (xs : List Int) (A' : Option Addr) (n' c' : Nat) (ps : List Int) (w : World) (hI : IntsAt w A n xs) (hI' : IntsAt w A' n' ps) :
    Calls Tryz.prog 88 #[.agg #[.slice A n c, .int .i64 K], .slice A' n' c'] w fun e w' => e = .returned (.tuple #[.int .i64 (atVal xs K ps), .int .i64 (atErr xs K ps)]) ∧ Below w.heap.size w w' := by
  have hB := below_alloc w (.cells #[.slice A n c, .int .i64 K] 54)
  have h1 := hI.step hB
  have h2 := hI'.step hB
  have B1 := LBox.new w A n c K
  clear hI hI'
  cases hv : validB xs K
  · have HE := Lib.hid (at_invalid (ps := ps) hv)
    go_enter Tryz.func88, Tryz.ntmps88
    go_wp2_with (go_at_call 91; refine (lin_valid _ _ _ _ xs _ h1).mono ?_; rintro e w' ⟨rfl, hb⟩; replace hB := below_step hB hb)
    go_ret2
    exact ⟨ret2 (vint HE.out.1) (vint HE.out.2), hB⟩
  · by_cases h0 : dotErr xs ps = 0
    · have HE := Lib.hid (at_ok hv h0)
      have H0 := Lib.hid h0
      clear h0
      go_enter Tryz.func88, Tryz.ntmps88
      go_wp2_with (first
        | (go_at_call 91; refine (lin_valid _ _ _ _ xs _ h1).mono ?_; rintro e w' ⟨rfl, hb⟩; replace hB := below_step hB hb; replace h1 := h1.step hb; replace h2 := h2.step hb; replace B1 := B1.step hb; have c10 := B1.c0; have c11 := B1.c1)
        | (go_at_call 109; refine (num_dot _ _ _ _ _ _ _ _ xs ps h1 h2).mono ?_; rintro e w' ⟨rfl, k, rfl⟩; rw [H0.out]))
      go_ret2
      exact ⟨ret2 (vint HE.out.1) (vint HE.out.2), below_step hB (below_of_drewN _)⟩
    · have HE := Lib.hid (at_bad hv h0)
      have q1 : (dotErr xs ps != 0) = true := by simpa using h0
      have q2 : (dotErr xs ps == 0) = false := by simpa using h0
      clear h0
      go_enter Tryz.func88, Tryz.ntmps88
      go_wp2_with (first
        | (go_at_call 91; refine (lin_valid _ _ _ _ xs _ h1).mono ?_; rintro e w' ⟨rfl, hb⟩; replace hB := below_step hB hb; replace h1 := h1.step hb; replace h2 := h2.step hb; replace B1 := B1.step hb; have c10 := B1.c0; have c11 := B1.c1)
        | (go_at_call 109; refine (num_dot _ _ _ _ _ _ _ _ xs ps h1 h2).mono ?_; rintro e w' ⟨rfl, k, rfl⟩))
      go_ret2
      exact ⟨ret2 (vint HE.out.1) (vint HE.out.2), below_step hB (below_of_drewN _)⟩

def pointB (ps : List Int) : Bool := ps.all coordB

theorem ref_value (A : Option Addr) (n c : Nat) (K : Int) (xs : List Int) (A' : Option Addr) (n' c' : Nat) (ps : List Int) (w : World) (hI : IntsAt w A n xs) (hI' : IntsAt w A' n' ps)
    (hk : fitsB K = true) (h12 : n ≤ 12) (hnn : n ≤ n') (hgood : ∀ j, j < n → goodAt xs ps j) :
    Calls Tryz.prog 110 #[.agg #[.slice A n c, .int .i64 K], .slice A' n' c'] w fun e w' => e = .returned (.int .i64 (K + dotSum xs ps n)) ∧ Below w.heap.size w w' := by
  have hB := below_alloc w (.cells #[.slice A n c, .int .i64 K] 54)
  have h := hI.step hB
  have h' := hI'.step hB
  have hsm' := hI'.small
  have HK := Lib.hid hk
  have HG := Lib.hid hgood
  clear hk hgood hI hI'
  go_enter Tryz.func110, Tryz.ntmps110
  go_wp2
  go_loopw [5, 12] (fun u v wr => ∃ i k : Nat, i ≤ n ∧ v = .int .i64 i ∧ u = .int .i64 (K + dotSum xs ps i) ∧ wr = (w.alloc (.cells #[.slice A n c, .int .i64 K] 54)).drewN k) (fun _ v _ => n - (intOf v).toNat)
  case atStart => exact ⟨0, 0, Nat.zero_le _, rfl, by simp [dotSum], rfl⟩
  case round =>
    obtain ⟨i, k, hi, rfl, rfl, rfl⟩ := hrel
    by_cases hlt : i < n
    · obtain ⟨b, off, rfl, hb, hc⟩ := h.cells (by omega)
      obtain ⟨b', off', rfl, hb', hc'⟩ := h'.cells (by omega)
      have hcell := hc i hlt
      have hcell' := hc' i (by omega)
      have hlt' : i < n' := by omega
      clear hc hc'
      have HE := Lib.hid (show wrap64 (K + dotSum xs ps i + wrap64 (xs[i]?.getD 0 * ps[i]?.getD 0)) = K + dotSum xs ps (i + 1) by
        have hm := mul_bd (HG.out i hlt).1 (HG.out i hlt).2
        have hs := sum_bd (i := i + 1) HK.out (by omega) (fun j hj => HG.out j (by omega))
        simp only [dotSum] at hs ⊢
        rw [IntWalk.wrap64_in (xs[i]?.getD 0 * ps[i]?.getD 0) (by omega), IntWalk.wrap64_in _ (by omega)]; omega)
      go_wp2
      go_quiet (fail)
      go_wp2
      go_roundw
      case rel => exact ⟨i + 1, _, by omega, by go_num, vint HE.out, rfl⟩
      case measure => simp [intOf]; omega
    · obtain rfl : i = n := by omega
      go_wp2
      go_ret
      exact ⟨rfl, below_step hB (below_of_drewN _)⟩

theorem dot_cases {xs ps : List Int} {K : Int} (hv : validB xs K = true) : (xs.length ≠ ps.length ∧ dotErr xs ps = 2) ∨ (xs.length = ps.length ∧ pointB ps = false ∧ dotErr xs ps = 6) ∨ (xs.length = ps.length ∧ pointB ps = true ∧ dotErr xs ps = 0) := by
  obtain ⟨h12, _, hf⟩ := validB_true.1 hv
  by_cases hl : xs.length = ps.length
  · have hg : (∀ i, i < xs.length → goodAt xs ps i) ↔ pointB ps = true := by
      refine ⟨fun h => List.all_eq_true.2 ((all_getD (p := fun x => coordB x = true)).2 fun j hj => coordB_true.2 (h j (by omega)).2), fun h i hi => ?_⟩
      exact ⟨fitsB_true.1 (hf _ (getD_mem hi)), coordB_true.1 (List.all_eq_true.1 h _ (getD_mem (by omega)))⟩
    cases hp : pointB ps
    · refine .inr (.inl ⟨hl, rfl, ?_⟩)
      unfold dotErr
      rw [if_neg (by simpa using hl), if_neg (by omega), if_neg (by rw [hg, hp]; simp)]
    · exact .inr (.inr ⟨hl, rfl, dotErr_zero.2 ⟨hl, h12, hg.2 hp⟩⟩)
  · exact .inl ⟨hl, by unfold dotErr; rw [if_pos hl]⟩

end Go.Proofs.YtkgnlloioaobiaaGreat

/-
  Holds, both.
-/
namespace Go.Proofs.YtkgnlloioaobiaaGreat
open Go.RowKit
set_option linter.unusedVariables false
set_option linter.unusedSimpArgs false

/-- Does a condition of this kind hold where its expression has the value v? -/
def holdB (q M v : Int) : Bool := if q = 0 then decide (0 ≤ v) else if q = 1 then decide (v = 0) else decide (v % M = 0)
noncomputable def hErr (q M : Int) (xs : List Int) (K : Int) (ps : List Int) : Int := if validC q M xs K = true then atErr xs K ps else 1
noncomputable def hVal (q M : Int) (xs : List Int) (K : Int) (ps : List Int) : Bool := if hErr q M xs K ps = 0 then holdB q M (atVal xs K ps) else false
theorem h_inv {q M : Int} {xs : List Int} {K : Int} {ps : List Int} (h : validC q M xs K = false) : hVal q M xs K ps = false ∧ hErr q M xs K ps = 1 := by
  have e : hErr q M xs K ps = 1 := by unfold hErr; rw [h]; rfl
  exact ⟨by unfold hVal; rw [e]; rfl, e⟩
theorem h_bad {q M : Int} {xs : List Int} {K : Int} {ps : List Int} (h : validC q M xs K = true) (he : atErr xs K ps ≠ 0) : hVal q M xs K ps = false ∧ hErr q M xs K ps = atErr xs K ps := by
  have e : hErr q M xs K ps = atErr xs K ps := by unfold hErr; rw [if_pos h]
  exact ⟨by unfold hVal; rw [e, if_neg he], e⟩
theorem h_ok {q M : Int} {xs : List Int} {K : Int} {ps : List Int} (h : validC q M xs K = true) (he : atErr xs K ps = 0) : hVal q M xs K ps = holdB q M (atVal xs K ps) ∧ hErr q M xs K ps = 0 := by
  have e : hErr q M xs K ps = 0 := by unfold hErr; rw [if_pos h, he]
  exact ⟨by unfold hVal; rw [e, if_pos rfl], e⟩
theorem validC_kind {q M : Int} {xs : List Int} {K : Int} (h : validC q M xs K = true) : validB xs K = true ∧ ((q = 0 ∧ M = 0) ∨ (q = 1 ∧ M = 0) ∨ (q = 2 ∧ 1 ≤ M ∧ M ≤ 512)) := by
  unfold validC at h
  rw [Bool.and_eq_true] at h
  refine ⟨h.1, ?_⟩
  have h2 := h.2
  split at h2
  · rename_i e; simp at h2; exact .inr (.inr ⟨e, h2.1, h2.2⟩)
  · simp at h2
    rcases h2 with ⟨h2 | h2, h3⟩
    · exact .inl ⟨h2, h3⟩
    · exact .inr (.inl ⟨h2, h3⟩)
theorem retB {a b : Bool} {x y : Int} (h : a = b) (h' : x = y) : Ending.returned (.tuple #[.bool a, .int .i64 x]) = Ending.returned (.tuple #[.bool b, .int .i64 y]) := by rw [h, h']

set_option maxHeartbeats 4000000 in
theorem cond_holds (q M : Int) (A : Option Addr) (n c : Nat) (K : Int) (xs : List Int) (A' : Option Addr) (n' c' : Nat) (ps : List Int) (w : World) (hI : IntsAt w A n xs) (hI' : IntsAt w A' n' ps) :
    Calls Tryz.prog 65 #[condV q M A n c K, .slice A' n' c'] w fun e w' => e = .returned (.tuple #[.bool (hVal q M xs K ps), .int .i64 (hErr q M xs K ps)]) ∧ Below w.heap.size w w' := by
  have hB := below_alloc w (.cells #[.int .i64 q, .int .i64 M, .slice A n c, .int .i64 K] 56)
  have h1 := hI.step hB
  have h2 := hI'.step hB
  have B1 := CBox.new w q M A n c K
  clear hI hI'
  cases hv : validC q M xs K
  · have HE := Lib.hid (h_inv (ps := ps) hv)
    have HV := Lib.hid hv
    clear hv
    go_enter Tryz.func65, Tryz.ntmps65
    go_wp2_with (go_at_call 84; refine (cond_valid _ _ _ _ _ _ xs _ h1).mono ?_; rintro e w1 ⟨rfl, hb⟩; rw [HV.out]; replace hB := below_step hB hb)
    go_ret2
    exact ⟨retB HE.out.1.symm HE.out.2.symm, hB⟩
  · by_cases he : atErr xs K ps = 0
    · have HE := Lib.hid (h_ok hv he)
      have HV := Lib.hid hv
      have HA := Lib.hid he
      obtain ⟨v, hvv⟩ : ∃ v, atVal xs K ps = v := ⟨_, rfl⟩
      have HX := Lib.hid hvv
      rw [hvv] at HE
      have hrg : -9223372036854775808 ≤ v ∧ v ≤ 9223372036854775807 := by
        have hvB := (validC_kind hv).1
        have h0 : dotErr xs ps = 0 := by
          by_cases h0 : dotErr xs ps = 0
          · exact h0
          · rw [← (at_bad hvB h0).2] at he; exact absurd he h0
        obtain ⟨_, a2, a3⟩ := dotErr_zero.1 h0
        have hbd := sum_bd (validB_true.1 hvB).2.1 a2 a3
        rw [← hvv]; unfold atVal; rw [if_pos he]; omega
      have hk := (validC_kind hv).2
      clear hv he hvv
      rcases hk with ⟨rfl, rfl⟩ | ⟨rfl, rfl⟩ | ⟨rfl, hM, hM'⟩
      · have hf := HE.out.1
        go_enter Tryz.func65, Tryz.ntmps65
        clear hf
        go_wp2_with (first
          | (go_at_call 84; refine (cond_valid _ _ _ _ _ _ xs _ h1).mono ?_; rintro e w1 ⟨rfl, hb⟩; rw [HV.out]; replace hB := below_step hB hb; replace h1 := h1.step hb; replace h2 := h2.step hb; replace B1 := B1.step hb; have c0 := B1.c0; have c1 := B1.c1; have c2 := B1.c2; have c3 := B1.c3)
          | (go_at_call 88; refine (lin_at _ _ _ _ xs _ _ _ ps _ h1 h2).mono ?_; rintro e w1 ⟨rfl, hb⟩; rw [HA.out, HX.out]; replace hB := below_step hB hb; replace B1 := B1.step hb; have c0 := B1.c0; have c1 := B1.c1))
        go_ret2
        exact ⟨retB (by rw [HE.out.1]; unfold holdB; first | (simp; done) | (simp; rfl)) HE.out.2.symm, hB⟩
      · go_enter Tryz.func65, Tryz.ntmps65
        go_wp2_with (first
          | (go_at_call 84; refine (cond_valid _ _ _ _ _ _ xs _ h1).mono ?_; rintro e w1 ⟨rfl, hb⟩; rw [HV.out]; replace hB := below_step hB hb; replace h1 := h1.step hb; replace h2 := h2.step hb; replace B1 := B1.step hb; have c0 := B1.c0; have c1 := B1.c1; have c2 := B1.c2; have c3 := B1.c3)
          | (go_at_call 88; refine (lin_at _ _ _ _ xs _ _ _ ps _ h1 h2).mono ?_; rintro e w1 ⟨rfl, hb⟩; rw [HA.out, HX.out]; replace hB := below_step hB hb; replace B1 := B1.step hb; have c0 := B1.c0; have c1 := B1.c1))
        go_ret2
        exact ⟨retB (by rw [HE.out.1]; unfold holdB; first | (simp; done) | (simp; rfl)) HE.out.2.symm, hB⟩
      · go_enter Tryz.func65, Tryz.ntmps65
        go_wp2_with (first
          | (go_at_call 84; refine (cond_valid _ _ _ _ _ _ xs _ h1).mono ?_; rintro e w1 ⟨rfl, hb⟩; rw [HV.out]; replace hB := below_step hB hb; replace h1 := h1.step hb; replace h2 := h2.step hb; replace B1 := B1.step hb; have c0 := B1.c0; have c1 := B1.c1; have c2 := B1.c2; have c3 := B1.c3)
          | (go_at_call 88; refine (lin_at _ _ _ _ xs _ _ _ ps _ h1 h2).mono ?_; rintro e w1 ⟨rfl, hb⟩; rw [HA.out, HX.out]; replace hB := below_step hB hb; replace B1 := B1.step hb; have c0 := B1.c0; have c1 := B1.c1)
          | (go_at_call 89; refine (num_mod _ _ hrg.1 hrg.2 (by omega) hM _).mono ?_; rintro e w' ⟨rfl, rfl⟩))
        go_ret2
        exact ⟨retB (by rw [HE.out.1]; unfold holdB; first | (simp; done) | (simp; rfl)) HE.out.2.symm, hB⟩
    · have HE := Lib.hid (h_bad hv he)
      have HV := Lib.hid hv
      have q1 : (atErr xs K ps != 0) = true := by simpa using he
      have q2 : (atErr xs K ps == 0) = false := by simpa using he
      clear hv he
      go_enter Tryz.func65, Tryz.ntmps65
      go_wp2_with (first
        | (go_at_call 84; refine (cond_valid _ _ _ _ _ _ xs _ h1).mono ?_; rintro e w1 ⟨rfl, hb⟩; rw [HV.out]; replace hB := below_step hB hb; replace h1 := h1.step hb; replace h2 := h2.step hb; replace B1 := B1.step hb; have c0 := B1.c0; have c1 := B1.c1; have c2 := B1.c2; have c3 := B1.c3)
        | (go_at_call 88; refine (lin_at _ _ _ _ xs _ _ _ ps _ h1 h2).mono ?_; rintro e w1 ⟨rfl, hb⟩; replace hB := below_step hB hb))
      go_ret2
      exact ⟨retB HE.out.1.symm HE.out.2.symm, hB⟩

/-- The reference's Is, where the condition is of a known kind. -/
theorem ref_is (q M : Int) (A : Option Addr) (n c : Nat) (K : Int) (xs : List Int) (A' : Option Addr) (n' c' : Nat) (ps : List Int) (w : World) (hI : IntsAt w A n xs) (hI' : IntsAt w A' n' ps)
    (hk : fitsB K = true) (h12 : n ≤ 12) (hnn : n ≤ n') (hgood : ∀ j, j < n → goodAt xs ps j) (hq : (q = 0 ∧ M = 0) ∨ (q = 1 ∧ M = 0) ∨ (q = 2 ∧ 1 ≤ M ∧ M ≤ 512)) :
    Calls Tryz.prog 90 #[condV q M A n c K, .slice A' n' c'] w fun e w' => e = .returned (.bool (holdB q M (K + dotSum xs ps n))) ∧ Below w.heap.size w w' := by
  have hB := below_alloc w (.cells #[.int .i64 q, .int .i64 M, .slice A n c, .int .i64 K] 56)
  have h1 := hI.step hB
  have h2 := hI'.step hB
  have B1 := CBox.new w q M A n c K
  obtain ⟨v, hvv⟩ : ∃ v, K + dotSum xs ps n = v := ⟨_, rfl⟩
  have hrg := sum_bd hk h12 hgood
  rw [hvv] at hrg ⊢
  have HX := Lib.hid hvv
  clear hI hI' hvv
  rcases hq with ⟨rfl, rfl⟩ | ⟨rfl, rfl⟩ | ⟨rfl, hM, hM'⟩
  · go_enter Tryz.func90, Tryz.ntmps90
    go_wp2_with (go_at_call 110; refine (ref_value _ _ _ _ xs _ _ _ ps _ h1 h2 hk h12 hnn hgood).mono ?_; rintro e w1 ⟨rfl, hb⟩; rw [HX.out]; replace hB := below_step hB hb; replace B1 := B1.step hb; have c0 := B1.c0; have c1 := B1.c1)
    go_ret
    exact ⟨ret_bool (by unfold holdB; first | (simp; done) | (simp; rfl)), hB⟩
  · go_enter Tryz.func90, Tryz.ntmps90
    go_wp2_with (go_at_call 110; refine (ref_value _ _ _ _ xs _ _ _ ps _ h1 h2 hk h12 hnn hgood).mono ?_; rintro e w1 ⟨rfl, hb⟩; rw [HX.out]; replace hB := below_step hB hb; replace B1 := B1.step hb; have c0 := B1.c0; have c1 := B1.c1)
    go_ret
    exact ⟨ret_bool (by unfold holdB; first | (simp; done) | (simp; rfl)), hB⟩
  · have HM := Lib.hid (tmod_cases v M hM)
    have HN := Lib.hid (And.intro (Int.emod_nonneg v (show M ≠ 0 by omega)) (Int.emod_lt_of_pos v (show 0 < M by omega)))
    go_enter Tryz.func90, Tryz.ntmps90
    go_wp2_with (go_at_call 110; refine (ref_value _ _ _ _ xs _ _ _ ps _ h1 h2 hk h12 hnn hgood).mono ?_; rintro e w1 ⟨rfl, hb⟩; rw [HX.out]; replace hB := below_step hB hb; replace B1 := B1.step hb; have c0 := B1.c0; have c1 := B1.c1)
    go_ret
    exact ⟨ret_bool (show decide (v.tmod M = 0) = decide (v % M = 0) from decide_eq_decide.2 (by rw [← Int.dvd_iff_tmod_eq_zero, ← Int.dvd_iff_emod_eq_zero])), hB⟩

end Go.Proofs.YtkgnlloioaobiaaGreat

/-
  Plain facts on gcd and lcm of lists for the proofs of layer 1.
-/
namespace Go.Proofs.YtkgnlloioaobiaaGreat

def gcdStep (a : Nat) (n : Int) : Nat := Nat.gcd a n.natAbs
def mulStep (m : Nat) (n : Int) : Nat := if 512 < m ∨ 512 < n then 513 else m / Nat.gcd m n.toNat * n.toNat
def okStep (g : Bool) (n : Int) : Bool := g && decide (1 ≤ n)

theorem okStep_all (xs : List Int) : ∀ g, xs.foldl okStep g = (g && xs.all fun n => decide (1 ≤ n)) := by
  induction xs with
  | nil => intro g; simp
  | cons x r ih => intro g; simp only [List.foldl_cons, ih, okStep, List.all_cons]; rw [Bool.and_assoc]

theorem mulStep_pos {m : Nat} {n : Int} (hm : 1 ≤ m ∧ m ≤ 262144) (hn : 1 ≤ n) : 1 ≤ mulStep m n ∧ mulStep m n ≤ 262144 := by
  unfold mulStep
  split
  · omega
  · rename_i h
    have hg : 0 < Nat.gcd m n.toNat := Nat.gcd_pos_of_pos_left _ (by omega)
    have h1 : 0 < m / Nat.gcd m n.toNat := Nat.div_pos (Nat.gcd_le_left _ (by omega)) hg
    have h2 : m / Nat.gcd m n.toNat ≤ 512 := Nat.le_trans (Nat.div_le_self _ _) (by omega)
    have h3 : 1 * 1 ≤ m / Nat.gcd m n.toNat * n.toNat := Nat.mul_le_mul h1 (by omega)
    have h4 : m / Nat.gcd m n.toNat * n.toNat ≤ 512 * 512 := Nat.mul_le_mul h2 (by omega)
    omega

/-- m is the least number from 1 on that all of xs divide. -/
def IsLcm (xs : List Int) (m : Nat) : Prop := 1 ≤ m ∧ (∀ x ∈ xs, x.toNat ∣ m) ∧ ∀ k, 1 ≤ k → (∀ x ∈ xs, x.toNat ∣ k) → m ∣ k

theorem lcm_fold (ys : List Int) : ∀ (xs : List Int) (m : Nat), (∀ y ∈ ys, 1 ≤ y) → ((m ≤ 512 ∧ IsLcm xs m) ∨ (512 < m ∧ ∀ k, 1 ≤ k → (∀ x ∈ xs, x.toNat ∣ k) → 512 < k)) →
    ((ys.foldl mulStep m ≤ 512 ∧ IsLcm (xs ++ ys) (ys.foldl mulStep m)) ∨ (512 < ys.foldl mulStep m ∧ ∀ k, 1 ≤ k → (∀ x ∈ xs ++ ys, x.toNat ∣ k) → 512 < k)) := by
  induction ys with
  | nil => intro xs m _ h; simpa using h
  | cons y r ih =>
    intro xs m hy h
    have e : xs ++ y :: r = (xs ++ [y]) ++ r := by simp
    rw [List.foldl_cons, e]
    refine ih (xs ++ [y]) (mulStep m y) (fun z hz => hy z (List.mem_cons_of_mem _ hz)) ?_
    have hy1 := hy y List.mem_cons_self
    rcases h with ⟨hm, h1, h2, h3⟩ | ⟨hm, h⟩
    · unfold mulStep
      by_cases hb : 512 < y
      · rw [if_pos (.inr hb)]
        refine .inr ⟨by omega, fun k hk hx => ?_⟩
        have := Nat.le_of_dvd hk (hx y (by simp))
        omega
      · rw [if_neg (by omega)]
        have el : m / Nat.gcd m y.toNat * y.toNat = Nat.lcm m y.toNat := by
          unfold Nat.lcm
          rw [Nat.div_mul_right_comm (Nat.gcd_dvd_left _ _)]
        rw [el]
        have hl : IsLcm (xs ++ [y]) (Nat.lcm m y.toNat) := by
          refine ⟨Nat.lcm_pos (by omega) (by omega), fun x hx => ?_, fun k hk hx => ?_⟩
          · rcases List.mem_append.1 hx with hx | hx
            · exact Nat.dvd_trans (h2 x hx) (Nat.dvd_lcm_left _ _)
            · simp at hx; subst hx; exact Nat.dvd_lcm_right _ _
          · exact Nat.lcm_dvd (h3 k hk fun x h' => hx x (by simp [h'])) (hx y (by simp))
        by_cases hs : Nat.lcm m y.toNat ≤ 512
        · exact .inl ⟨hs, hl⟩
        · refine .inr ⟨by omega, fun k hk hx => ?_⟩
          have := Nat.le_of_dvd hk (hl.2.2 k hk hx)
          omega
    · unfold mulStep
      rw [if_pos (.inl hm)]
      exact .inr ⟨by omega, fun k hk hx => h k hk fun x h' => hx x (by simp [h'])⟩

theorem lcm_list (ys : List Int) (hy : ∀ y ∈ ys, 1 ≤ y) : (ys.foldl mulStep 1 ≤ 512 ∧ IsLcm ys (ys.foldl mulStep 1)) ∨ (512 < ys.foldl mulStep 1 ∧ ∀ k, 1 ≤ k → (∀ x ∈ ys, x.toNat ∣ k) → 512 < k) := by
  have := lcm_fold ys [] 1 hy (.inl ⟨by omega, by omega, by simp, by simp⟩)
  simpa using this

theorem gcd_fold (ys : List Int) : ∀ a : Nat, ys.foldl gcdStep a ∣ a ∧ (∀ y ∈ ys, ys.foldl gcdStep a ∣ y.natAbs) ∧ ∀ d, d ∣ a → (∀ y ∈ ys, d ∣ y.natAbs) → d ∣ ys.foldl gcdStep a := by
  induction ys with
  | nil => intro a; simp
  | cons y r ih =>
    intro a
    rw [List.foldl_cons]
    obtain ⟨h1, h2, h3⟩ := ih (gcdStep a y)
    refine ⟨Nat.dvd_trans h1 (Nat.gcd_dvd_left _ _), fun z hz => ?_, fun d hd hz => h3 d (Nat.dvd_gcd hd (hz y List.mem_cons_self)) fun z h' => hz z (List.mem_cons_of_mem _ h')⟩
    rcases List.mem_cons.1 hz with rfl | hz
    · exact Nat.dvd_trans h1 (Nat.gcd_dvd_right _ _)
    · exact h2 z hz

theorem gcd_fold_le (ys : List Int) (hy : ∀ y ∈ ys, -9223372036854775808 ≤ y ∧ y ≤ 9223372036854775807) : ∀ a : Nat, a ≤ 9223372036854775808 → ys.foldl gcdStep a ≤ 9223372036854775808 := by
  induction ys with
  | nil => intro a h; simpa using h
  | cons y r ih =>
    intro a h
    rw [List.foldl_cons]
    refine ih (fun z hz => hy z (List.mem_cons_of_mem _ hz)) _ ?_
    unfold gcdStep
    have := hy y List.mem_cons_self
    by_cases h0 : a = 0
    · subst h0; rw [Nat.gcd_zero_left]; omega
    · exact Nat.le_trans (Nat.gcd_le_left _ (by omega)) h

end Go.Proofs.YtkgnlloioaobiaaGreat

/-
  The small functions of package wide.
-/
namespace Go.Proofs.YtkgnlloioaobiaaGreat
open Go.RowKit
set_option linter.unusedVariables false
set_option linter.unusedSimpArgs false

theorem wide_floor (a b : Int) (wa : -9223372036854775808 ≤ a) (wa' : a ≤ 9223372036854775807) (wb : b ≤ 9223372036854775807) (hb : 1 ≤ b) (w : World) : Calls Tryz.prog 161 #[.int .i64 a, .int .i64 b] w fun e w' => e = .returned (.int .i64 (a / b)) ∧ w = w' := by
  have hc := tmod_cases a b hb
  have hd := div_bd a b hb
  have m0 := Int.emod_nonneg a (show b ≠ 0 by omega)
  have m1 := Int.emod_lt_of_pos a (show 0 < b by omega)
  rcases hc with ⟨h1, h2, h3⟩ | ⟨h1, h2, h3, h4⟩
  · have HC := Lib.hid (And.intro h1 h2)
    clear h1 h2
    have g1 : 0 ≤ a.tmod b := by have := HC.out; omega
    clear m0 m1 hd
    go_enter Tryz.func161, Tryz.ntmps161
    go_wp2
    go_ret
    exact ⟨ret1 (vint HC.out.2), rfl⟩
  · have HC := Lib.hid (And.intro h1 (And.intro h2 (And.intro h3 (And.intro hd h4))))
    have g1 : a.tmod b < 0 := by omega
    clear h1 h2 h4 hd m0 m1
    go_enter Tryz.func161, Tryz.ntmps161
    go_wp2
    go_ret
    exact ⟨ret1 (vint (by have := HC.out; unfold wrap64; omega)), rfl⟩

theorem wide_mod (a b : Int) (wa : -9223372036854775808 ≤ a) (wa' : a ≤ 9223372036854775807) (wb : b ≤ 9223372036854775807) (hb : 1 ≤ b) (w : World) : Calls Tryz.prog 162 #[.int .i64 a, .int .i64 b] w fun e w' => e = .returned (.int .i64 (a % b)) ∧ w = w' := by
  have hc := tmod_cases a b hb
  have m0 := Int.emod_nonneg a (show b ≠ 0 by omega)
  have m1 := Int.emod_lt_of_pos a (show 0 < b by omega)
  have HC := Lib.hid (And.intro hc (And.intro m0 m1))
  clear hc m0 m1
  by_cases g1 : a.tmod b < 0
  · go_enter Tryz.func162, Tryz.ntmps162
    go_wp2
    go_ret
    exact ⟨ret1 (vint (by have := HC.out; unfold wrap64; omega)), rfl⟩
  · go_enter Tryz.func162, Tryz.ntmps162
    go_wp2
    go_ret
    exact ⟨ret1 (vint (by have := HC.out; omega)), rfl⟩

/-- The greatest common divisor of g and a list. -/
def gcdA (g : Nat) (xs : List Int) : Nat := xs.foldl (fun a x => Nat.gcd a x.natAbs) g

theorem gcdA_step {g : Nat} {xs : List Int} {i : Nat} (hi : i < xs.length) : gcdA g (xs.take (i + 1)) = Nat.gcd (gcdA g (xs.take i)) (xs[i]?.getD 0).natAbs := by
  unfold gcdA; exact foldl_take _ _ _ hi
theorem natAbs_tmod (a b : Int) : (a.tmod b).natAbs = a.natAbs % b.natAbs := by
  rw [Int.natAbs_tmod]

set_option maxHeartbeats 2000000 in
theorem wide_divisor (g : Int) (hg : -4611686018427387904 ≤ g ∧ g ≤ 4611686018427387904) (A : Option Addr) (n c : Nat) (xs : List Int) (hx : ∀ x ∈ xs, -4611686018427387904 ≤ x ∧ x ≤ 4611686018427387904) (w : World) (h : IntsAt w A n xs) :
    Calls Tryz.prog 128 #[.int .i64 g, .slice A n c] w fun e w' => e = .returned (.int .i64 (gcdA g.natAbs xs : Nat)) ∧ ∃ k, w' = w.drewN k := by
  have hsm := h.small
  have HL := Lib.hid h.len
  have HX := Lib.hid hx
  clear hx
  go_enter Tryz.func128, Tryz.ntmps128
  go_wp2
  go_loopw [0, 9] (fun u v wr => ∃ (i k : Nat) (a : Int), i ≤ n ∧ v = .int .i64 i ∧ u = .int .i64 a ∧ (-4611686018427387904 ≤ a ∧ a ≤ 4611686018427387904) ∧ a.natAbs = gcdA g.natAbs (xs.take i) ∧ wr = w.drewN k) (fun _ v _ => n - (intOf v).toNat)
  case atStart => exact ⟨0, 0, g, Nat.zero_le _, rfl, rfl, hg, by simp [gcdA], rfl⟩
  case round =>
    obtain ⟨i, k, a, hi, rfl, rfl, ha, hga, rfl⟩ := hrel
    have HG := Lib.hid hga
    clear hga
    by_cases hlt : i < n
    · have hmem := h.mem hlt
      have hr := HX.out _ hmem
      obtain ⟨b, off, rfl, hb, hc⟩ := h.cells (by omega)
      have hcell := hc i hlt
      have HS := Lib.hid (gcdA_step (g := g.natAbs) (xs := xs) (i := i) (by rw [HL.out]; exact hlt))
      clear hc hmem
      obtain ⟨x, hxx⟩ : ∃ x, xs[i]?.getD 0 = x := ⟨_, rfl⟩
      rw [hxx] at hcell hr HS
      clear hxx
      have hlt' : (i : Int) < n := by omega
      go_wp2
      go_loopw [0, 6] (fun u v wr => ∃ (a' x' : Int) (k' : Nat), u = .int .i64 a' ∧ v = .int .i64 x' ∧ (-4611686018427387904 ≤ a' ∧ a' ≤ 4611686018427387904) ∧ (-4611686018427387904 ≤ x' ∧ x' ≤ 4611686018427387904) ∧ Nat.gcd a'.natAbs x'.natAbs = Nat.gcd a.natAbs x.natAbs ∧ wr = w.drewN k') (fun _ v _ => (intOf v).natAbs)
      case atStart => exact ⟨a, x, k, rfl, rfl, ha, hr, rfl, rfl⟩
      case round =>
        obtain ⟨a', x', k', rfl, rfl, ha', hx', hgg, rfl⟩ := hrel
        have HH := Lib.hid hgg
        clear hgg
        by_cases h0 : x' = 0
        · subst h0
          go_wp2
          go_roundw
          case rel => exact ⟨i + 1, _, a', by omega, by go_num, rfl, ha', by have := HH.out; rw [HS.out, ← HG.out, ← this]; simp, by first | rfl | (simp only [World.drewN_drewN]; rfl)⟩
          case measure => simp [intOf]; omega
        · have q1 : (x' != 0) = true := by simpa using h0
          have q2 : (x' == 0) = false := by simpa using h0
          have hlt2 : (a'.tmod x').natAbs < x'.natAbs := by rw [natAbs_tmod]; exact Nat.mod_lt _ (by omega)
          have hg2 : Nat.gcd x'.natAbs (a'.tmod x').natAbs = Nat.gcd a'.natAbs x'.natAbs := by
            rw [natAbs_tmod, Nat.gcd_comm a'.natAbs x'.natAbs, Nat.gcd_rec x'.natAbs a'.natAbs]
            exact Nat.gcd_comm _ _
          have HH2 := Lib.hid (hg2.trans HH.out)
          have hw : IntKind.i64.wrap (a'.tmod x') = a'.tmod x' := IntWalk.i64_in _ (by omega)
          have HL2 := Lib.hid hlt2
          clear hg2
          go_wp2
          go_quiet (fail)
          go_wp2
          go_roundw
          case rel => exact ⟨x', a'.tmod x', _, rfl, by first | rfl | simp [hw], hx', by have := HL2.out; omega, HH2.out, by first | rfl | (simp only [World.drewN_drewN]; rfl)⟩
          case measure => first | (simp only [intOf]; exact HL2.out) | (simp [intOf, hw]; exact HL2.out)
    · obtain rfl : i = n := by omega
      have hge : ¬ ((i : Int) < i) := by omega
      have HT := Lib.hid (show a.natAbs = gcdA g.natAbs xs by rw [HG.out, List.take_of_length_le (by rw [HL.out]; exact Nat.le_refl _)])
      go_wp2
      all_goals
        go_ret
        exact ⟨ret1 (vint (by have := HT.out; omega)), _, rfl⟩

/-- What a condition without variables comes to. -/
theorem wide_verdict (b : Bool) (w : World) : Calls Tryz.prog 159 #[.bool b] w fun e w' => e = .returned (.tuple #[condV 0 0 none 0 0 0, .int .i64 (if b then 1 else -1)]) ∧ Below w.heap.size w w' := by
  have hB := below_alloc w (.cells #[.int .i64 0, .int .i64 0, .slice none 0 0, .int .i64 0] 56)
  have B1 := CBox.new w 0 0 none 0 0 0
  cases b
  all_goals
    go_enter Tryz.func159, Tryz.ntmps159
    go_wp2
    first
      | exact bodyPost_ret (v := .tuple #[condV 0 0 none 0 0 0, .int .i64 (-1)]) (by simp [results, Tryz.results159, go_sem]) rfl ⟨rfl, hB⟩
      | exact bodyPost_ret (v := .tuple #[condV 0 0 none 0 0 0, .int .i64 1]) (by simp [results, Tryz.results159, go_sem]) rfl ⟨rfl, hB⟩

/-- The quotients of the first i elements, zeros behind. -/
def quoTo (n : Nat) (xs : List Int) (b : Int) (i : Nat) : List Int := (List.range n).map fun j => if j < i then (xs[j]?.getD 0).tdiv b else 0
def quoL (n : Nat) (xs : List Int) (b : Int) : List Int := (List.range n).map fun j => (xs[j]?.getD 0).tdiv b
theorem quo_zero (n : Nat) (xs : List Int) (b : Int) : quoTo n xs b 0 = zeros n := by
  apply List.ext_getElem (by simp [quoTo, zeros])
  intro j h1 h2
  simp [quoTo, zeros]
theorem quo_step (n : Nat) (xs : List Int) (b : Int) (i : Nat) : (quoTo n xs b i).set i ((xs[i]?.getD 0).tdiv b) = quoTo n xs b (i + 1) := by
  unfold quoTo
  rw [tab_set]
  apply List.map_congr_left
  intro j _
  by_cases e : j = i
  · subst e; simp
  · have : (j < i + 1) ↔ (j < i) := by omega
    simp [e, this]
theorem quo_all (n : Nat) (xs : List Int) (b : Int) : quoTo n xs b n = quoL n xs b := by
  apply List.map_congr_left
  intro j hj
  rw [if_pos (List.mem_range.1 hj)]
theorem tdiv_bd (x b : Int) (hb : b ≠ 0) : (x.tdiv b).natAbs ≤ x.natAbs := by
  rw [Int.natAbs_tdiv]; exact Nat.div_le_self _ _
theorem quo_wf {n : Nat} {xs : List Int} {b : Int} (hb : b ≠ 0) (hx : ∀ x ∈ xs, -4611686018427387904 ≤ x ∧ x ≤ 4611686018427387904) : ∀ z ∈ quoL n xs b, -4611686018427387904 ≤ z ∧ z ≤ 4611686018427387904 := by
  intro z hz
  obtain ⟨j, _, rfl⟩ := List.mem_map.1 hz
  have h := tdiv_bd (xs[j]?.getD 0) b hb
  by_cases hj : j < xs.length
  · have := hx _ (getD_mem hj)
    omega
  · have e : xs[j]?.getD 0 = 0 := by simp [hj]
    rw [e] at h ⊢
    simp

set_option maxHeartbeats 2000000 in
theorem wide_quotients (A : Option Addr) (n c : Nat) (xs : List Int) (b : Int) (hb : b ≠ 0) (hbw : -4611686018427387904 ≤ b ∧ b ≤ 4611686018427387904) (hx : ∀ x ∈ xs, -4611686018427387904 ≤ x ∧ x ≤ 4611686018427387904) (w : World) (hI : IntsAt w A n xs) :
    Calls Tryz.prog 160 #[.slice A n c, .int .i64 b] w fun e w' => ∃ g, e = .returned (.slice (some ⟨g, 0, none⟩) n n) ∧ w.heap.size ≤ g ∧ OwnRow w' g n (quoL n xs b) ∧ Below w.heap.size w w' := by
  have hsm := hI.small
  have hmk := make_ints n hsm
  have hrow0 := OwnRow.new w (zeros n) n (zeros_len n)
  have hB0 := below_alloc w (.cells ((zeros n).map (Value.int .i64)).toArray 3)
  have HX := Lib.hid hx
  have q0 : (b == 0) = false := by simpa using hb
  clear hx
  go_enter Tryz.func160, Tryz.ntmps160
  go_wp2
  go_loopw [13] (fun v wr => ∃ i : Nat, i ≤ n ∧ v = .int .i64 i ∧ OwnRow wr w.heap.size n (quoTo n xs b i) ∧ Below w.heap.size w wr) (fun v _ => n - (intOf v).toNat)
  case atStart => exact ⟨0, Nat.zero_le _, rfl, by rw [quo_zero]; exact hrow0, hB0⟩
  case round =>
    obtain ⟨i, hi, rfl, hrow, hBw⟩ := hrel
    clear hrow0 hB0 hmk
    by_cases hlt : i < n
    · have hr := HX.out _ (hI.mem hlt)
      obtain ⟨bl, off, rfl, hbl, hc⟩ := hI.cells (by omega)
      have hcell := (hBw.cell (p := ⟨bl, off + i, none⟩) hbl).trans (hc i hlt)
      have hfr := hrow.free i
      have hcr := hrow.cell hlt
      have q1 : (i : Int) < n := by omega
      have R := (hrow.set hlt ((xs[i]?.getD 0).tdiv b))
      rw [quo_step] at R
      have hW := hBw.setCell (p := ⟨w.heap.size, i, none⟩) (Nat.le_refl _) (.int .i64 ((xs[i]?.getD 0).tdiv b))
      generalize xs[i]?.getD 0 = x at *
      have hq := tdiv_bd x b hb
      have hw : IntKind.i64.wrap (x.tdiv b) = x.tdiv b := IntWalk.i64_in _ (by omega)
      have HR := Lib.hid R
      clear hc R hq
      go_wp2
      go_roundw
      case rel => exact ⟨i + 1, by omega, by go_num, HR.out, hW⟩
      case measure => simp [intOf]; omega
    · obtain rfl : i = n := by omega
      rw [quo_all] at hrow
      have hge : ¬ ((i : Int) < i) := by omega
      go_wp2
      go_ret
      exact ⟨_, rfl, Nat.le_refl _, hrow, hBw⟩

/-- The first element that is not 0. -/
def leadI : List Int → Int
  | [] => 0
  | x :: xs => if x = 0 then leadI xs else x
theorem lead_skip : ∀ (i : Nat) (xs : List Int), i ≤ xs.length → (∀ j, j < i → xs[j]?.getD 0 = 0) → leadI xs = leadI (xs.drop i)
  | 0, _, _, _ => rfl
  | i + 1, [], h, _ => by simp at h
  | i + 1, x :: xs, h, hz => by
    have h0 : x = 0 := by simpa using hz 0 (by omega)
    have := lead_skip i xs (by simpa using h) (fun j hj => by simpa using hz (j + 1) (by omega))
    simp only [leadI, if_pos h0, List.drop_succ_cons]
    exact this
theorem lead_at {i : Nat} {xs : List Int} (hi : i < xs.length) (hz : ∀ j, j < i → xs[j]?.getD 0 = 0) (hx : xs[i]?.getD 0 ≠ 0) : leadI xs = xs[i]?.getD 0 := by
  rw [lead_skip i xs (by omega) hz, List.drop_eq_getElem_cons hi]
  have e : xs[i]?.getD 0 = xs[i] := by simp [hi]
  rw [e] at hx ⊢
  simp only [leadI, if_neg hx]

theorem wide_lead (A : Option Addr) (n c : Nat) (xs : List Int) (w : World) (hI : IntsAt w A n xs) :
    Calls Tryz.prog 146 #[.slice A n c] w fun e w' => e = .returned (.int .i64 (leadI xs)) ∧ w = w' := by
  have hsm := hI.small
  have HL := Lib.hid hI.len
  go_enter Tryz.func146, Tryz.ntmps146
  go_wp2
  go_loop [7] (fun v => ∃ i : Nat, i ≤ n ∧ v = .int .i64 i ∧ ∀ j, j < i → xs[j]?.getD 0 = 0) (fun v => n - (intOf v).toNat)
  case atStart => exact ⟨0, Nat.zero_le _, rfl, fun j hj => absurd hj (by omega)⟩
  case round =>
    obtain ⟨i, hi, rfl, hz⟩ := hrel
    have HZ := Lib.hid hz
    clear hz
    by_cases hlt : i < n
    · obtain ⟨bl, off, rfl, hbl, hc⟩ := hI.cells (by omega)
      have hcell := hc i hlt
      have q1 : (i : Int) < n := by omega
      clear hc
      by_cases hx : xs[i]?.getD 0 = 0
      · have HXX := Lib.hid hx
        rw [hx] at hcell
        clear hx
        go_wp2
        go_round
        case rel => exact ⟨i + 1, by omega, by go_num, fun j hj => by
          rcases Nat.lt_or_eq_of_le (Nat.le_of_lt_succ hj) with h1 | h1
          · exact HZ.out j h1
          · exact h1 ▸ HXX.out⟩
        case measure => simp [intOf]; omega
      · have HV := Lib.hid (lead_at (by rw [HL.out]; exact hlt) HZ.out hx)
        generalize xs[i]?.getD 0 = x at *
        have q2 : (x != 0) = true := by simpa using hx
        have q3 : (x == 0) = false := by simpa using hx
        clear hx
        go_wp2
        go_ret
        exact ⟨ret1 (vint HV.out.symm), rfl⟩
    · obtain rfl : i = n := by omega
      have HV := Lib.hid (show leadI xs = 0 by rw [lead_skip i xs (by rw [HL.out]; exact Nat.le_refl _) HZ.out, List.drop_of_length_le (by rw [HL.out]; exact Nat.le_refl _)]; rfl)
      have hge : ¬ ((i : Int) < i) := by omega
      go_wp2
      go_ret
      exact ⟨ret1 (vint HV.out.symm), rfl⟩
end Go.Proofs.YtkgnlloioaobiaaGreat

/-
  wide.Normal: the three rules.
-/
namespace Go.Proofs.YtkgnlloioaobiaaGreat
open Go.RowKit
set_option linter.unusedVariables false
set_option maxRecDepth 100000
set_option linter.unusedSimpArgs false

/-- The answer is a condition, in a row of its own, and a state. -/
def CondRet (w : World) (e : Ending) (w' : World) (q M : Int) (X : List Int) (K s : Int) : Prop :=
  ∃ A n c, e = .returned (.tuple #[condV q M A n c K, .int .i64 s]) ∧ IntsAt w' A n X ∧ Below w.heap.size w w' ∧ (n = 0 ∨ ∃ g, A = some ⟨g, 0, none⟩ ∧ w.heap.size ≤ g ∧ OwnRow w' g n X)
theorem OwnRow.store4 {w : World} {g n b : Nat} {xs : List Int} (h : OwnRow w g n xs) (hne : b ≠ g) (u v x y : Value) : OwnRow ((((w.setCell ⟨b, 0, none⟩ u).setCell ⟨b, 1, none⟩ v).setCell ⟨b, 2, none⟩ x).setCell ⟨b, 3, none⟩ y) g n xs :=
  (((h.other (a := ⟨b, 0, none⟩) (fun e => hne e.symm) u).other (a := ⟨b, 1, none⟩) (fun e => hne e.symm) v).other (a := ⟨b, 2, none⟩) (fun e => hne e.symm) x).other (a := ⟨b, 3, none⟩) (fun e => hne e.symm) y

/-- A shape as a value. -/
abbrev shapeV (q M : Int) (A : Option Addr) (n c : Nat) (K g : Int) : Value := .agg #[.int .i64 q, .int .i64 M, .slice A n c, .int .i64 K, .int .i64 g]
def SBox (w : World) (b : Nat) (q M : Int) (A : Option Addr) (n c : Nat) (K g : Int) : Prop := w.heap[b]? = some (.cells #[.int .i64 q, .int .i64 M, .slice A n c, .int .i64 K, .int .i64 g] 143 (0, 0))
section
variable {w w' : World} {b : Nat} {q M : Int} {A : Option Addr} {n c : Nat} {K g : Int}
theorem SBox.new (w : World) (q M : Int) (A : Option Addr) (n c : Nat) (K g : Int) : SBox (w.alloc (.cells #[.int .i64 q, .int .i64 M, .slice A n c, .int .i64 K, .int .i64 g] 143)) w.heap.size q M A n c K g := heap_alloc_new w _
theorem SBox.lt (h : SBox w b q M A n c K g) : b < w.heap.size := (Array.getElem?_eq_some_iff.1 h).1
theorem SBox.step (h : SBox w b q M A n c K g) (hb : Below w.heap.size w w') : SBox w' b q M A n c K g := (hb.block b h.lt).trans h
theorem SBox.c1 (h : SBox w b q M A n c K g) : w.cell? ⟨b, 1, none⟩ = some (.int .i64 M) := by rw [cell_of_row w b 1 _ _ (0, 0) h]; rfl
theorem SBox.c2 (h : SBox w b q M A n c K g) : w.cell? ⟨b, 2, none⟩ = some (.slice A n c) := by rw [cell_of_row w b 2 _ _ (0, 0) h]; rfl
theorem SBox.c3 (h : SBox w b q M A n c K g) : w.cell? ⟨b, 3, none⟩ = some (.int .i64 K) := by rw [cell_of_row w b 3 _ _ (0, 0) h]; rfl
theorem SBox.c4 (h : SBox w b q M A n c K g) : w.cell? ⟨b, 4, none⟩ = some (.int .i64 g) := by rw [cell_of_row w b 4 _ _ (0, 0) h]; rfl
end

set_option maxHeartbeats 4000000 in
theorem at_least (q M : Int) (A : Option Addr) (n c : Nat) (K : Int) (xs : List Int) (g : Nat) (hg : g ≤ 4611686018427387904) (hK : -4611686018427387904 ≤ K ∧ K ≤ 4611686018427387904) (hx : ∀ x ∈ xs, -4611686018427387904 ≤ x ∧ x ≤ 4611686018427387904) (w : World) (hI : IntsAt w A n xs) :
    Calls Tryz.prog 149 #[shapeV q M A n c K g] w fun e w' => CondRet w e w' 0 0 (if g = 0 then [] else quoL n xs g) (if g = 0 then 0 else K / g) (if g = 0 then (if 0 ≤ K then 1 else -1) else 0) := by
  have hB := below_step (below_alloc w (.cells #[.int .i64 q, .int .i64 M, .slice A n c, .int .i64 K, .int .i64 g] 143)) (below_alloc _ (.cells #[.int .i64 0, .int .i64 0, .slice none 0 0, .int .i64 0] 56))
  have h1 := hI.step hB
  have B1 := (SBox.new w q M A n c K g).step (below_alloc _ (.cells #[.int .i64 0, .int .i64 0, .slice none 0 0, .int .i64 0] 56))
  have B2 := CBox.new (w.alloc (.cells #[.int .i64 q, .int .i64 M, .slice A n c, .int .i64 K, .int .i64 g] 143)) 0 0 none 0 0 0
  rw [World.size_alloc] at B2
  by_cases h0 : g = 0
  · subst h0
    simp only [if_true]
    obtain ⟨s, hs⟩ : ∃ s : Int, (if 0 ≤ K then (1 : Int) else -1) = s := ⟨_, rfl⟩
    have HS := Lib.hid (show (if decide (0 ≤ K) = true then (1 : Int) else -1) = s by rw [← hs]; simp)
    rw [hs]
    clear hs
    go_enter Tryz.func149, Tryz.ntmps149
    go_wp2_with (go_at_call 159; refine (wide_verdict _ _).mono ?_; rintro e w1 ⟨rfl, hb⟩; rw [HS.out]; replace hB := below_step hB hb; replace B2 := B2.step hb; have c0 := B2.c0; have c1 := B2.c1; have c2 := B2.c2; have c3 := B2.c3; have f0 := B2.f 0; have f1 := B2.f 1; have f2 := B2.f 2; have f3 := B2.f 3; obtain ⟨e0, e1, e2, e3⟩ := B2.four 0 0 none 0 0 0)
    refine bodyPost_ret (v := .tuple #[condV 0 0 none 0 0 0, .int .i64 s]) (by simp [results, Tryz.results149, go_sem, e0, e1, e2, e3]) rfl ?_
    exact ⟨none, 0, 0, rfl, ints_nil _ _, below_store4 hB (by omega) _ _ _ _, .inl rfl⟩
  · simp only [if_neg h0]
    have q0 : ((g : Int) == 0) = false := by simpa using h0
    have hg1 : (1 : Int) ≤ g := by omega
    have hg0 : (g : Int) ≠ 0 := by omega
    have c12 := B1.c2
    have c13 := B1.c3
    have c14 := B1.c4
    have hsm := hI.small
    obtain ⟨w1, hw1⟩ : ∃ w1, w1 = ((w.alloc (.cells #[.int .i64 q, .int .i64 M, .slice A n c, .int .i64 K, .int .i64 g] 143)).alloc (.cells #[.int .i64 0, .int .i64 0, .slice none 0 0, .int .i64 0] 56)) := ⟨_, rfl⟩
    rw [← hw1] at hB h1 B1 B2 c12 c13 c14
    have HQ := Lib.hid (wide_quotients A n c xs g hg0 (by omega) hx w1.drew (h1.step (Below.refl _ w1).drew))
    have HW := Lib.hid (quo_wf (n := n) hg0 hx)
    have l1 := B1.lt
    have l2 := B2.lt
    generalize hX : quoL n xs g = X at *
    obtain ⟨k, hk⟩ : ∃ k, K / (g : Int) = k := ⟨_, rfl⟩
    have HK := Lib.hid hk
    rw [hk]
    clear hI hX hk hx h0
    go_enter Tryz.func149, Tryz.ntmps149
    go_wp2
    rw [← hw1]
    clear hw1
    have n1 : w.heap.size ≠ w.heap.size + 1 := by omega
    go_region_held3 (fun W => W.cell? ⟨w.heap.size, 2, none⟩ = some (.slice A n c) ∧ W.cell? ⟨w.heap.size, 3, none⟩ = some (.int .i64 K) ∧ W.cell? ⟨w.heap.size, 4, none⟩ = some (.int .i64 g)) (go_keep)
      (first
        | (go_at_call 160; refine HQ.out.mono ?_; rintro e w2 ⟨g5, rfl, hg5, O5, hb2⟩; have hb2' := (Below.refl w1.heap.size w1).drew.trans hb2; have k0 := (hb2'.cell (p := ⟨w.heap.size, 2, none⟩) l1).trans c12; have k1 := (hb2'.cell (p := ⟨w.heap.size, 3, none⟩) l1).trans c13; have k2 := (hb2'.cell (p := ⟨w.heap.size, 4, none⟩) l1).trans c14; have B4 := B2.step hb2'; have d0 := B4.c0; have d1 := B4.c1; have d2 := B4.c2; have d3 := B4.c3; have f0 := B4.f 0; have f1 := B4.f 1; have f2 := B4.f 2; have f3 := B4.f 3)
        | (go_at_call 161; refine (wide_floor _ _ (by omega) (by omega) (by omega) hg1 _).mono ?_; rintro e w' ⟨rfl, rfl⟩; rw [HK.out]))
    all_goals
      obtain ⟨e0, e1, e2, e3⟩ := B4.four 0 0 (some ⟨g5, 0, none⟩) n n k
      have hEnd := below_step hB hb2'
      have hg6 : w1.heap.size ≤ g5 := hg5
      have R := O5.store4 (b := w.heap.size + 1) (by omega) (.int .i64 0) (.int .i64 0) (.slice (some ⟨g5, 0, none⟩) n n) (.int .i64 k)
      clear k0 k1 k2 c12 c13 c14
      go_wp2
      refine bodyPost_ret (v := .tuple #[condV 0 0 (some ⟨g5, 0, none⟩) n n k, .int .i64 0]) (by simp [results, Tryz.results149, go_sem, e0, e1, e2, e3]) rfl ?_
      exact ⟨some ⟨g5, 0, none⟩, n, n, rfl, R.ints hsm (fun x hx => by have := HW.out x hx; omega), below_store4 hEnd (by omega) _ _ _ _, .inr ⟨g5, rfl, by omega, R⟩⟩

set_option maxHeartbeats 4000000 in
theorem equal_zero (q M : Int) (A : Option Addr) (n c : Nat) (K : Int) (xs : List Int) (hK : -4611686018427387904 ≤ K ∧ K ≤ 4611686018427387904) (w : World) (hI : IntsAt w A n xs) :
    Calls Tryz.prog 150 #[shapeV q M A n c K 0] w fun e w' => CondRet w e w' 0 0 [] 0 (if K = 0 then 1 else -1) := by
  have hB := below_step (below_alloc w (.cells #[.int .i64 q, .int .i64 M, .slice A n c, .int .i64 K, .int .i64 0] 143)) (below_alloc _ (.cells #[.int .i64 0, .int .i64 0, .slice none 0 0, .int .i64 0] 56))
  have B2 := CBox.new (w.alloc (.cells #[.int .i64 q, .int .i64 M, .slice A n c, .int .i64 K, .int .i64 0] 143)) 0 0 none 0 0 0
  rw [World.size_alloc] at B2
  obtain ⟨s, hs⟩ : ∃ s : Int, (if K = 0 then (1 : Int) else -1) = s := ⟨_, rfl⟩
  have HS := Lib.hid (show (if (K == 0) = true then (1 : Int) else -1) = s by rw [← hs]; simp)
  rw [hs]
  clear hs
  go_enter Tryz.func150, Tryz.ntmps150
  go_wp2_with (go_at_call 159; refine (wide_verdict _ _).mono ?_; rintro e w1 ⟨rfl, hb⟩; rw [HS.out]; replace hB := below_step hB hb; replace B2 := B2.step hb; have c0 := B2.c0; have c1 := B2.c1; have c2 := B2.c2; have c3 := B2.c3; have f0 := B2.f 0; have f1 := B2.f 1; have f2 := B2.f 2; have f3 := B2.f 3; obtain ⟨e0, e1, e2, e3⟩ := B2.four 0 0 none 0 0 0)
  refine bodyPost_ret (v := .tuple #[condV 0 0 none 0 0 0, .int .i64 s]) (by simp [results, Tryz.results150, go_sem, e0, e1, e2, e3]) rfl ?_
  exact ⟨none, 0, 0, rfl, ints_nil _ _, below_store4 hB (by omega) _ _ _ _, .inl rfl⟩

set_option maxHeartbeats 4000000 in
theorem equal_never (q M : Int) (A : Option Addr) (n c : Nat) (K : Int) (xs : List Int) (g : Nat) (hg : g ≤ 4611686018427387904) (hg1 : 1 ≤ g) (hK : -4611686018427387904 ≤ K ∧ K ≤ 4611686018427387904) (hr : K.tmod g ≠ 0) (w : World) (hI : IntsAt w A n xs) :
    Calls Tryz.prog 150 #[shapeV q M A n c K g] w fun e w' => CondRet w e w' 0 0 [] 0 (-1) := by
  have hB := below_step (below_alloc w (.cells #[.int .i64 q, .int .i64 M, .slice A n c, .int .i64 K, .int .i64 g] 143)) (below_alloc _ (.cells #[.int .i64 0, .int .i64 0, .slice none 0 0, .int .i64 0] 56))
  have h1 := hI.step hB
  have B1 := (SBox.new w q M A n c K g).step (below_alloc _ (.cells #[.int .i64 0, .int .i64 0, .slice none 0 0, .int .i64 0] 56))
  have B2 := CBox.new (w.alloc (.cells #[.int .i64 q, .int .i64 M, .slice A n c, .int .i64 K, .int .i64 g] 143)) 0 0 none 0 0 0
  rw [World.size_alloc] at B2
  have q0 : ((g : Int) == 0) = false := by simp; omega
  have hg0 : (g : Int) ≠ 0 := by omega
  have q1 : (K.tmod g != 0) = true := by simpa using hr
  have q2 : (K.tmod g == 0) = false := by simpa using hr
  have hm : (K.tmod (g : Int)).natAbs ≤ K.natAbs := by rw [Int.natAbs_tmod]; exact Nat.mod_le _ _
  have hw : IntKind.i64.wrap (K.tmod g) = K.tmod g := IntWalk.i64_in _ (by omega)
  clear hr hm
  go_enter Tryz.func150, Tryz.ntmps150
  go_wp2
  refine bodyPost_ret (v := .tuple #[condV 0 0 none 0 0 0, .int .i64 (-1)]) (by simp [results, Tryz.results150, go_sem]) rfl ?_
  exact ⟨none, 0, 0, rfl, ints_nil _ _, hB, .inl rfl⟩

/-- The divisor of an equation: the first coefficient becomes positive. -/
def leadBy (xs : List Int) (g : Nat) : Int := if leadI xs < 0 then -(g : Int) else g

set_option maxHeartbeats 8000000 in
theorem equal_open (q M : Int) (A : Option Addr) (n c : Nat) (K : Int) (xs : List Int) (g : Nat) (hg : g ≤ 4611686018427387904) (hg1 : 1 ≤ g) (hK : -4611686018427387904 ≤ K ∧ K ≤ 4611686018427387904) (hr : K.tmod g = 0) (hx : ∀ x ∈ xs, -4611686018427387904 ≤ x ∧ x ≤ 4611686018427387904) (w : World) (hI : IntsAt w A n xs) :
    Calls Tryz.prog 150 #[shapeV q M A n c K g] w fun e w' => CondRet w e w' 1 0 (quoL n xs (leadBy xs g)) (K.tdiv (leadBy xs g)) 0 := by
  have hB := below_step (below_alloc w (.cells #[.int .i64 q, .int .i64 M, .slice A n c, .int .i64 K, .int .i64 g] 143)) (below_alloc _ (.cells #[.int .i64 0, .int .i64 0, .slice none 0 0, .int .i64 0] 56))
  have h1 := hI.step hB
  have B1 := (SBox.new w q M A n c K g).step (below_alloc _ (.cells #[.int .i64 0, .int .i64 0, .slice none 0 0, .int .i64 0] 56))
  have B2 := CBox.new (w.alloc (.cells #[.int .i64 q, .int .i64 M, .slice A n c, .int .i64 K, .int .i64 g] 143)) 0 0 none 0 0 0
  rw [World.size_alloc] at B2
  have q0 : ((g : Int) == 0) = false := by simp; omega
  have hg0 : (g : Int) ≠ 0 := by omega
  have hgN : g ≠ 0 := by omega
  have hwm : IntKind.i64.wrap (K.tmod g) = 0 := by rw [hr]; rfl
  have HLE := Lib.hid (rfl : leadI xs = leadI xs)
  have c12 := B1.c2
  have c13 := B1.c3
  have c14 := B1.c4
  have hsm := hI.small
  have hbb : leadBy xs g ≠ 0 ∧ -4611686018427387904 ≤ leadBy xs g ∧ leadBy xs g ≤ 4611686018427387904 := by unfold leadBy; split <;> omega
  obtain ⟨w1, hw1⟩ : ∃ w1, w1 = ((w.alloc (.cells #[.int .i64 q, .int .i64 M, .slice A n c, .int .i64 K, .int .i64 g] 143)).alloc (.cells #[.int .i64 0, .int .i64 0, .slice none 0 0, .int .i64 0] 56)) := ⟨_, rfl⟩
  rw [← hw1] at hB h1 B1 B2 c12 c13 c14
  have HQ := Lib.hid (wide_quotients A n c xs (leadBy xs g) hbb.1 hbb.2 hx w1.drew (h1.step (Below.refl _ w1).drew))
  have HLD := Lib.hid (wide_lead A n c xs w1 h1)
  have HW := Lib.hid (quo_wf (n := n) hbb.1 hx)
  have l1 := B1.lt
  have l2 := B2.lt
  obtain ⟨by_, hby⟩ : ∃ b, leadBy xs g = b := ⟨_, rfl⟩
  obtain ⟨ld, hld⟩ : ∃ l, leadI xs = l := ⟨_, rfl⟩
  have hby2 : by_ = if ld < 0 then -(g : Int) else g := by rw [← hby, ← hld]; rfl
  rw [hby] at HQ HW hbb ⊢
  rw [hld] at HLD
  generalize hX : quoL n xs by_ = X at *
  have hkd := tdiv_bd K by_ hbb.1
  obtain ⟨k, hk⟩ : ∃ k, K.tdiv by_ = k := ⟨_, rfl⟩
  rw [hk] at hkd ⊢
  have hkw : IntKind.i64.wrap (K.tdiv by_) = k := by rw [hk]; exact IntWalk.i64_in _ (by omega)
  have hb0 : (by_ == 0) = false := by simpa using hbb.1
  have hbne := hbb.1
  have HBB := Lib.hid hbb
  have HG := Lib.hid (And.intro hg hg1)
  have hwn : IntKind.i64.wrap (-(g : Int)) = -(g : Int) := IntWalk.i64_in _ (by omega)
  have HKR := Lib.hid hK
  clear hI hX hx hby hld HLE hbb hk hkd hg hg1 hwm hK
  by_cases hneg : ld < 0
  · rw [if_pos hneg] at hby2
    subst hby2
    have hkw2 : IntKind.i64.wrap (-(K.tdiv (g : Int))) = k := by rw [← Int.tdiv_neg]; exact hkw
    go_enter Tryz.func150, Tryz.ntmps150
    go_wp2_with (go_at_call 146; rw [← hw1]; refine HLD.out.mono ?_; rintro e w' ⟨rfl, rfl⟩)
    rw [← hw1]
    clear hw1
    have n1 : w.heap.size ≠ w.heap.size + 1 := by omega
    go_region_held3 (fun W => W.cell? ⟨w.heap.size, 2, none⟩ = some (.slice A n c) ∧ W.cell? ⟨w.heap.size, 3, none⟩ = some (.int .i64 K) ∧ W.cell? ⟨w.heap.size, 4, none⟩ = some (.int .i64 g)) (go_keep)
      (first
        | (go_at_call 160; refine HQ.out.mono ?_; rintro e w2 ⟨g5, rfl, hg5, O5, hb2⟩; have hb2' := (Below.refl w1.heap.size w1).drew.trans hb2; have k0 := (hb2'.cell (p := ⟨w.heap.size, 2, none⟩) l1).trans c12; have k1 := (hb2'.cell (p := ⟨w.heap.size, 3, none⟩) l1).trans c13; have k2 := (hb2'.cell (p := ⟨w.heap.size, 4, none⟩) l1).trans c14; have B4 := B2.step hb2'; have d0 := B4.c0; have d1 := B4.c1; have d2 := B4.c2; have d3 := B4.c3; have f0 := B4.f 0; have f1 := B4.f 1; have f2 := B4.f 2; have f3 := B4.f 3))
    all_goals
      obtain ⟨e0, e1, e2, e3⟩ := B4.four 1 0 (some ⟨g5, 0, none⟩) n n k
      have hEnd := below_step hB hb2'
      have hg6 : w1.heap.size ≤ g5 := hg5
      have R := O5.store4 (b := w.heap.size + 1) (by omega) (.int .i64 1) (.int .i64 0) (.slice (some ⟨g5, 0, none⟩) n n) (.int .i64 k)
      clear k0 k1 k2 c12 c13 c14
      go_wp2
      refine bodyPost_ret (v := .tuple #[condV 1 0 (some ⟨g5, 0, none⟩) n n k, .int .i64 0]) (by simp [results, Tryz.results150, go_sem, e0, e1, e2, e3]) rfl ?_
      exact ⟨some ⟨g5, 0, none⟩, n, n, rfl, R.ints hsm (fun x hx => by have := HW.out x hx; omega), below_store4 hEnd (by omega) _ _ _ _, .inr ⟨g5, rfl, by omega, R⟩⟩
  · rw [if_neg hneg] at hby2
    subst hby2
    go_enter Tryz.func150, Tryz.ntmps150
    go_wp2_with (go_at_call 146; rw [← hw1]; refine HLD.out.mono ?_; rintro e w' ⟨rfl, rfl⟩)
    rw [← hw1]
    clear hw1
    have n1 : w.heap.size ≠ w.heap.size + 1 := by omega
    go_region_held3 (fun W => W.cell? ⟨w.heap.size, 2, none⟩ = some (.slice A n c) ∧ W.cell? ⟨w.heap.size, 3, none⟩ = some (.int .i64 K) ∧ W.cell? ⟨w.heap.size, 4, none⟩ = some (.int .i64 g)) (go_keep)
      (first
        | (go_at_call 160; refine HQ.out.mono ?_; rintro e w2 ⟨g5, rfl, hg5, O5, hb2⟩; have hb2' := (Below.refl w1.heap.size w1).drew.trans hb2; have k0 := (hb2'.cell (p := ⟨w.heap.size, 2, none⟩) l1).trans c12; have k1 := (hb2'.cell (p := ⟨w.heap.size, 3, none⟩) l1).trans c13; have k2 := (hb2'.cell (p := ⟨w.heap.size, 4, none⟩) l1).trans c14; have B4 := B2.step hb2'; have d0 := B4.c0; have d1 := B4.c1; have d2 := B4.c2; have d3 := B4.c3; have f0 := B4.f 0; have f1 := B4.f 1; have f2 := B4.f 2; have f3 := B4.f 3))
    all_goals
      obtain ⟨e0, e1, e2, e3⟩ := B4.four 1 0 (some ⟨g5, 0, none⟩) n n k
      have hEnd := below_step hB hb2'
      have hg6 : w1.heap.size ≤ g5 := hg5
      have R := O5.store4 (b := w.heap.size + 1) (by omega) (.int .i64 1) (.int .i64 0) (.slice (some ⟨g5, 0, none⟩) n n) (.int .i64 k)
      clear k0 k1 k2 c12 c13 c14
      go_wp2
      refine bodyPost_ret (v := .tuple #[condV 1 0 (some ⟨g5, 0, none⟩) n n k, .int .i64 0]) (by simp [results, Tryz.results150, go_sem, e0, e1, e2, e3]) rfl ?_
      exact ⟨some ⟨g5, 0, none⟩, n, n, rfl, R.ints hsm (fun x hx => by have := HW.out x hx; omega), below_store4 hEnd (by omega) _ _ _ _, .inr ⟨g5, rfl, by omega, R⟩⟩
end Go.Proofs.YtkgnlloioaobiaaGreat

/-
  wide.Normal: the rule of divisions.
-/
namespace Go.Proofs.YtkgnlloioaobiaaGreat
open Go.RowKit
set_option linter.unusedVariables false
set_option maxRecDepth 100000
set_option linter.unusedSimpArgs false

theorem gcdA_dvd : ∀ (xs : List Int) (g : Nat), gcdA g xs ∣ g
  | [], g => Nat.dvd_refl _
  | x :: xs, g => Nat.dvd_trans (gcdA_dvd xs (Nat.gcd g x.natAbs)) (Nat.gcd_dvd_left _ _)
theorem gcdA_le {xs : List Int} {g : Nat} (h : 0 < g) : 0 < gcdA g xs ∧ gcdA g xs ≤ g :=
  ⟨Nat.pos_of_dvd_of_pos (gcdA_dvd xs g) h, Nat.le_of_dvd h (gcdA_dvd xs g)⟩

set_option maxHeartbeats 4000000 in
theorem div_never (q M : Int) (A : Option Addr) (n c : Nat) (K : Int) (xs : List Int) (g : Int) (hM : 1 ≤ M ∧ M ≤ 512) (hK : -4611686018427387904 ≤ K ∧ K ≤ 4611686018427387904) (hx : ∀ x ∈ xs, -4611686018427387904 ≤ x ∧ x ≤ 4611686018427387904) (hr : (K % M) % (gcdA M.natAbs xs : Int) ≠ 0) (w : World) (hI : IntsAt w A n xs) :
    Calls Tryz.prog 151 #[shapeV q M A n c K g] w fun e w' => CondRet w e w' 0 0 [] 0 (-1) := by
  have hB := below_step (below_alloc w (.cells #[.int .i64 q, .int .i64 M, .slice A n c, .int .i64 K, .int .i64 g] 143)) (below_alloc _ (.cells #[.int .i64 0, .int .i64 0, .slice none 0 0, .int .i64 0] 56))
  have h1 := hI.step hB
  have B1 := (SBox.new w q M A n c K g).step (below_alloc _ (.cells #[.int .i64 0, .int .i64 0, .slice none 0 0, .int .i64 0] 56))
  have B2 := CBox.new (w.alloc (.cells #[.int .i64 q, .int .i64 M, .slice A n c, .int .i64 K, .int .i64 g] 143)) 0 0 none 0 0 0
  rw [World.size_alloc] at B2
  obtain ⟨k, hk⟩ : ∃ k, K % M = k := ⟨_, rfl⟩
  have hk0 := Int.emod_nonneg K (show M ≠ 0 by omega)
  have hk1 := Int.emod_lt_of_pos K (show 0 < M by omega)
  rw [hk] at hk0 hk1 hr
  have HKM := Lib.hid hk
  obtain ⟨h, hh⟩ : ∃ h : Nat, gcdA M.natAbs xs = h := ⟨_, rfl⟩
  have hhM := gcdA_le (xs := xs) (show 0 < M.natAbs by omega)
  rw [hh] at hhM hr
  have hdv := (wide_divisor M ⟨by omega, by omega⟩ A n c xs hx _ h1).mono (R' := fun e w' => e = .returned (.int .i64 h) ∧ Below _ _ w') (by rintro e w' ⟨rfl, kk, rfl⟩; exact ⟨by rw [hh], below_of_drewN kk⟩)
  have HD := Lib.hid hdv
  clear hk hh hI hdv
  have hh0 : ((h : Int) == 0) = false := by simp; omega
  have hhn : (h : Int) ≠ 0 := by omega
  have hhi : (h : Int) ≤ 512 := by omega
  have q1 : (k % (h : Int) != 0) = true := by simpa using hr
  have q2 : (k % (h : Int) == 0) = false := by simpa using hr
  clear hr
  go_enter Tryz.func151, Tryz.ntmps151
  go_wp2_with (first
    | (go_at_call 128; refine HD.out.mono ?_; rintro e w1 ⟨rfl, hb⟩; replace hB := below_step hB hb; replace h1 := h1.step hb; replace B1 := B1.step hb; replace B2 := B2.step hb; have c11 := B1.c1; have c12 := B1.c2; have c13 := B1.c3; have d0 := B2.c0; have d1 := B2.c1; have d2 := B2.c2; have d3 := B2.c3; have f0 := B2.f 0; have f1 := B2.f 1; have f2 := B2.f 2; have f3 := B2.f 3)
    | (go_at_call 162; refine (wide_mod _ _ (by omega) (by omega) (by omega) hM.1 _).mono ?_; rintro e w' ⟨rfl, rfl⟩; rw [HKM.out]))
  obtain ⟨e0, e1, e2, e3⟩ := B2.four 0 0 none 0 0 0
  refine bodyPost_ret (v := .tuple #[condV 0 0 none 0 0 0, .int .i64 (-1)]) (by simp [results, Tryz.results151, go_sem, e0, e1, e2, e3]) rfl ?_
  exact ⟨none, 0, 0, rfl, ints_nil _ _, below_store4 hB (by omega) _ _ _ _, .inl rfl⟩

set_option maxHeartbeats 4000000 in
theorem div_always (q M : Int) (A : Option Addr) (n c : Nat) (K : Int) (xs : List Int) (g : Int) (hM : 1 ≤ M ∧ M ≤ 512) (hK : -4611686018427387904 ≤ K ∧ K ≤ 4611686018427387904) (hx : ∀ x ∈ xs, -4611686018427387904 ≤ x ∧ x ≤ 4611686018427387904) (hr : (K % M) % (gcdA M.natAbs xs : Int) = 0) (hm : (gcdA M.natAbs xs : Int) = M) (w : World) (hI : IntsAt w A n xs) :
    Calls Tryz.prog 151 #[shapeV q M A n c K g] w fun e w' => CondRet w e w' 0 0 [] 0 1 := by
  have hB := below_step (below_alloc w (.cells #[.int .i64 q, .int .i64 M, .slice A n c, .int .i64 K, .int .i64 g] 143)) (below_alloc _ (.cells #[.int .i64 0, .int .i64 0, .slice none 0 0, .int .i64 0] 56))
  have h1 := hI.step hB
  have B1 := (SBox.new w q M A n c K g).step (below_alloc _ (.cells #[.int .i64 0, .int .i64 0, .slice none 0 0, .int .i64 0] 56))
  have B2 := CBox.new (w.alloc (.cells #[.int .i64 q, .int .i64 M, .slice A n c, .int .i64 K, .int .i64 g] 143)) 0 0 none 0 0 0
  rw [World.size_alloc] at B2
  obtain ⟨k, hk⟩ : ∃ k, K % M = k := ⟨_, rfl⟩
  have hk0 := Int.emod_nonneg K (show M ≠ 0 by omega)
  have hk1 := Int.emod_lt_of_pos K (show 0 < M by omega)
  rw [hk] at hk0 hk1 hr
  have HKM := Lib.hid hk
  obtain ⟨h, hh⟩ : ∃ h : Nat, gcdA M.natAbs xs = h := ⟨_, rfl⟩
  have hhM := gcdA_le (xs := xs) (show 0 < M.natAbs by omega)
  rw [hh] at hhM hr
  have hdv := (wide_divisor M ⟨by omega, by omega⟩ A n c xs hx _ h1).mono (R' := fun e w' => e = .returned (.int .i64 h) ∧ Below _ _ w') (by rintro e w' ⟨rfl, kk, rfl⟩; exact ⟨by rw [hh], below_of_drewN kk⟩)
  have HD := Lib.hid hdv
  rw [hh] at hm
  clear hk hh hI hdv
  have hh0 : ((h : Int) == 0) = false := by simp; omega
  have hhn : (h : Int) ≠ 0 := by omega
  have hhi : (h : Int) ≤ 512 := by omega
  have q3 : ((h : Int) == M) = true := by simpa using hm
  clear hm
  go_enter Tryz.func151, Tryz.ntmps151
  go_wp2_with (first
    | (go_at_call 128; refine HD.out.mono ?_; rintro e w1 ⟨rfl, hb⟩; replace hB := below_step hB hb; replace h1 := h1.step hb; replace B1 := B1.step hb; replace B2 := B2.step hb; have c11 := B1.c1; have c12 := B1.c2; have c13 := B1.c3; have d0 := B2.c0; have d1 := B2.c1; have d2 := B2.c2; have d3 := B2.c3; have f0 := B2.f 0; have f1 := B2.f 1; have f2 := B2.f 2; have f3 := B2.f 3)
    | (go_at_call 162; refine (wide_mod _ _ (by omega) (by omega) (by omega) hM.1 _).mono ?_; rintro e w' ⟨rfl, rfl⟩; rw [HKM.out]))
  obtain ⟨e0, e1, e2, e3⟩ := B2.four 0 0 none 0 0 0
  refine bodyPost_ret (v := .tuple #[condV 0 0 none 0 0 0, .int .i64 1]) (by simp [results, Tryz.results151, go_sem, e0, e1, e2, e3]) rfl ?_
  exact ⟨none, 0, 0, rfl, ints_nil _ _, below_store4 hB (by omega) _ _ _ _, .inl rfl⟩

/-- The remainders of the coefficients, divided by h. -/
def remTo (n : Nat) (xs : List Int) (M h : Int) (i : Nat) : List Int := (List.range n).map fun j => if j < i then (xs[j]?.getD 0 % M) / h else 0
def remL (n : Nat) (xs : List Int) (M h : Int) : List Int := (List.range n).map fun j => (xs[j]?.getD 0 % M) / h
theorem rem_zero (n : Nat) (xs : List Int) (M h : Int) : remTo n xs M h 0 = zeros n := by
  apply List.ext_getElem (by simp [remTo, zeros])
  intro j h1 h2
  simp [remTo, zeros]
theorem rem_step (n : Nat) (xs : List Int) (M h : Int) (i : Nat) : (remTo n xs M h i).set i ((xs[i]?.getD 0 % M) / h) = remTo n xs M h (i + 1) := by
  unfold remTo
  rw [tab_set]
  apply List.map_congr_left
  intro j _
  by_cases e : j = i
  · subst e; simp
  · have : (j < i + 1) ↔ (j < i) := by omega
    simp [e, this]
theorem rem_all (n : Nat) (xs : List Int) (M h : Int) : remTo n xs M h n = remL n xs M h := by
  apply List.map_congr_left
  intro j hj
  rw [if_pos (List.mem_range.1 hj)]

set_option maxHeartbeats 8000000 in
theorem div_open (q M : Int) (A : Option Addr) (n c : Nat) (K : Int) (xs : List Int) (g : Int) (hM : 1 ≤ M ∧ M ≤ 512) (hK : -4611686018427387904 ≤ K ∧ K ≤ 4611686018427387904) (hx : ∀ x ∈ xs, -4611686018427387904 ≤ x ∧ x ≤ 4611686018427387904) (hr : (K % M) % (gcdA M.natAbs xs : Int) = 0) (hm : (gcdA M.natAbs xs : Int) ≠ M) (w : World) (hI : IntsAt w A n xs) :
    Calls Tryz.prog 151 #[shapeV q M A n c K g] w fun e w' => CondRet w e w' 2 (M / (gcdA M.natAbs xs : Int)) (remL n xs M (gcdA M.natAbs xs)) ((K % M) / (gcdA M.natAbs xs : Int)) 0 := by
  have hsm := hI.small
  have hmk := make_ints n hsm
  have hB := below_step (below_alloc w (.cells #[.int .i64 q, .int .i64 M, .slice A n c, .int .i64 K, .int .i64 g] 143)) (below_alloc _ (.cells #[.int .i64 0, .int .i64 0, .slice none 0 0, .int .i64 0] 56))
  have h1 := hI.step hB
  have B1 := (SBox.new w q M A n c K g).step (below_alloc _ (.cells #[.int .i64 0, .int .i64 0, .slice none 0 0, .int .i64 0] 56))
  have B2 := CBox.new (w.alloc (.cells #[.int .i64 q, .int .i64 M, .slice A n c, .int .i64 K, .int .i64 g] 143)) 0 0 none 0 0 0
  rw [World.size_alloc] at B2
  obtain ⟨k, hk⟩ : ∃ k, K % M = k := ⟨_, rfl⟩
  have hk0 := Int.emod_nonneg K (show M ≠ 0 by omega)
  have hk1 := Int.emod_lt_of_pos K (show 0 < M by omega)
  rw [hk] at hk0 hk1 hr
  have HKM := Lib.hid hk
  obtain ⟨h, hh⟩ : ∃ h : Nat, gcdA M.natAbs xs = h := ⟨_, rfl⟩
  have hhM := gcdA_le (xs := xs) (show 0 < M.natAbs by omega)
  rw [hh] at hhM hr
  have hdv := (wide_divisor M ⟨by omega, by omega⟩ A n c xs hx _ h1).mono (R' := fun e w' => e = .returned (.int .i64 h) ∧ Below _ _ w') (by rintro e w' ⟨rfl, kk, rfl⟩; exact ⟨by rw [hh], below_of_drewN kk⟩)
  have HD := Lib.hid hdv
  rw [hh] at hm ⊢
  rw [hk]
  clear hk hh hI hdv
  have hh0 : ((h : Int) == 0) = false := by simp; omega
  have hhn : (h : Int) ≠ 0 := by omega
  have hhN : h ≠ 0 := by omega
  have hhi : (h : Int) ≤ 512 := by omega
  have q3 : ((h : Int) == M) = false := by simpa using hm
  have q4 : ((h : Int) != M) = true := by simpa using hm
  clear hm
  go_enter Tryz.func151, Tryz.ntmps151
  go_wp2_with (first
    | (go_at_call 128; refine HD.out.mono ?_; rintro e w1 ⟨rfl, hb⟩; replace hB := below_step hB hb; replace h1 := h1.step hb; replace B1 := B1.step hb; replace B2 := B2.step hb; have c11 := B1.c1; have c12 := B1.c2; have c13 := B1.c3; have d0 := B2.c0; have d1 := B2.c1; have d2 := B2.c2; have d3 := B2.c3; have f0 := B2.f 0; have f1 := B2.f 1; have f2 := B2.f 2; have f3 := B2.f 3; have l1 := B1.lt; have l2 := B2.lt)
    | (go_at_call 162; refine (wide_mod _ _ (by omega) (by omega) (by omega) hM.1 _).mono ?_; rintro e w' ⟨rfl, rfl⟩; rw [HKM.out]))
  clear hr
  have hrow0 := OwnRow.new w1 (zeros n) n (zeros_len n)
  have hB0 := below_alloc w1 (.cells ((zeros n).map (Value.int .i64)).toArray 3)
  go_loopw [47] (fun v wr => ∃ i : Nat, i ≤ n ∧ v = .int .i64 i ∧ OwnRow wr w1.heap.size n (remTo n xs M h i) ∧ Below w1.heap.size w1 wr) (fun v _ => n - (intOf v).toNat)
  case atStart => exact ⟨0, Nat.zero_le _, rfl, by rw [rem_zero]; exact hrow0, hB0⟩
  case round =>
    obtain ⟨i, hi, rfl, hrow, hBw⟩ := hrel
    clear hrow0 hB0 hmk
    replace B1 := B1.step hBw
    replace B2 := B2.step hBw
    have c11 := B1.c1
    have c12 := B1.c2
    have c13 := B1.c3
    by_cases hlt : i < n
    · have hrx := hx _ (h1.mem hlt)
      obtain ⟨bl, off, rfl, hbl, hc⟩ := h1.cells (by omega)
      have hcell := (hBw.cell (p := ⟨bl, off + i, none⟩) hbl).trans (hc i hlt)
      have hfr := hrow.free i
      have hcr := hrow.cell hlt
      have q5 : (i : Int) < n := by omega
      have R := (hrow.set hlt ((xs[i]?.getD 0 % M) / (h : Int)))
      rw [rem_step] at R
      have hW := hBw.setCell (p := ⟨w1.heap.size, i, none⟩) (Nat.le_refl _) (.int .i64 ((xs[i]?.getD 0 % M) / (h : Int)))
      generalize xs[i]?.getD 0 = x at *
      have m0 := Int.emod_nonneg x (show M ≠ 0 by omega)
      have m1 := Int.emod_lt_of_pos x (show 0 < M by omega)
      have HR := Lib.hid R
      have hd : 0 ≤ x % M / (h : Int) ∧ x % M / (h : Int) ≤ 512 := ⟨Int.ediv_nonneg m0 (by omega), Int.le_trans (Int.ediv_le_self _ m0) (by omega)⟩
      have hw : IntKind.i64.wrap (x % M / (h : Int)) = x % M / (h : Int) := IntWalk.i64_in _ (by omega)
      have ht : (x % M).tdiv (h : Int) = x % M / (h : Int) := Int.tdiv_eq_ediv_of_nonneg m0
      clear hc R
      go_wp2_with (go_at_call 162; refine (wide_mod _ _ (by omega) (by omega) (by omega) hM.1 _).mono ?_; rintro e w' ⟨rfl, rfl⟩)
      go_roundw
      case rel =>
        exact ⟨i + 1, by omega, by go_num, HR.out, hW⟩
      case measure => simp [intOf]; omega
    · obtain rfl : i = n := by omega
      rw [rem_all] at hrow
      have hge : ¬ ((i : Int) < i) := by omega
      go_wp2
      have hMd : 0 ≤ M / (h : Int) ∧ M / (h : Int) ≤ 512 := ⟨Int.ediv_nonneg (by omega) (by omega), Int.le_trans (Int.ediv_le_self _ (by omega)) (by omega)⟩
      have hkd : 0 ≤ k / (h : Int) ∧ k / (h : Int) ≤ 512 := ⟨Int.ediv_nonneg hk0 (by omega), Int.le_trans (Int.ediv_le_self _ hk0) (by omega)⟩
      have hM0 : 0 ≤ M := by omega
      have hw1 : IntKind.i64.wrap (M.tdiv (h : Int)) = M / (h : Int) := by rw [Int.tdiv_eq_ediv_of_nonneg hM0]; exact IntWalk.i64_in _ (by omega)
      have hw2 : IntKind.i64.wrap (k.tdiv (h : Int)) = k / (h : Int) := by rw [Int.tdiv_eq_ediv_of_nonneg hk0]; exact IntWalk.i64_in _ (by omega)
      clear hM0
      have d0 := B2.c0
      have d1 := B2.c1
      have d2 := B2.c2
      have d3 := B2.c3
      have f0 := B2.f 0
      have f1 := B2.f 1
      have f2 := B2.f 2
      have f3 := B2.f 3
      obtain ⟨e0, e1, e2, e3⟩ := B2.four 2 (M / (h : Int)) (some ⟨w1.heap.size, 0, none⟩) i i (k / (h : Int))
      have n1 : w.heap.size ≠ w.heap.size + 1 := by omega
      go_region_held3 (fun W => W.cell? ⟨w.heap.size, 1, none⟩ = some (.int .i64 M)) (go_keep) (fail)
      all_goals
        have hEnd := below_step hB hBw
        have R := (show OwnRow _ w1.heap.size i (remL i xs M h) from hrow).store4 (b := w.heap.size + 1) (by omega) (.int .i64 2) (.int .i64 (M / (h : Int))) (.slice (some ⟨w1.heap.size, 0, none⟩) i i) (.int .i64 (k / (h : Int)))
        have hwf : ∀ z ∈ remL i xs M h, -9223372036854775808 ≤ z ∧ z ≤ 9223372036854775807 := by
          intro z hz
          obtain ⟨j, _, rfl⟩ := List.mem_map.1 hz
          have m0 := Int.emod_nonneg (xs[j]?.getD 0) (show M ≠ 0 by omega)
          have m1 := Int.emod_lt_of_pos (xs[j]?.getD 0) (show 0 < M by omega)
          have m2 := Int.ediv_nonneg m0 (show (0 : Int) ≤ h by omega)
          have m3 := Int.ediv_le_self (h : Int) m0
          omega
        go_wp2
        refine bodyPost_ret (v := .tuple #[condV 2 (M / (h : Int)) (some ⟨w1.heap.size, 0, none⟩) i i (k / (h : Int)), .int .i64 0]) (by simp [results, Tryz.results151, go_sem, e0, e1, e2, e3]) rfl ?_
        exact ⟨some ⟨w1.heap.size, 0, none⟩, i, i, rfl, IntsAt.step (R.ints hsm hwf) (Below.refl _ _).drew, (below_store4 hEnd (by omega) _ _ _ _).drew, .inr ⟨w1.heap.size, rfl, by omega, R⟩⟩
end Go.Proofs.YtkgnlloioaobiaaGreat

/-
  wide.Normal.
-/
namespace Go.Proofs.YtkgnlloioaobiaaGreat
open Go.RowKit
set_option linter.unusedVariables false
set_option maxRecDepth 100000
set_option linter.unusedSimpArgs false

theorem gcdA_bd (B : Nat) : ∀ (xs : List Int) (g : Nat), g ≤ B → (∀ x ∈ xs, x.natAbs ≤ B) → gcdA g xs ≤ B
  | [], g, hg, _ => hg
  | x :: xs, g, hg, hx => by
    refine gcdA_bd B xs (Nat.gcd g x.natAbs) ?_ (fun y hy => hx y (List.mem_cons_of_mem _ hy))
    by_cases h0 : g = 0
    · subst h0; rw [Nat.gcd_zero_left]; exact hx x List.mem_cons_self
    · exact Nat.le_trans (Nat.gcd_le_left _ (Nat.pos_of_ne_zero h0)) hg

/-- The normal form: kind, M, coefficients, constant, state. -/
def nf (q M : Int) (n : Nat) (xs : List Int) (K : Int) : Int × Int × List Int × Int × Int :=
  if q = 0 then (if gcdA 0 xs = 0 then (0, 0, [], 0, if 0 ≤ K then 1 else -1) else (0, 0, quoL n xs (gcdA 0 xs : Nat), K / (gcdA 0 xs : Nat), 0))
  else if q = 1 then (if gcdA 0 xs = 0 then (0, 0, [], 0, if K = 0 then 1 else -1)
    else if K.tmod (gcdA 0 xs : Nat) ≠ 0 then (0, 0, [], 0, -1)
    else (1, 0, quoL n xs (leadBy xs (gcdA 0 xs)), K.tdiv (leadBy xs (gcdA 0 xs)), 0))
  else if (K % M) % (gcdA M.natAbs xs : Int) ≠ 0 then (0, 0, [], 0, -1)
    else if (gcdA M.natAbs xs : Int) = M then (0, 0, [], 0, 1)
    else (2, M / (gcdA M.natAbs xs : Int), remL n xs M (gcdA M.natAbs xs), (K % M) / (gcdA M.natAbs xs : Int), 0)
abbrev NfRet (w : World) (e : Ending) (w' : World) (r : Int × Int × List Int × Int × Int) : Prop := CondRet w e w' r.1 r.2.1 r.2.2.1 r.2.2.2.1 r.2.2.2.2

section
variable (M : Int) (A : Option Addr) (n c : Nat) (K : Int) (xs : List Int) (hK : -4611686018427387904 ≤ K ∧ K ≤ 4611686018427387904) (hx : ∀ x ∈ xs, -4611686018427387904 ≤ x ∧ x ≤ 4611686018427387904) (w : World) (hI : IntsAt w A n xs)
include hK hx hI

omit hK hI in
theorem gcd_lim : gcdA 0 xs ≤ 4611686018427387904 := gcdA_bd _ xs 0 (by omega) (fun x h => by have := hx x h; omega)

theorem rule_ge : Calls Tryz.prog 149 #[shapeV 0 M A n c K (gcdA 0 xs : Nat)] w fun e w' => NfRet w e w' (nf 0 M n xs K) := by
  have hg := gcd_lim xs hx
  refine (at_least 0 M A n c K xs (gcdA 0 xs) hg hK hx w hI).mono ?_
  intro e w' h
  unfold nf
  rw [if_pos rfl]
  by_cases h0 : gcdA 0 xs = 0
  · simp only [if_pos h0] at h ⊢; exact h
  · simp only [if_neg h0] at h ⊢; exact h

theorem rule_eq : Calls Tryz.prog 150 #[shapeV 1 M A n c K (gcdA 0 xs : Nat)] w fun e w' => NfRet w e w' (nf 1 M n xs K) := by
  have hg := gcd_lim xs hx
  unfold nf
  rw [if_neg (by decide), if_pos rfl]
  by_cases h0 : gcdA 0 xs = 0
  · rw [if_pos h0, h0]; exact equal_zero 1 M A n c K xs hK w hI
  · rw [if_neg h0]
    by_cases h1 : K.tmod (gcdA 0 xs : Nat) = 0
    · rw [if_neg (by simpa using h1)]; exact equal_open 1 M A n c K xs _ hg (by omega) hK h1 hx w hI
    · rw [if_pos h1]; exact equal_never 1 M A n c K xs _ hg (by omega) hK h1 w hI

theorem rule_div (g : Int) (hM : 1 ≤ M ∧ M ≤ 512) : Calls Tryz.prog 151 #[shapeV 2 M A n c K g] w fun e w' => NfRet w e w' (nf 2 M n xs K) := by
  unfold nf
  rw [if_neg (by decide), if_neg (by decide)]
  by_cases h0 : (K % M) % (gcdA M.natAbs xs : Int) = 0
  · rw [if_neg (by simpa using h0)]
    by_cases h1 : (gcdA M.natAbs xs : Int) = M
    · rw [if_pos h1]; exact div_always 2 M A n c K xs g hM hK hx h0 h1 w hI
    · rw [if_neg h1]; exact div_open 2 M A n c K xs g hM hK hx h0 h1 w hI
  · rw [if_pos h0]; exact div_never 2 M A n c K xs g hM hK hx h0 w hI
end

/-- A function as a value. -/
abbrev fnV (f : Nat) : Value := .func (Fn.func f) #[] #[]
/-- Block b is a variable that holds three functions. -/
def FBox (w : World) (b : Nat) (x y z : Value) : Prop := w.heap[b]? = some (.cells #[x, y, z] 139 (0, 0))
theorem FBox.new (w : World) (x y z : Value) : FBox (w.alloc (.cells #[x, y, z] 139)) w.heap.size x y z := heap_alloc_new w _
theorem FBox.c {w : World} {b : Nat} {x y z : Value} (h : FBox w b x y z) : w.cell? ⟨b, 0, none⟩ = some x ∧ w.cell? ⟨b, 1, none⟩ = some y ∧ w.cell? ⟨b, 2, none⟩ = some z :=
  ⟨by rw [cell_of_row w b 0 _ _ (0, 0) h]; rfl, by rw [cell_of_row w b 1 _ _ (0, 0) h]; rfl, by rw [cell_of_row w b 2 _ _ (0, 0) h]; rfl⟩
theorem FBox.f {w : World} {b : Nat} {x y z : Value} (h : FBox w b x y z) (j : Nat) : w.frozen? ⟨b, j, none⟩ = false := by
  unfold FBox at h; simp [World.frozen?, h]
theorem FBox.put {w : World} {b : Nat} {x y z : Value} (h : FBox w b x y z) (f : Nat) :
    (store ⟨b, 0, none⟩ (fnV f)).run Tryz.prog w = .ok () (w.setCell ⟨b, 0, none⟩ (fnV f)) ∧
    (store ⟨b, 1, none⟩ (fnV f)).run Tryz.prog w = .ok () (w.setCell ⟨b, 1, none⟩ (fnV f)) ∧
    (store ⟨b, 2, none⟩ (fnV f)).run Tryz.prog w = .ok () (w.setCell ⟨b, 2, none⟩ (fnV f)) := by
  obtain ⟨c0, c1, c2⟩ := h.c
  have f0 := h.f 0
  have f1 := h.f 1
  have f2 := h.f 2
  refine ⟨?_, ?_, ?_⟩ <;> (rw [run_store _ _ _ _ _ rfl]; simp [c0, c1, c2, f0, f1, f2, go_sem])

theorem wide_rules (w : World) : Calls Tryz.prog 127 #[] w fun e w' => e = .returned (.agg #[fnV 149, fnV 150, fnV 151]) ∧ Below w.heap.size w w' := by
  have r0 := ((FBox.new w .nilFunc .nilFunc .nilFunc).put 149).1
  have r1 := ((FBox.new w (fnV 149) .nilFunc .nilFunc).put 150).2.1
  have r2 := ((FBox.new w (fnV 149) (fnV 150) .nilFunc).put 151).2.2
  obtain ⟨e0, e1, e2⟩ := (FBox.new w (fnV 149) (fnV 150) (fnV 151)).c
  go_enter Tryz.func127, Tryz.ntmps127
  go_wp2
  refine bodyPost_ret (v := .agg #[fnV 149, fnV 150, fnV 151]) (by simp [results, Tryz.results127, go_sem, e0, e1, e2]) rfl ?_
  exact ⟨rfl, below_alloc w _⟩

theorem condRet_into {w0 w1 w2 : World} {q M K s : Int} {X : List Int} {A : Option Addr} {n c b : Nat} (hI : IntsAt w2 A n X) (hO : n = 0 ∨ ∃ g, A = some ⟨g, 0, none⟩ ∧ w1.heap.size ≤ g ∧ OwnRow w2 g n X)
    (hB : Below w0.heap.size w0 w2) (hb0 : w0.heap.size ≤ b) (hb1 : b < w1.heap.size) (u v x y : Value) :
    CondRet w0 (.returned (.tuple #[condV q M A n c K, .int .i64 s])) ((((w2.setCell ⟨b, 0, none⟩ u).setCell ⟨b, 1, none⟩ v).setCell ⟨b, 2, none⟩ x).setCell ⟨b, 3, none⟩ y) q M X K s := by
  refine ⟨A, n, c, rfl, ?_, below_store4 hB hb0 _ _ _ _, ?_⟩
  · rcases hO with rfl | ⟨g, rfl, hg, O⟩
    · have hl := hI.len
      obtain rfl : X = [] := List.length_eq_zero_iff.1 hl
      exact ints_nil _ _
    · exact (O.store4 (b := b) (by omega) u v x y).ints hI.small hI.wf
  · rcases hO with rfl | ⟨g, rfl, hg, O⟩
    · exact .inl rfl
    · exact .inr ⟨g, rfl, by omega, O.store4 (b := b) (by omega) u v x y⟩
end Go.Proofs.YtkgnlloioaobiaaGreat

/-
  wide.Normal at conditions of kind 0.
-/
namespace Go.Proofs.YtkgnlloioaobiaaGreat
open Go.RowKit
set_option linter.unusedVariables false
set_option maxRecDepth 100000
set_option linter.unusedSimpArgs false

set_option maxHeartbeats 4000000 in
theorem wide_normal_ge (M : Int) (A : Option Addr) (n c : Nat) (K : Int) (xs : List Int) (hK : -4611686018427387904 ≤ K ∧ K ≤ 4611686018427387904) (hx : ∀ x ∈ xs, -4611686018427387904 ≤ x ∧ x ≤ 4611686018427387904) (w : World) (hI : IntsAt w A n xs) :
    Calls Tryz.prog 100 #[condV 0 M A n c K] w fun e w' => NfRet w e w' (nf 0 M n xs K) := by
  have hB := below_step (below_alloc w (.cells #[.int .i64 0, .int .i64 M, .slice A n c, .int .i64 K] 56)) (below_alloc _ (.cells #[.int .i64 0, .int .i64 0, .slice none 0 0, .int .i64 0] 56))
  have h1 := hI.step hB
  have B1 := (CBox.new w 0 M A n c K).step (below_alloc _ (.cells #[.int .i64 0, .int .i64 0, .slice none 0 0, .int .i64 0] 56))
  have B2 := CBox.new (w.alloc (.cells #[.int .i64 0, .int .i64 M, .slice A n c, .int .i64 K] 56)) 0 0 none 0 0 0
  rw [World.size_alloc] at B2
  obtain ⟨w1, hw1⟩ : ∃ w1, w1 = ((w.alloc (.cells #[.int .i64 0, .int .i64 M, .slice A n c, .int .i64 K] 56)).alloc (.cells #[.int .i64 0, .int .i64 0, .slice none 0 0, .int .i64 0] 56)) := ⟨_, rfl⟩
  rw [← hw1] at hB h1 B1 B2
  obtain ⟨r, hr⟩ : ∃ r, nf 0 M n xs K = r := ⟨_, rfl⟩
  obtain ⟨G, hG⟩ : ∃ G, gcdA 0 xs = G := ⟨_, rfl⟩
  have HR := Lib.hid (show ∀ W : World, IntsAt W A n xs → Calls Tryz.prog 149 #[shapeV 0 M A n c K (G : Nat)] W fun e w' => NfRet W e w' r from fun W h => by rw [← hG, ← hr]; exact rule_ge M A n c K xs hK hx W h)
  have HD := Lib.hid (show ∀ W : World, IntsAt W A n xs → Calls Tryz.prog 128 #[.int .i64 0, .slice A n c] W fun e w' => e = .returned (.int .i64 (G : Nat)) ∧ Below W.heap.size W w' from fun W h => (wide_divisor 0 ⟨by decide, by decide⟩ A n c xs hx W h).mono (by rintro e w' ⟨rfl, kk, rfl⟩; exact ⟨by rw [← hG]; rfl, below_of_drewN kk⟩))
  rw [hr]
  have c0 := B1.c0
  have c1 := B1.c1
  have c2 := B1.c2
  have c3 := B1.c3
  have l1 := B1.lt
  have l2 := B2.lt
  have n1 : w.heap.size ≠ w.heap.size + 1 := by omega
  have x0 : ∀ w : World, (Instr.index 139 (.agg #[fnV 149, fnV 150, fnV 151]) (.int .i64 0)).run Tryz.prog w = .ok (fnV 149) w := fun _ => rfl
  replace hB := hB.drew
  replace h1 := h1.step (Below.refl _ w1).drew
  replace B1 := B1.step (Below.refl _ w1).drew
  replace B2 := B2.step (Below.refl _ w1).drew
  clear hI hr hG hx hK
  go_enter Tryz.func100, Tryz.ntmps100
  go_wp2
  rw [← hw1]
  clear hw1
  go_region_held3 (fun W => W.cell? ⟨w.heap.size, 0, none⟩ = some (.int .i64 0) ∧ W.cell? ⟨w.heap.size, 1, none⟩ = some (.int .i64 M) ∧ W.cell? ⟨w.heap.size, 2, none⟩ = some (.slice A n c) ∧ W.cell? ⟨w.heap.size, 3, none⟩ = some (.int .i64 K)) (first | exact ⟨k0, k1, k2, k3⟩ | exact ⟨c0, c1, c2, c3⟩ | go_keep)
    (first
      | (go_at_call 127; refine (wide_rules _).mono ?_; rintro e w2 ⟨rfl, hb2⟩; replace hB := below_step hB hb2; replace h1 := h1.step hb2; replace B1 := B1.step hb2; replace B2 := B2.step hb2; have k0 := B1.c0; have k1 := B1.c1; have k2 := B1.c2; have k3 := B1.c3)
      | (go_at_call 128; refine (HD.out _ h1).mono ?_; rintro e w2 ⟨rfl, hb2⟩; replace hB := below_step hB hb2; replace h1 := h1.step hb2; replace B1 := B1.step hb2; replace B2 := B2.step hb2; have k0 := B1.c0; have k1 := B1.c1; have k2 := B1.c2; have k3 := B1.c3)
      | (go_at_call 149; refine (HR.out _ h1).mono ?_; rintro e w4 ⟨A4, n4, c4, rfl, I4, hb4, O4⟩; have l4 := B2.lt; replace hB := below_step hB hb4; replace B1 := B1.step hb4; replace B2 := B2.step hb4; have k0 := B1.c0; have k1 := B1.c1; have k2 := B1.c2; have k3 := B1.c3; have d0 := B2.c0; have d1 := B2.c1; have d2 := B2.c2; have d3 := B2.c3; have f0 := B2.f 0; have f1 := B2.f 1; have f2 := B2.f 2; have f3 := B2.f 3))
  all_goals
    obtain ⟨e0, e1, e2, e3⟩ := B2.four r.1 r.2.1 A4 n4 c4 r.2.2.2.1
    go_wp2
    refine bodyPost_ret (v := .tuple #[condV r.1 r.2.1 A4 n4 c4 r.2.2.2.1, .int .i64 r.2.2.2.2]) (by simp [results, Tryz.results100, go_sem, e0, e1, e2, e3]) rfl ?_
    exact condRet_into I4 O4 hB (by omega) l4 _ _ _ _
end Go.Proofs.YtkgnlloioaobiaaGreat

/-
  wide.Normal at conditions of kind 1.
-/
namespace Go.Proofs.YtkgnlloioaobiaaGreat
open Go.RowKit
set_option linter.unusedVariables false
set_option maxRecDepth 100000
set_option linter.unusedSimpArgs false

set_option maxHeartbeats 4000000 in
theorem wide_normal_eq (M : Int) (A : Option Addr) (n c : Nat) (K : Int) (xs : List Int) (hK : -4611686018427387904 ≤ K ∧ K ≤ 4611686018427387904) (hx : ∀ x ∈ xs, -4611686018427387904 ≤ x ∧ x ≤ 4611686018427387904) (w : World) (hI : IntsAt w A n xs) :
    Calls Tryz.prog 100 #[condV 1 M A n c K] w fun e w' => NfRet w e w' (nf 1 M n xs K) := by
  have hB := below_step (below_alloc w (.cells #[.int .i64 1, .int .i64 M, .slice A n c, .int .i64 K] 56)) (below_alloc _ (.cells #[.int .i64 0, .int .i64 0, .slice none 0 0, .int .i64 0] 56))
  have h1 := hI.step hB
  have B1 := (CBox.new w 1 M A n c K).step (below_alloc _ (.cells #[.int .i64 0, .int .i64 0, .slice none 0 0, .int .i64 0] 56))
  have B2 := CBox.new (w.alloc (.cells #[.int .i64 1, .int .i64 M, .slice A n c, .int .i64 K] 56)) 0 0 none 0 0 0
  rw [World.size_alloc] at B2
  obtain ⟨w1, hw1⟩ : ∃ w1, w1 = ((w.alloc (.cells #[.int .i64 1, .int .i64 M, .slice A n c, .int .i64 K] 56)).alloc (.cells #[.int .i64 0, .int .i64 0, .slice none 0 0, .int .i64 0] 56)) := ⟨_, rfl⟩
  rw [← hw1] at hB h1 B1 B2
  obtain ⟨r, hr⟩ : ∃ r, nf 1 M n xs K = r := ⟨_, rfl⟩
  obtain ⟨G, hG⟩ : ∃ G, gcdA 0 xs = G := ⟨_, rfl⟩
  have HR := Lib.hid (show ∀ W : World, IntsAt W A n xs → Calls Tryz.prog 150 #[shapeV 1 M A n c K (G : Nat)] W fun e w' => NfRet W e w' r from fun W h => by rw [← hG, ← hr]; exact rule_eq M A n c K xs hK hx W h)
  have HD := Lib.hid (show ∀ W : World, IntsAt W A n xs → Calls Tryz.prog 128 #[.int .i64 0, .slice A n c] W fun e w' => e = .returned (.int .i64 (G : Nat)) ∧ Below W.heap.size W w' from fun W h => (wide_divisor 0 ⟨by decide, by decide⟩ A n c xs hx W h).mono (by rintro e w' ⟨rfl, kk, rfl⟩; exact ⟨by rw [← hG]; rfl, below_of_drewN kk⟩))
  rw [hr]
  have c0 := B1.c0
  have c1 := B1.c1
  have c2 := B1.c2
  have c3 := B1.c3
  have l1 := B1.lt
  have l2 := B2.lt
  have n1 : w.heap.size ≠ w.heap.size + 1 := by omega
  have x0 : ∀ w : World, (Instr.index 139 (.agg #[fnV 149, fnV 150, fnV 151]) (.int .i64 1)).run Tryz.prog w = .ok (fnV 150) w := fun _ => rfl
  replace hB := hB.drew
  replace h1 := h1.step (Below.refl _ w1).drew
  replace B1 := B1.step (Below.refl _ w1).drew
  replace B2 := B2.step (Below.refl _ w1).drew
  clear hI hr hG hx hK
  go_enter Tryz.func100, Tryz.ntmps100
  go_wp2
  rw [← hw1]
  clear hw1
  go_region_held3 (fun W => W.cell? ⟨w.heap.size, 0, none⟩ = some (.int .i64 1) ∧ W.cell? ⟨w.heap.size, 1, none⟩ = some (.int .i64 M) ∧ W.cell? ⟨w.heap.size, 2, none⟩ = some (.slice A n c) ∧ W.cell? ⟨w.heap.size, 3, none⟩ = some (.int .i64 K)) (first | exact ⟨k0, k1, k2, k3⟩ | exact ⟨c0, c1, c2, c3⟩ | go_keep)
    (first
      | (go_at_call 127; refine (wide_rules _).mono ?_; rintro e w2 ⟨rfl, hb2⟩; replace hB := below_step hB hb2; replace h1 := h1.step hb2; replace B1 := B1.step hb2; replace B2 := B2.step hb2; have k0 := B1.c0; have k1 := B1.c1; have k2 := B1.c2; have k3 := B1.c3)
      | (go_at_call 128; refine (HD.out _ h1).mono ?_; rintro e w2 ⟨rfl, hb2⟩; replace hB := below_step hB hb2; replace h1 := h1.step hb2; replace B1 := B1.step hb2; replace B2 := B2.step hb2; have k0 := B1.c0; have k1 := B1.c1; have k2 := B1.c2; have k3 := B1.c3)
      | (go_at_call 150; refine (HR.out _ h1).mono ?_; rintro e w4 ⟨A4, n4, c4, rfl, I4, hb4, O4⟩; have l4 := B2.lt; replace hB := below_step hB hb4; replace B1 := B1.step hb4; replace B2 := B2.step hb4; have k0 := B1.c0; have k1 := B1.c1; have k2 := B1.c2; have k3 := B1.c3; have d0 := B2.c0; have d1 := B2.c1; have d2 := B2.c2; have d3 := B2.c3; have f0 := B2.f 0; have f1 := B2.f 1; have f2 := B2.f 2; have f3 := B2.f 3))
  all_goals
    obtain ⟨e0, e1, e2, e3⟩ := B2.four r.1 r.2.1 A4 n4 c4 r.2.2.2.1
    go_wp2
    refine bodyPost_ret (v := .tuple #[condV r.1 r.2.1 A4 n4 c4 r.2.2.2.1, .int .i64 r.2.2.2.2]) (by simp [results, Tryz.results100, go_sem, e0, e1, e2, e3]) rfl ?_
    exact condRet_into I4 O4 hB (by omega) l4 _ _ _ _
end Go.Proofs.YtkgnlloioaobiaaGreat

/-
  wide.Normal at conditions of kind 2.
-/
namespace Go.Proofs.YtkgnlloioaobiaaGreat
open Go.RowKit
set_option linter.unusedVariables false
set_option maxRecDepth 100000
set_option linter.unusedSimpArgs false

set_option maxHeartbeats 4000000 in
theorem wide_normal_dv (M : Int) (A : Option Addr) (n c : Nat) (K : Int) (xs : List Int) (hM : 1 ≤ M ∧ M ≤ 512) (hK : -4611686018427387904 ≤ K ∧ K ≤ 4611686018427387904) (hx : ∀ x ∈ xs, -4611686018427387904 ≤ x ∧ x ≤ 4611686018427387904) (w : World) (hI : IntsAt w A n xs) :
    Calls Tryz.prog 100 #[condV 2 M A n c K] w fun e w' => NfRet w e w' (nf 2 M n xs K) := by
  have hB := below_step (below_alloc w (.cells #[.int .i64 2, .int .i64 M, .slice A n c, .int .i64 K] 56)) (below_alloc _ (.cells #[.int .i64 0, .int .i64 0, .slice none 0 0, .int .i64 0] 56))
  have h1 := hI.step hB
  have B1 := (CBox.new w 2 M A n c K).step (below_alloc _ (.cells #[.int .i64 0, .int .i64 0, .slice none 0 0, .int .i64 0] 56))
  have B2 := CBox.new (w.alloc (.cells #[.int .i64 2, .int .i64 M, .slice A n c, .int .i64 K] 56)) 0 0 none 0 0 0
  rw [World.size_alloc] at B2
  obtain ⟨w1, hw1⟩ : ∃ w1, w1 = ((w.alloc (.cells #[.int .i64 2, .int .i64 M, .slice A n c, .int .i64 K] 56)).alloc (.cells #[.int .i64 0, .int .i64 0, .slice none 0 0, .int .i64 0] 56)) := ⟨_, rfl⟩
  rw [← hw1] at hB h1 B1 B2
  obtain ⟨r, hr⟩ : ∃ r, nf 2 M n xs K = r := ⟨_, rfl⟩
  obtain ⟨G, hG⟩ : ∃ G, gcdA 0 xs = G := ⟨_, rfl⟩
  have HR := Lib.hid (show ∀ W : World, IntsAt W A n xs → Calls Tryz.prog 151 #[shapeV 2 M A n c K (G : Nat)] W fun e w' => NfRet W e w' r from fun W h => by rw [← hr]; exact rule_div M A n c K xs hK hx W h _ hM)
  have HD := Lib.hid (show ∀ W : World, IntsAt W A n xs → Calls Tryz.prog 128 #[.int .i64 0, .slice A n c] W fun e w' => e = .returned (.int .i64 (G : Nat)) ∧ Below W.heap.size W w' from fun W h => (wide_divisor 0 ⟨by decide, by decide⟩ A n c xs hx W h).mono (by rintro e w' ⟨rfl, kk, rfl⟩; exact ⟨by rw [← hG]; rfl, below_of_drewN kk⟩))
  rw [hr]
  have c0 := B1.c0
  have c1 := B1.c1
  have c2 := B1.c2
  have c3 := B1.c3
  have l1 := B1.lt
  have l2 := B2.lt
  have n1 : w.heap.size ≠ w.heap.size + 1 := by omega
  have x0 : ∀ w : World, (Instr.index 139 (.agg #[fnV 149, fnV 150, fnV 151]) (.int .i64 2)).run Tryz.prog w = .ok (fnV 151) w := fun _ => rfl
  replace hB := hB.drew
  replace h1 := h1.step (Below.refl _ w1).drew
  replace B1 := B1.step (Below.refl _ w1).drew
  replace B2 := B2.step (Below.refl _ w1).drew
  clear hI hr hG hx hK
  go_enter Tryz.func100, Tryz.ntmps100
  go_wp2
  rw [← hw1]
  clear hw1
  go_region_held3 (fun W => W.cell? ⟨w.heap.size, 0, none⟩ = some (.int .i64 2) ∧ W.cell? ⟨w.heap.size, 1, none⟩ = some (.int .i64 M) ∧ W.cell? ⟨w.heap.size, 2, none⟩ = some (.slice A n c) ∧ W.cell? ⟨w.heap.size, 3, none⟩ = some (.int .i64 K)) (first | exact ⟨k0, k1, k2, k3⟩ | exact ⟨c0, c1, c2, c3⟩ | go_keep)
    (first
      | (go_at_call 127; refine (wide_rules _).mono ?_; rintro e w2 ⟨rfl, hb2⟩; replace hB := below_step hB hb2; replace h1 := h1.step hb2; replace B1 := B1.step hb2; replace B2 := B2.step hb2; have k0 := B1.c0; have k1 := B1.c1; have k2 := B1.c2; have k3 := B1.c3)
      | (go_at_call 128; refine (HD.out _ h1).mono ?_; rintro e w2 ⟨rfl, hb2⟩; replace hB := below_step hB hb2; replace h1 := h1.step hb2; replace B1 := B1.step hb2; replace B2 := B2.step hb2; have k0 := B1.c0; have k1 := B1.c1; have k2 := B1.c2; have k3 := B1.c3)
      | (go_at_call 151; refine (HR.out _ h1).mono ?_; rintro e w4 ⟨A4, n4, c4, rfl, I4, hb4, O4⟩; have l4 := B2.lt; replace hB := below_step hB hb4; replace B1 := B1.step hb4; replace B2 := B2.step hb4; have k0 := B1.c0; have k1 := B1.c1; have k2 := B1.c2; have k3 := B1.c3; have d0 := B2.c0; have d1 := B2.c1; have d2 := B2.c2; have d3 := B2.c3; have f0 := B2.f 0; have f1 := B2.f 1; have f2 := B2.f 2; have f3 := B2.f 3))
  all_goals
    obtain ⟨e0, e1, e2, e3⟩ := B2.four r.1 r.2.1 A4 n4 c4 r.2.2.2.1
    go_wp2
    refine bodyPost_ret (v := .tuple #[condV r.1 r.2.1 A4 n4 c4 r.2.2.2.1, .int .i64 r.2.2.2.2]) (by simp [results, Tryz.results100, go_sem, e0, e1, e2, e3]) rfl ?_
    exact condRet_into I4 O4 hB (by omega) l4 _ _ _ _
end Go.Proofs.YtkgnlloioaobiaaGreat

/-
  wide.Normal at every kind; cond.Normal.
-/
namespace Go.Proofs.YtkgnlloioaobiaaGreat
open Go.RowKit
set_option linter.unusedVariables false
set_option maxRecDepth 100000
set_option linter.unusedSimpArgs false

/-- A kind with the modulus that belongs to it. -/
def KindOk (q M : Int) : Prop := q = 0 ∨ q = 1 ∨ (q = 2 ∧ 1 ≤ M ∧ M ≤ 512)
theorem wide_normal (q M : Int) (A : Option Addr) (n c : Nat) (K : Int) (xs : List Int) (hq : KindOk q M) (hK : -4611686018427387904 ≤ K ∧ K ≤ 4611686018427387904) (hx : ∀ x ∈ xs, -4611686018427387904 ≤ x ∧ x ≤ 4611686018427387904) (w : World) (hI : IntsAt w A n xs) :
    Calls Tryz.prog 100 #[condV q M A n c K] w fun e w' => NfRet w e w' (nf q M n xs K) := by
  rcases hq with rfl | rfl | ⟨rfl, hM⟩
  · exact wide_normal_ge M A n c K xs hK hx w hI
  · exact wide_normal_eq M A n c K xs hK hx w hI
  · exact wide_normal_dv M A n c K xs hM hK hx w hI
theorem validC_ok {q M : Int} {xs : List Int} {K : Int} (h : validC q M xs K = true) : KindOk q M := by
  rcases (validC_kind h).2 with ⟨h, _⟩ | ⟨h, _⟩ | h
  · exact .inl h
  · exact .inr (.inl h)
  · exact .inr (.inr h)
theorem fits_wide {x : Int} (h : fitsB x = true) : -4611686018427387904 ≤ x ∧ x ≤ 4611686018427387904 := by
  unfold fitsB at h; simp at h; omega

/-- The answer is a condition in a row of its own, a state and an error. -/
def CondRet3 (w : World) (e : Ending) (w' : World) (q M : Int) (X : List Int) (K s er : Int) : Prop :=
  ∃ A n c, e = .returned (.tuple #[condV q M A n c K, .int .i64 s, .int .i64 er]) ∧ IntsAt w' A n X ∧ Below w.heap.size w w' ∧ (n = 0 ∨ ∃ g, A = some ⟨g, 0, none⟩ ∧ w.heap.size ≤ g ∧ OwnRow w' g n X)
/-- What cond.Normal answers: the normal form, or the error. -/
def nfV (q M : Int) (n : Nat) (xs : List Int) (K : Int) : Int × Int × List Int × Int × Int := if validC q M xs K then nf q M n xs K else (0, 0, [], 0, 0)
def nfE (q M : Int) (xs : List Int) (K : Int) : Int := if validC q M xs K then 0 else 1
abbrev NfRet3 (w : World) (e : Ending) (w' : World) (r : Int × Int × List Int × Int × Int) (er : Int) : Prop := CondRet3 w e w' r.1 r.2.1 r.2.2.1 r.2.2.2.1 r.2.2.2.2 er

section
variable {w : World} {b : Nat} {q M : Int} {A : Option Addr} {n c : Nat} {K : Int}
theorem CBox.s0 (h : CBox w b q M A n c K) (v : Int) : CBox (w.setCell ⟨b, 0, none⟩ (.int .i64 v)) b v M A n c K := by
  unfold CBox at *; show (Array.modify _ b _)[b]? = _; rw [Array.getElem?_modify, if_pos rfl, h]; rfl
theorem CBox.s1 (h : CBox w b q M A n c K) (v : Int) : CBox (w.setCell ⟨b, 1, none⟩ (.int .i64 v)) b q v A n c K := by
  unfold CBox at *; show (Array.modify _ b _)[b]? = _; rw [Array.getElem?_modify, if_pos rfl, h]; rfl
theorem CBox.s2 (h : CBox w b q M A n c K) (A' : Option Addr) (n' c' : Nat) : CBox (w.setCell ⟨b, 2, none⟩ (.slice A' n' c')) b q M A' n' c' K := by
  unfold CBox at *; show (Array.modify _ b _)[b]? = _; rw [Array.getElem?_modify, if_pos rfl, h]; rfl
theorem CBox.s3 (h : CBox w b q M A n c K) (v : Int) : CBox (w.setCell ⟨b, 3, none⟩ (.int .i64 v)) b q M A n c v := by
  unfold CBox at *; show (Array.modify _ b _)[b]? = _; rw [Array.getElem?_modify, if_pos rfl, h]; rfl
end

end Go.Proofs.YtkgnlloioaobiaaGreat
