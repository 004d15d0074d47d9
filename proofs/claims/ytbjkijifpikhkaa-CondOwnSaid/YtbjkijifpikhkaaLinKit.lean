/-
  What the proofs of layer 2 share: integers of the world at hand, expressions, and what stays behind a call.
-/
import Derived.Test.YtbjkijifpikhkaaKit
import Derived.Test.YtbjkijifpikhkaaNumBase
import Derived.OwnWalk
import Derived.Laws.OwnMore
namespace Go.Proofs.Ytbjkijifpikhkaa
open Go.RowKit
set_option linter.unusedVariables false

/-- The slice holds the integers xs, in a block that lies in the world. -/
def IntsAt (w : World) (A : Option Addr) (n : Nat) (xs : List Int) : Prop := Ints w w.heap.size A n xs

theorem Ints.mono {w : World} {B B' n : Nat} {A : Option Addr} {xs : List Int} (h : Ints w B A n xs) (hB : B ≤ B') : Ints w B' A n xs :=
  ⟨h.len, h.small, h.wf, fun hn => by
    obtain ⟨b, off, e, hlt, hc⟩ := h.cells hn
    exact ⟨b, off, e, by omega, hc⟩⟩

theorem IntsAt.step {w w' : World} {n : Nat} {A : Option Addr} {xs : List Int} (h : IntsAt w A n xs) (hb : Below w.heap.size w w') : IntsAt w' A n xs :=
  (Ints.below h hb (Nat.le_refl _)).mono hb.size

theorem below_step {w0 w w' : World} (h : Below w0.heap.size w0 w) (hb : Below w.heap.size w w') : Below w0.heap.size w0 w' := h.trans (hb.mono h.size)
theorem below_alloc (w : World) (o : Obj) : Below w.heap.size w (w.alloc o) := (Below.refl _ w).alloc (Nat.le_refl _) o

/-- A valid expression: at most 12 coefficients; these and the constant fit. -/
def validB (xs : List Int) (K : Int) : Bool := decide (xs.length ≤ 12) && fitsB K && xs.all fitsB

theorem validB_true {xs : List Int} {K : Int} : validB xs K = true ↔ xs.length ≤ 12 ∧ fitsB K = true ∧ ∀ x ∈ xs, fitsB x = true := by
  unfold validB; simp [and_assoc]

theorem getD_mem {xs : List Int} {j : Nat} (h : j < xs.length) : xs[j]?.getD 0 ∈ xs := by
  have e : xs[j]?.getD 0 = xs[j] := by simp [h]
  rw [e]; exact List.getElem_mem h

theorem all_getD {xs : List Int} {p : Int → Prop} : (∀ x ∈ xs, p x) ↔ ∀ j, j < xs.length → p (xs[j]?.getD 0) :=
  ⟨fun h j hj => h _ (getD_mem hj), fun h x hx => by
    obtain ⟨j, hj, rfl⟩ := List.getElem_of_mem hx
    have := h j hj
    have e : xs[j]?.getD 0 = xs[j] := by simp [hj]
    rwa [e] at this⟩

/-- Block g holds just the integers xs, and none of its cells is frozen. -/
def Row (w : World) (g : Nat) (xs : List Int) : Prop := w.heap[g]? = some (.cells (xs.map (Value.int .i64)).toArray 3 (0, 0))

theorem Row.lt {w : World} {g : Nat} {xs : List Int} (h : Row w g xs) : g < w.heap.size := (Array.getElem?_eq_some_iff.1 h).1
theorem Row.cell {w : World} {g : Nat} {xs : List Int} (h : Row w g xs) {j : Nat} (hj : j < xs.length) : w.cell? ⟨g, j, none⟩ = some (.int .i64 (xs[j]?.getD 0)) := by
  rw [cell_of_row w g j _ _ (0, 0) h]; simp [hj]
theorem Row.free {w : World} {g : Nat} {xs : List Int} (h : Row w g xs) (j : Nat) : w.frozen? ⟨g, j, none⟩ = false := by
  unfold Row at h; simp [World.frozen?, h]
theorem Row.below {w w' : World} {g B : Nat} {xs : List Int} (h : Row w g xs) (hb : Below B w w') (hg : g < B) : Row w' g xs := (hb.block g hg).trans h
theorem Row.step {w w' : World} {g : Nat} {xs : List Int} (h : Row w g xs) (hb : Below w.heap.size w w') : Row w' g xs := h.below hb h.lt
theorem Row.drewN {w : World} {g : Nat} {xs : List Int} (h : Row w g xs) (k : Nat) : Row (w.drewN k) g xs := h
theorem Row.other {w : World} {g : Nat} {xs : List Int} (h : Row w g xs) {a : Addr} (ha : g ≠ a.block) (u : Value) : Row (w.setCell a u) g xs := (Below.heap_setCell w a u g ha).trans h
theorem Row.set {w : World} {g : Nat} {xs : List Int} (h : Row w g xs) {j : Nat} (hj : j < xs.length) (x : Int) : Row (w.setCell ⟨g, j, none⟩ (.int .i64 x)) g (xs.set j x) := by
  have hlt := h.lt
  unfold Row at h ⊢
  simp only [World.setCell]
  rw [Array.getElem?_modify]
  simp [h, List.map_set]
theorem Row.new (w : World) (xs : List Int) : Row (w.alloc (.cells (xs.map (Value.int .i64)).toArray 3)) w.heap.size xs := heap_alloc_new w _
theorem Row.ints {w : World} {g n : Nat} {xs : List Int} (h : Row w g xs) (hn : xs.length = n) (hs : n ≤ 17592186044416) (hw : ∀ x ∈ xs, -9223372036854775808 ≤ x ∧ x ≤ 9223372036854775807) : IntsAt w (some ⟨g, 0, none⟩) n xs :=
  ⟨hn, hs, hw, fun _ => ⟨g, 0, rfl, h.lt, fun j hj => by simpa using h.cell (j := j) (by omega)⟩⟩

def zeros (n : Nat) : List Int := List.replicate n 0
theorem zeros_len (n : Nat) : (zeros n).length = n := by simp [zeros]
theorem ints_nil (w : World) (A : Option Addr) : IntsAt w A 0 [] := ⟨rfl, (by omega), (fun x hx => by cases hx), (fun h => absurd h (by omega))⟩

theorem infoInt : (Try.prog.info? 3).map (fun i => (i.zero, i.size, i.bytes)) = some (some (.int .i64 0), 1, 8) := by kernel_rfl

theorem make_ints (n : Nat) (hn : n ≤ 17592186044416) (w : World) :
    (Instr.makeSlice 22 (.int .i64 (n : Int)) (.int .i64 (n : Int))).run Try.prog w = .ok (.slice (some ⟨w.heap.size, 0, none⟩) n n) (w.alloc (.cells ((zeros n).map (Value.int .i64)).toArray 3)) := by
  obtain ⟨i0, hi, hz0, hz1, hz2⟩ := info_parts infoInt
  have h := run_make (P := Try.prog) w 22 3 i0 _ Try.underlying22 hi hz0 .i64 .i64 (n : Int) (n : Int) (by omega) (by omega) (by rw [hz2]; omega) (by omega)
  rw [h, hz1]
  have e : madeCells (Value.int .i64 0).cells (n * 1) = ((zeros n).map (Value.int .i64)).toArray := by
    apply Array.ext'
    simp [madeCells, zeros, Value.cells, Nat.mod_one, List.eq_replicate_iff]
  simp only [Int.toNat_natCast]
  rw [e]

/-- Block b is a variable that holds an expression. -/
def LBox (w : World) (b : Nat) (A : Option Addr) (n c : Nat) (K : Int) : Prop := w.heap[b]? = some (.cells #[.slice A n c, .int .i64 K] 24 (0, 0))
theorem LBox.new (w : World) (A : Option Addr) (n c : Nat) (K : Int) : LBox (w.alloc (.cells #[.slice A n c, .int .i64 K] 24)) w.heap.size A n c K := heap_alloc_new w _
theorem LBox.lt {w : World} {b : Nat} {A : Option Addr} {n c : Nat} {K : Int} (h : LBox w b A n c K) : b < w.heap.size := (Array.getElem?_eq_some_iff.1 h).1
theorem LBox.alloc {w : World} {b : Nat} {A : Option Addr} {n c : Nat} {K : Int} (h : LBox w b A n c K) (o : Obj) : LBox (w.alloc o) b A n c K := (Below.heap_alloc w o b h.lt).trans h
theorem LBox.below {w w' : World} {b B : Nat} {A : Option Addr} {n c : Nat} {K : Int} (h : LBox w b A n c K) (hb : Below B w w') (hB : b < B) : LBox w' b A n c K := (hb.block b hB).trans h
theorem LBox.step {w w' : World} {b : Nat} {A : Option Addr} {n c : Nat} {K : Int} (h : LBox w b A n c K) (hb : Below w.heap.size w w') : LBox w' b A n c K := h.below hb h.lt
theorem LBox.c0 {w : World} {b : Nat} {A : Option Addr} {n c : Nat} {K : Int} (h : LBox w b A n c K) : w.cell? ⟨b, 0, none⟩ = some (.slice A n c) := by
  rw [cell_of_row w b 0 _ _ (0, 0) h]; rfl
theorem LBox.c1 {w : World} {b : Nat} {A : Option Addr} {n c : Nat} {K : Int} (h : LBox w b A n c K) : w.cell? ⟨b, 1, none⟩ = some (.int .i64 K) := by
  rw [cell_of_row w b 1 _ _ (0, 0) h]; rfl
theorem LBox.f {w : World} {b : Nat} {A : Option Addr} {n c : Nat} {K : Int} (h : LBox w b A n c K) (j : Nat) : w.frozen? ⟨b, j, none⟩ = false := by
  unfold LBox at h; simp [World.frozen?, h]
theorem LBox.store {w : World} {b : Nat} {A : Option Addr} {n c : Nat} {K : Int} (h : LBox w b A n c K) (A' : Option Addr) (n' c' : Nat) (K' : Int) :
    LBox ((w.setCell ⟨b, 0, none⟩ (.slice A' n' c')).setCell ⟨b, 1, none⟩ (.int .i64 K')) b A' n' c' K' := by
  unfold LBox at h ⊢
  simp only [World.setCell]
  rw [Array.getElem?_modify, if_pos rfl, Array.getElem?_modify, if_pos rfl, h]
  rfl
theorem LBox.s0 {w : World} {b : Nat} {A : Option Addr} {n c : Nat} {K : Int} (h : LBox w b A n c K) (v : Value) : (w.setCell ⟨b, 0, none⟩ v).cell? ⟨b, 0, none⟩ = some v :=
  World.cell?_setCell_same' _ _ _ (by rw [h.c0]; rfl)
theorem below_store2 {w0 w : World} (h : Below w0.heap.size w0 w) {b : Nat} (hb : w0.heap.size ≤ b) (u v : Value) : Below w0.heap.size w0 ((w.setCell ⟨b, 0, none⟩ u).setCell ⟨b, 1, none⟩ v) :=
  (h.setCell (p := ⟨b, 0, none⟩) hb u).setCell (p := ⟨b, 1, none⟩) hb v
end Go.Proofs.Ytbjkijifpikhkaa
