/-
  Rows of integers that a call has made, and slices.Clone.
-/
import Derived.Test.YtbjkijifpikhkaaProg
import Derived.Test.YtbjkijifpikhkaaLinKit
import Derived.OwnWalk
import Derived.Laws.OwnMore
namespace Go.Proofs.Ytbjkijifpikhkaa
open Go.RowKit
set_option linter.unusedVariables false

/-- The first n cells of block g hold just the integers xs, and no cell of it is frozen. -/
def OwnRow (w : World) (g n : Nat) (xs : List Int) : Prop := xs.length = n ∧ ∃ cur : Array Value, w.heap[g]? = some (.cells cur 3 (0, 0)) ∧ n ≤ cur.size ∧ ∀ j, j < n → cur[j]? = some (.int .i64 (xs[j]?.getD 0))

section
variable {w w' : World} {g n : Nat} {xs : List Int}
theorem OwnRow.len (h : OwnRow w g n xs) : xs.length = n := h.1
theorem OwnRow.lt (h : OwnRow w g n xs) : g < w.heap.size := by obtain ⟨_, cur, hc, _⟩ := h; exact (Array.getElem?_eq_some_iff.1 hc).1
theorem OwnRow.cell (h : OwnRow w g n xs) {j : Nat} (hj : j < n) : w.cell? ⟨g, j, none⟩ = some (.int .i64 (xs[j]?.getD 0)) := by
  obtain ⟨_, cur, hc, _, hx⟩ := h
  rw [cell_of_row w g j _ _ (0, 0) hc]; exact hx j hj
theorem OwnRow.free (h : OwnRow w g n xs) (j : Nat) : w.frozen? ⟨g, j, none⟩ = false := by
  obtain ⟨_, cur, hc, _⟩ := h
  simp [World.frozen?, hc]
theorem OwnRow.below {B : Nat} (h : OwnRow w g n xs) (hb : Below B w w') (hg : g < B) : OwnRow w' g n xs := by
  obtain ⟨hl, cur, hc, hx⟩ := h
  exact ⟨hl, cur, (hb.block g hg).trans hc, hx⟩
theorem OwnRow.step (h : OwnRow w g n xs) (hb : Below w.heap.size w w') : OwnRow w' g n xs := h.below hb h.lt
theorem OwnRow.drewN (h : OwnRow w g n xs) (k : Nat) : OwnRow (w.drewN k) g n xs := h
theorem OwnRow.other (h : OwnRow w g n xs) {a : Addr} (ha : g ≠ a.block) (u : Value) : OwnRow (w.setCell a u) g n xs := by
  obtain ⟨hl, cur, hc, hx⟩ := h
  exact ⟨hl, cur, (Below.heap_setCell w a u g ha).trans hc, hx⟩
theorem OwnRow.set (h : OwnRow w g n xs) {j : Nat} (hj : j < n) (x : Int) : OwnRow (w.setCell ⟨g, j, none⟩ (.int .i64 x)) g n (xs.set j x) := by
  obtain ⟨hl, cur, hc, hs, hx⟩ := h
  refine ⟨by simp [hl], cur.setIfInBounds j (.int .i64 x), ?_, by simpa using hs, fun k hk => ?_⟩
  · simp only [World.setCell]
    rw [Array.getElem?_modify]
    simp [hc]
  · by_cases e : j = k
    · subst e
      have h1 : j < cur.size := by omega
      have h2 : j < xs.length := by omega
      simp [h1, h2]
    · rw [Array.getElem?_setIfInBounds_ne e, List.getElem?_set_ne e]
      exact hx k hk
theorem OwnRow.ints (h : OwnRow w g n xs) (hs : n ≤ 17592186044416) (hw : ∀ x ∈ xs, -9223372036854775808 ≤ x ∧ x ≤ 9223372036854775807) : IntsAt w (some ⟨g, 0, none⟩) n xs :=
  ⟨h.len, hs, hw, fun _ => ⟨g, 0, rfl, h.lt, fun j hj => by simpa using h.cell (j := j) hj⟩⟩
theorem OwnRow.new (w : World) (xs : List Int) (n : Nat) (hn : xs.length = n) : OwnRow (w.alloc (.cells (xs.map (Value.int .i64)).toArray 3)) w.heap.size n xs :=
  ⟨hn, _, heap_alloc_new w _, by simp [hn], fun j hj => by simp [hn, hj]⟩
theorem ownRow_of_owns {base : Nat} {v : Value} (h : w.ownsRow base 3 1 v n (xs.map (Value.int .i64))) (hn : 0 < n) : ∃ g cap, v = .slice (some ⟨g, 0, none⟩) n cap ∧ base ≤ g ∧ OwnRow w g n xs := by
  obtain ⟨hl, ⟨_, h0⟩ | ⟨g, cap, cur, rfl, hb, hh, hnc, hm, hcs, ht⟩⟩ := h
  · omega
  · have hlen : xs.length = n := by simpa using hl
    refine ⟨g, cap, rfl, hb, hlen, cur, hh, by omega, fun j hj => ?_⟩
    have h1 : (cur.toList.take (n * 1))[j]? = cur[j]? := by rw [List.getElem?_take, if_pos (by omega)]; simp
    rw [← h1, ht]
    simp [hlen, hj]
end

theorem run_eql_slice_nil (w : World) (A : Option Addr) (n c : Nat) :
    (binOp .eql 22 (.slice A n c) (.slice none 0 0)).run Try.prog w = .ok (.bool A.isNone) w := by
  have h : ∀ d : Nat, (Op.equalIn (d + 1) 22 (.slice A n c) (.slice none 0 0)).run Try.prog w = .ok A.isNone w := fun d => by
    cases A <;> simp [Op.equalIn, run_underlying Try.underlying22]
  simp only [binOp]
  simp [Op.equal, Op.maxDepth, h 9999]

theorem clone_in (b off n c : Nat) (xs : List Int) (w : World) (hn : 0 < n) (hsm : n ≤ 17592186044416) (hlen : xs.length = n) (hcells : ∀ j, j < n → w.cell? ⟨b, off + j, none⟩ = some (.int .i64 (xs[j]?.getD 0))) (hb : b < w.heap.size) :
    Calls Try.prog 64 #[.slice (some ⟨b, off, none⟩) n c] w fun e w' => ∃ g cap, e = .returned (.slice (some ⟨g, 0, none⟩) n cap) ∧ w.heap.size ≤ g ∧ OwnRow w' g n xs ∧ Below w.heap.size w w' := by
  obtain ⟨i0, hi, hz0, hz1, hz2⟩ := info_parts infoInt
  have hown := World.ownsRow_lit (base := w.heap.size) (e := 3) (size := 1) w #[] 0 (Nat.le_refl _) (by decide) (by simp)
  have heq := fun w => run_eql_slice_nil w (some ⟨b, off, none⟩) n c
  have HC := Lib.hid hcells
  have HL := Lib.hid hlen
  clear hcells hlen
  go_enter Try.func64, Try.ntmps64
  go_wp2_with (at_builtin; refine wpList_append_own _ rfl _ _ 22 rfl w.heap.size 3 i0 (.int .i64 0) 1 8 Try.underlying22 hi hz0 hz1 hz2 rfl (by decide) _ _ _ rfl hown ⟨b, off, none⟩ n c (xs.map (Value.int .i64)) rfl ?c0 ?c1 ?c2 ?c3 ?c4 ?c5 ?_)
  case c0 => first | exact HL.out | (simp; exact HL.out)
  case c1 =>
    intro j a h
    obtain ⟨hj, e⟩ := List.getElem?_eq_some_iff.1 h
    rw [HC.out j (by rw [← HL.out]; exact hj)]
    simp [h]
  case c2 => intro a _; rfl
  case c3 => unfold maxLen; omega
  case c4 => omega
  intro v' w1 hown' hgrow _
  have hx : w1.ownsRow w.heap.size 3 1 v' n (xs.map (Value.int .i64)) := by simpa using hown'
  obtain ⟨g, cap, rfl, hg, hr⟩ := ownRow_of_owns hx hn
  have hB : Below w.heap.size w w1 := (below_alloc w _).grown hgrow (by simp) (fun k e => by cases e; exact Nat.le_refl _)
  clear hown' hgrow hx
  go_wp2
  go_ret
  exact ⟨g, cap, rfl, hg, hr, hB⟩
end Go.Proofs.Ytbjkijifpikhkaa
