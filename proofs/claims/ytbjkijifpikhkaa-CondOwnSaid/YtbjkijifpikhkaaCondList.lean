/-
  Lists of conditions: as they are read, and as a call owns them.
-/
import Derived.Test.YtbjkijifpikhkaaProg
import Derived.Test.YtbjkijifpikhkaaKit
import Derived.Test.YtbjkijifpikhkaaLinKit
import Derived.Test.YtbjkijifpikhkaaLinClone
import Derived.Test.YtbjkijifpikhkaaLinPut
import Derived.Test.YtbjkijifpikhkaaCondKit
import Derived.Test.YtbjkijifpikhkaaCondShift
import Derived.Test.YtbjkijifpikhkaaRegInv
import Derived.Deep.AppendLies
namespace Go.Proofs.Ytbjkijifpikhkaa
open Go.RowKit
set_option linter.unusedVariables false
set_option linter.unusedSimpArgs false

/-- What a condition says. -/
structure CD where
  q : Int
  M : Int
  xs : List Int
  K : Int
/-- A condition as it lies in memory. -/
structure CEl where
  q : Int
  M : Int
  A : Option Addr
  n : Nat
  c : Nat
  K : Int
  xs : List Int
def CEl.d (e : CEl) : CD := ⟨e.q, e.M, e.xs, e.K⟩
def CEl.cells (e : CEl) : List Value := [.int .i64 e.q, .int .i64 e.M, .slice e.A e.n e.c, .int .i64 e.K]
def ccells : List CEl → List Value
  | [] => []
  | e :: l => e.cells ++ ccells l
theorem ccells_app (l m : List CEl) : ccells (l ++ m) = ccells l ++ ccells m := by
  induction l with
  | nil => rfl
  | cons e l ih => simp [ccells, ih]
theorem ccells_len (l : List CEl) : (ccells l).length = l.length * 4 := by
  induction l with
  | nil => rfl
  | cons e l ih => simp [ccells, CEl.cells, ih]; omega
theorem ccells_at : ∀ (l : List CEl) (j : Nat) (e : CEl), l[j]? = some e → (ccells l)[j * 4]? = some (.int .i64 e.q) ∧ (ccells l)[j * 4 + 1]? = some (.int .i64 e.M) ∧ (ccells l)[j * 4 + 2]? = some (.slice e.A e.n e.c) ∧ (ccells l)[j * 4 + 3]? = some (.int .i64 e.K)
  | [], j, e, h => by simp at h
  | x :: l, 0, e, h => by simp at h; subst h; exact ⟨rfl, rfl, rfl, rfl⟩
  | x :: l, j + 1, e, h => by
    have := ccells_at l j e (by simpa using h)
    rw [show (j + 1) * 4 = j * 4 + 1 + 1 + 1 + 1 by omega]
    exact this

/-- Four cells hold a condition. -/
def CellsOf (w : World) (b p : Nat) (e : CEl) : Prop := w.cell? ⟨b, p, none⟩ = some (.int .i64 e.q) ∧ w.cell? ⟨b, p + 1, none⟩ = some (.int .i64 e.M) ∧ w.cell? ⟨b, p + 2, none⟩ = some (.slice e.A e.n e.c) ∧ w.cell? ⟨b, p + 3, none⟩ = some (.int .i64 e.K)
theorem CellsOf.step {w w' : World} {b p : Nat} {e : CEl} {B : Nat} (h : CellsOf w b p e) (hb : Below B w w') (hB : b < B) : CellsOf w' b p e :=
  ⟨(hb.cell (p := ⟨b, p, none⟩) hB).trans h.1, (hb.cell (p := ⟨b, p + 1, none⟩) hB).trans h.2.1, (hb.cell (p := ⟨b, p + 2, none⟩) hB).trans h.2.2.1, (hb.cell (p := ⟨b, p + 3, none⟩) hB).trans h.2.2.2⟩

/-- A list of conditions that can be read: the slice A of m elements reads as els. -/
structure CondsAt (w : World) (A : Option Addr) (m : Nat) (els : List CEl) : Prop where
  len : els.length = m
  small : m ≤ 17592186044416
  cells : 0 < m → ∃ b off, A = some ⟨b, off, none⟩ ∧ b < w.heap.size ∧ ∀ j e, els[j]? = some e → CellsOf w b (off + j * 4) e
  ints : ∀ e ∈ els, IntsAt w e.A e.n e.xs
theorem CondsAt.step {w w' : World} {A : Option Addr} {m : Nat} {els : List CEl} (h : CondsAt w A m els) (hb : Below w.heap.size w w') : CondsAt w' A m els :=
  ⟨h.len, h.small, fun hm => let ⟨b, off, hA, hlt, hc⟩ := h.cells hm; ⟨b, off, hA, Nat.lt_of_lt_of_le hlt hb.size, fun j e he => (hc j e he).step hb hlt⟩, fun e he => (h.ints e he).step hb⟩
theorem conds_nil (w : World) (A : Option Addr) : CondsAt w A 0 [] := ⟨rfl, by omega, fun h => absurd h (by omega), fun e h => by cases h⟩
theorem CondsAt.at {w : World} {A : Option Addr} {m : Nat} {els : List CEl} (h : CondsAt w A m els) {j : Nat} (hj : j < m) : ∃ b off e, A = some ⟨b, off, none⟩ ∧ b < w.heap.size ∧ els[j]? = some e ∧ e ∈ els ∧ CellsOf w b (off + j * 4) e ∧ IntsAt w e.A e.n e.xs := by
  obtain ⟨b, off, hA, hlt, hc⟩ := h.cells (by omega)
  have hj' : j < els.length := by rw [h.len]; exact hj
  refine ⟨b, off, els[j], hA, hlt, List.getElem?_eq_getElem hj', List.getElem_mem hj', hc j _ (List.getElem?_eq_getElem hj'), h.ints _ (List.getElem_mem hj')⟩

/-- A row of integers at N or beyond. -/
def RowOk (N : Nat) (W : World) (A : Option Addr) (n : Nat) : Prop := n = 0 ∨ ∃ g, A = some ⟨g, 0, none⟩ ∧ N ≤ g ∧ ∃ cur : Array Value, W.heap[g]? = some (.cells cur 3 (0, 0)) ∧ n ≤ cur.size
theorem FreshRow.ok {N N' : Nat} {W : World} {A : Option Addr} {n : Nat} {xs : List Int} (h : FreshRow N W A n xs) (hN : N' ≤ N) : RowOk N' W A n :=
  h.imp id fun ⟨g, a, hg, O⟩ => ⟨g, a, Nat.le_trans hN hg, let ⟨_, cur, hc, hn, _⟩ := O; ⟨cur, hc, hn⟩⟩
theorem RowOk.step {N : Nat} {W W' : World} {A : Option Addr} {n : Nat} (h : RowOk N W A n) (hb : Below W.heap.size W W') : RowOk N W' A n :=
  h.imp id fun ⟨g, a, hg, cur, hc, hn⟩ => ⟨g, a, hg, cur, (hb.block g (Array.getElem?_eq_some_iff.1 hc).1).trans hc, hn⟩
theorem RowOk.mono {N N' : Nat} {W : World} {A : Option Addr} {n : Nat} (h : RowOk N W A n) (hN : N' ≤ N) : RowOk N' W A n :=
  h.imp id fun ⟨g, a, hg, r⟩ => ⟨g, a, Nat.le_trans hN hg, r⟩

/-- A list of conditions that the call owns. -/
structure CL2 (N0 N : Nat) (W : World) (u : Value) (els : List CEl) : Prop where
  own : W.ownsRow N 26 4 u els.length (ccells els)
  few : els.length ≤ 100000
  ints : ∀ e ∈ els, IntsAt W e.A e.n e.xs
  rows : ∀ e ∈ els, RowOk N0 W e.A e.n
/-- The same, where the elements' rows lie beyond the same number. -/
abbrev CL (N : Nat) (W : World) (u : Value) (els : List CEl) : Prop := CL2 N N W u els
theorem CL2.nil (N0 N : Nat) (W : World) : CL2 N0 N W (.slice none 0 0) [] := ⟨⟨rfl, .inl ⟨rfl, rfl⟩⟩, by simp, (fun e h => nomatch h), (fun e h => nomatch h)⟩
theorem CL.nil (N : Nat) (W : World) : CL N W (.slice none 0 0) [] := CL2.nil N N W
theorem CL2.step {N0 N : Nat} {W W' : World} {u : Value} {els : List CEl} (h : CL2 N0 N W u els) (hb : Below W.heap.size W W') : CL2 N0 N W' u els := by
  refine ⟨⟨h.own.1, ?_⟩, h.few, fun e he => (h.ints e he).step hb, fun e he => (h.rows e he).step hb⟩
  rcases h.own.2 with h0 | ⟨g, cap, cur, hv, hg, hc, rest⟩
  · exact .inl h0
  · exact .inr ⟨g, cap, cur, hv, hg, (hb.block g (Array.getElem?_eq_some_iff.1 hc).1).trans hc, rest⟩
theorem CL2.slice {N0 N : Nat} {W : World} {u : Value} {els : List CEl} (h : CL2 N0 N W u els) : ∃ A c, u = .slice A els.length c := by
  rcases h.own.2 with ⟨rfl, h0⟩ | ⟨g, cap, cur, rfl, _⟩
  · rw [h0]; exact ⟨none, 0, rfl⟩
  · exact ⟨_, _, rfl⟩
theorem CL2.conds {N0 N : Nat} {W : World} {A : Option Addr} {m c : Nat} {els : List CEl} (h : CL2 N0 N W (.slice A m c) els) : m = els.length ∧ CondsAt W A els.length els := by
  have hm : m = els.length := by
    obtain ⟨A', c', e⟩ := h.slice
    cases e; rfl
  subst hm
  have hf := h.few
  refine ⟨rfl, rfl, by omega, ?_, h.ints⟩
  · intro h0
    rcases h.own.2 with ⟨_, h1⟩ | ⟨g, cap, cur, hv, hb, hc, h1, h2, h3, h4⟩
    · omega
    · cases hv
      refine ⟨g, 0, rfl, (Array.getElem?_eq_some_iff.1 hc).1, fun j e he => ?_⟩
      obtain ⟨a0, a1, a2, a3⟩ := ccells_at els j e he
      have hj := (List.getElem?_eq_some_iff.1 he).1
      rw [Nat.zero_add]
      refine ⟨?_, ?_, ?_, ?_⟩
      · have := World.ownsRow.cellAt h.own (j * 4) (by omega); rw [this]; exact a0
      · have := World.ownsRow.cellAt h.own (j * 4 + 1) (by omega); rw [this]; exact a1
      · have := World.ownsRow.cellAt h.own (j * 4 + 2) (by omega); rw [this]; exact a2
      · have := World.ownsRow.cellAt h.own (j * 4 + 3) (by omega); rw [this]; exact a3

theorem infoCond : (Try.prog.info? 26).map (fun i => (i.zero, i.size, i.bytes)) = some (some (.agg #[.int .i64 0, .int .i64 0, .slice none 0 0, .int .i64 0]), 4, 48) := by kernel_rfl

theorem RowOk.grown {N : Nat} {W W' : World} {A : Option Addr} {n : Nat} {row : Option Nat} (h : RowOk N W A n) (hg : W.grownBy W' row) (hr : ∀ r, row = some r → ∃ cur fr, W.heap[r]? = some (.cells cur 26 fr)) : RowOk N W' A n := by
  refine h.imp id ?_
  rintro ⟨b, a, hb, cur, hc, hn⟩
  refine ⟨b, a, hb, cur, (hg.block b (Array.getElem?_eq_some_iff.1 hc).1 fun e => ?_).trans hc, hn⟩
  obtain ⟨cur', fr, hr'⟩ := hr b e.symm
  rw [hc] at hr'
  simp at hr'
theorem IntsAt.grown {N : Nat} {W W' : World} {A : Option Addr} {n : Nat} {xs : List Int} {row : Option Nat} (h : IntsAt W A n xs) (ho : RowOk N W A n) (hg : W.grownBy W' row) (hr : ∀ r, row = some r → ∃ cur fr, W.heap[r]? = some (.cells cur 26 fr)) : IntsAt W' A n xs := by
  refine ⟨h.len, h.small, h.wf, fun hn => ?_⟩
  obtain ⟨b, off, hA, hlt, hc⟩ := h.cells hn
  refine ⟨b, off, hA, Nat.lt_of_lt_of_le hlt hg.size, fun j hj => ?_⟩
  have hne : row ≠ some b := fun e => by
    obtain ⟨cur', fr, hr'⟩ := hr b e
    rcases ho with h0 | ⟨b', hA', _, cur, h1, _⟩
    · omega
    · rw [hA] at hA'
      cases hA'
      rw [h1] at hr'; simp at hr'
  rw [← hc j hj]
  exact World.cell?_of_block (hg.block b hlt fun e => hne e.symm)

/-- Some conditions are appended. -/
theorem append_conds {N0 N : Nat} {w : World} {u : Value} {els : List CEl} (h : CL2 N0 N w u els) (g : Nat) (new : List CEl) (hg : w.heap[g]? = some (.cells (ccells new).toArray 26 (0, 0))) (hi : ∀ e ∈ new, IntsAt w e.A e.n e.xs) (hro : ∀ e ∈ new, RowOk N0 w e.A e.n) (hm : els.length + new.length ≤ 100000) (h0 : 0 < new.length) (hN : N ≤ w.heap.size) (ty : TypeId) (t : TypeId) (ht : Try.prog.underlying t = some (.slice 26)) :
    ∃ g' cap w', (Builtin.append_ #[t, t] ty #[u, .slice (some ⟨g, 0, none⟩) new.length new.length]).run Try.prog w = .ok (.slice (some ⟨g', 0, none⟩) (els.length + new.length) cap) w' ∧ CL2 N0 N w' (.slice (some ⟨g', 0, none⟩) (els.length + new.length) cap) (els ++ new) ∧ w.grownBy w' u.ownBlock ∧ Below N w w' := by
  obtain ⟨i0, hi0, hz, hz1, hz2⟩ := info_parts infoCond
  obtain ⟨g', cap, w', hr, hown, hgr, _, _⟩ := run_append_lies (P := Try.prog) w t ty N 26 i0 (.agg #[.int .i64 0, .int .i64 0, .slice none 0 0, .int .i64 0]) 4 48 ht hi0 hz hz1 hz2 rfl (by decide) u els.length (ccells els) h.own ⟨g, 0, none⟩ new.length new.length (ccells new) (ccells_len new)
    (fun j v hv => World.news_of_block hg j v (by simpa using hv))
    (fun v hv => by
      clear hg hi hro hm h0
      induction new with
      | nil => simp [ccells] at hv
      | cons e l ih =>
        simp only [ccells, CEl.cells, List.cons_append, List.nil_append, List.mem_cons] at hv
        rcases hv with rfl | rfl | rfl | rfl | hv
        · rfl
        · rfl
        · rfl
        · rfl
        · exact ih hv) h0 (by unfold maxLen; omega) (by omega) hN _ rfl
  have hb : Below N w w' := (Below.refl N w).grown hgr hN fun k e => (h.own.lt k e).1
  have hrow : ∀ r, u.ownBlock = some r → ∃ cur fr, w.heap[r]? = some (.cells cur 26 fr) := fun r e => by
    rcases h.own.2 with ⟨hv, _⟩ | ⟨gl, cap', cur', hv, hgN, hgl, _⟩
    · rw [hv] at e; cases e
    · rw [hv] at e
      simp only [Value.ownBlock, Option.some.injEq] at e
      subst e
      exact ⟨cur', _, hgl⟩
  refine ⟨g', cap, w', hr, ⟨by rw [List.length_append, ccells_app]; exact hown, by rw [List.length_append]; exact hm, fun e he => ?_, fun e he => ?_⟩, hgr, hb⟩
  · rcases List.mem_append.1 he with he | he
    · exact (h.ints e he).grown (h.rows e he) hgr hrow
    · exact (hi e he).grown (hro e he) hgr hrow
  · rcases List.mem_append.1 he with he | he
    · exact (h.rows e he).grown hgr hrow
    · exact (hro e he).grown hgr hrow

section
variable {ops : Array Oper} {o : Oper} {a : Act} {w : World} {Q : Exit → Act → World → Prop}
theorem wpList_append_cond {rest : List Oper} (hgd : o.guard = none) (s x : Operand) (t : TypeId) (ho : o.op = .call { callee := .builtin .append, args := #[s, x], argTypes := #[t, t] }) (ht : Try.prog.underlying t = some (.slice 26))
    {N0 N : Nat} {u : Value} {els : List CEl} (hs : a.eval s = u) (hL : CL2 N0 N w u els) (g : Nat) (e : CEl) (hx : a.eval x = .slice (some ⟨g, 0, none⟩) 1 1) (hg : w.heap[g]? = some (.cells e.cells.toArray 26 (0, 0))) (hi : IntsAt w e.A e.n e.xs) (hro : RowOk N0 w e.A e.n) (hm : els.length + 1 ≤ 100000) (hN : N ≤ w.heap.size)
    (h : ∀ g' cap w', CL2 N0 N w' (.slice (some ⟨g', 0, none⟩) (els.length + 1) cap) (els ++ [e]) → w.grownBy w' u.ownBlock → Below N w w' → wpList Try.prog ops Q rest (a.put o.dst (.slice (some ⟨g', 0, none⟩) (els.length + 1) cap)) w') : wpList Try.prog ops Q (o :: rest) a w :=
  wpList_plain hgd fun _ hK => by
    obtain ⟨g', cap, w', h1, h2, h3, h4⟩ := append_conds hL g [e] (by simpa [ccells] using hg) (fun e' he => by rw [List.mem_singleton.1 he]; exact hi) (fun e' he => by rw [List.mem_singleton.1 he]; exact hro) hm (by simp) hN o.type t ht
    unfold Oper.wp
    rw [exec_append ho hs hx h1, Oper.upon_value]
    exact hK _ _ (h g' cap w' h2 h3 h4)
theorem step_append_cond {K : Act → World → Prop} {E : Prop} (hgd : o.guard = none) (s x : Operand) (t : TypeId) (ho : o.op = .call { callee := .builtin .append, args := #[s, x], argTypes := #[t, t] }) (ht : Try.prog.underlying t = some (.slice 26))
    {N0 N : Nat} {u : Value} {els : List CEl} (hs : a.eval s = u) (hL : CL2 N0 N w u els) (g : Nat) (e : CEl) (hx : a.eval x = .slice (some ⟨g, 0, none⟩) 1 1) (hg : w.heap[g]? = some (.cells e.cells.toArray 26 (0, 0))) (hi : IntsAt w e.A e.n e.xs) (hro : RowOk N0 w e.A e.n) (hm : els.length + 1 ≤ 100000) (hN : N ≤ w.heap.size)
    (h : ∀ g' cap w', CL2 N0 N w' (.slice (some ⟨g', 0, none⟩) (els.length + 1) cap) (els ++ [e]) → w.grownBy w' u.ownBlock → Below N w w' → K (a.put o.dst (.slice (some ⟨g', 0, none⟩) (els.length + 1) cap)) w') : if Region.wanted o (yielded ops a.tmps) = true then Oper.wp Try.prog o a w K Q else E := by
  have hw : Region.wanted o (yielded ops a.tmps) = true := by simp [Region.wanted, hgd]
  rw [if_pos hw]
  obtain ⟨g', cap, w', h1, h2, h3, h4⟩ := append_conds hL g [e] (by simpa [ccells] using hg) (fun e' he => by rw [List.mem_singleton.1 he]; exact hi) (fun e' he => by rw [List.mem_singleton.1 he]; exact hro) hm (by simp) hN o.type t ht
  unfold Oper.wp
  rw [exec_append ho hs hx h1, Oper.upon_value]
  exact h g' cap w' h2 h3 h4
end
end Go.Proofs.Ytbjkijifpikhkaa
