/-
  A list of expressions that a call owns, whose rows lie in memory of their own.
-/
import Derived.Test.YtbjkijifpikhkaaProg
import Derived.Test.YtbjkijifpikhkaaLinKit
import Derived.Test.YtbjkijifpikhkaaLinClone
import Derived.Test.YtbjkijifpikhkaaLinPut
import Derived.Test.YtbjkijifpikhkaaRegInv
import Derived.Deep.AppendLies
namespace Go.Proofs.Ytbjkijifpikhkaa
open Go.RowKit
set_option linter.unusedVariables false
set_option linter.unusedSimpArgs false

/-- An expression as a list's element. -/
structure El where
  A : Option Addr
  n : Nat
  c : Nat
  K : Int
def El.cells (e : El) : List Value := [.slice e.A e.n e.c, .int .i64 e.K]
def lcells : List El → List Value
  | [] => []
  | e :: l => e.cells ++ lcells l
theorem lcells_app (l m : List El) : lcells (l ++ m) = lcells l ++ lcells m := by
  induction l with
  | nil => rfl
  | cons e l ih => simp [lcells, ih]
theorem lcells_len (l : List El) : (lcells l).length = l.length * 2 := by
  induction l with
  | nil => rfl
  | cons e l ih => simp [lcells, El.cells, ih]; omega
theorem lcells_at : ∀ (l : List El) (q : Nat) (e : El), l[q]? = some e → (lcells l)[q * 2]? = some (.slice e.A e.n e.c) ∧ (lcells l)[q * 2 + 1]? = some (.int .i64 e.K)
  | [], q, e, h => by simp at h
  | x :: l, 0, e, h => by simp at h; subst h; exact ⟨rfl, rfl⟩
  | x :: l, q + 1, e, h => by
    have := lcells_at l q e (by simpa using h)
    rw [show (q + 1) * 2 = q * 2 + 1 + 1 by omega]
    exact this

/-- Block g is a row of integers, of at least n cells. -/
def RowAt (W : World) (g n : Nat) : Prop := ∃ cur : Array Value, W.heap[g]? = some (.cells cur 3 (0, 0)) ∧ n ≤ cur.size
/-- The element's row, if it has cells, lies at N or beyond. -/
def ElOk (N : Nat) (W : World) (e : El) : Prop := e.n ≤ 17592186044416 ∧ (e.n = 0 ∨ ∃ g, e.A = some ⟨g, 0, none⟩ ∧ N ≤ g ∧ RowAt W g e.n)

/-- The list, its elements and their rows. -/
structure LL (N : Nat) (W : World) (u : Value) (m : Nat) (els : List El) : Prop where
  len : els.length = m
  own : W.ownsRow N 24 2 u m (lcells els)
  ok : ∀ e ∈ els, ElOk N W e

/-- From W to W' only rows of integers at N or beyond have been written, and blocks made. -/
structure Soft (N : Nat) (W W' : World) : Prop where
  below : Below N W W'
  rest : ∀ (g : Nat) (o : Obj), W.heap[g]? = some o → (∀ cur : Array Value, o ≠ Obj.cells cur 3 (0, 0)) → W'.heap[g]? = some o
  rows : ∀ g n, RowAt W g n → RowAt W' g n

section
variable {N : Nat} {W W' W'' : World}
theorem Soft.trans (h : Soft N W W') (h' : Soft N W' W'') : Soft N W W'' :=
  ⟨h.below.trans h'.below, fun g o hg ho => h'.rest g o (h.rest g o hg ho) ho, fun g n hr => h'.rows g n (h.rows g n hr)⟩
theorem Soft.of_below (h : Below W.heap.size W W') (hN : N ≤ W.heap.size) : Soft N W W' :=
  ⟨h.mono hN, fun g o hg _ => (h.block g (Array.getElem?_eq_some_iff.1 hg).1).trans hg, fun g n ⟨cur, hg, hn⟩ => ⟨cur, (h.block g (Array.getElem?_eq_some_iff.1 hg).1).trans hg, hn⟩⟩
theorem Soft.setCell {g p n : Nat} (hr : RowAt W g n) (hg : N ≤ g) (x : Value) : Soft N W (W.setCell ⟨g, p, none⟩ x) := by
  obtain ⟨cur, hc, hn⟩ := hr
  refine ⟨(Below.refl N W).setCell (p := ⟨g, p, none⟩) hg x, fun g' o hg' ho => ?_, fun g' n' hr' => ?_⟩
  · have hne : g' ≠ g := fun e => by subst e; rw [hc] at hg'; cases hg'; exact ho cur rfl
    rw [Below.heap_setCell _ _ _ _ hne]; exact hg'
  · obtain ⟨cur', hc', hn'⟩ := hr'
    by_cases e : g' = g
    · subst e
      rw [hc] at hc'
      cases hc'
      refine ⟨cur.setIfInBounds p x, ?_, by simpa using hn'⟩
      simp only [World.setCell]
      rw [Array.getElem?_modify, if_pos rfl, hc]
      rfl
    · exact ⟨cur', by rw [Below.heap_setCell _ _ _ _ e]; exact hc', hn'⟩
theorem ElOk.soft {e : El} (h : ElOk N W e) (hs : Soft N W W') : ElOk N W' e :=
  ⟨h.1, h.2.imp id fun ⟨g, a, b, r⟩ => ⟨g, a, b, hs.rows g _ r⟩⟩
theorem LL.soft {u : Value} {m : Nat} {els : List El} (h : LL N W u m els) (hs : Soft N W W') : LL N W' u m els := by
  refine ⟨h.len, ⟨h.own.1, ?_⟩, fun e he => (h.ok e he).soft hs⟩
  rcases h.own.2 with h0 | ⟨g, cap, cur, hv, hb, hg, rest⟩
  · exact .inl h0
  · exact .inr ⟨g, cap, cur, hv, hb, hs.rest g _ hg (fun cur' e => by simp at e), rest⟩
theorem LBox.soft {b : Nat} {A : Option Addr} {n c : Nat} {K : Int} (h : LBox W b A n c K) (hs : Soft N W W') : LBox W' b A n c K :=
  hs.rest b _ h (fun cur e => by simp at e)
theorem OwnRow.rowAt {g n : Nat} {xs : List Int} (h : OwnRow W g n xs) : RowAt W g n := by
  obtain ⟨_, cur, hc, hn, _⟩ := h
  exact ⟨cur, hc, hn⟩
theorem RowAt.cell {g n p : Nat} (h : RowAt W g n) (hp : p < n) : (∃ x, W.cell? ⟨g, p, none⟩ = some x) ∧ W.frozen? ⟨g, p, none⟩ = false := by
  obtain ⟨cur, hc, hn⟩ := h
  refine ⟨⟨cur[p]'(by omega), ?_⟩, by simp [World.frozen?, hc]⟩
  rw [cell_of_row W g p cur _ (0, 0) hc, Array.getElem?_eq_getElem (by omega)]
/-- What a function of lin answers, as an element. -/
theorem elOk_of {ys : List Int} {K : Int} {A : Option Addr} {n c : Nat} (hI : IntsAt W' A n ys) (hf : n = 0 ∨ ∃ g, A = some ⟨g, 0, none⟩ ∧ W.heap.size ≤ g ∧ OwnRow W' g n ys) (hN : N ≤ W.heap.size) : ElOk N W' ⟨A, n, c, K⟩ :=
  ⟨hI.small, hf.imp id fun ⟨g, a, b, r⟩ => ⟨g, a, by omega, r.rowAt⟩⟩
end

theorem infoLin : (Try.prog.info? 24).map (fun i => (i.zero, i.size, i.bytes)) = some (some (.agg #[.slice none 0 0, .int .i64 0]), 2, 32) := by kernel_rfl

/-- Some elements are appended. -/
theorem append_lins {N : Nat} {w : World} {u : Value} {m : Nat} {els : List El} (h : LL N w u m els) (g : Nat) (new : List El) (hg : w.heap[g]? = some (.cells (lcells new).toArray 24 (0, 0))) (hnew : ∀ e ∈ new, ElOk N w e) (hm : m + new.length ≤ 1000) (h0 : 0 < new.length) (hN : N ≤ w.heap.size) (ty : TypeId) (t : TypeId) (ht : Try.prog.underlying t = some (.slice 24)) :
    ∃ g' cap w', (Builtin.append_ #[t, t] ty #[u, .slice (some ⟨g, 0, none⟩) new.length new.length]).run Try.prog w = .ok (.slice (some ⟨g', 0, none⟩) (m + new.length) cap) w' ∧ LL N w' (.slice (some ⟨g', 0, none⟩) (m + new.length) cap) (m + new.length) (els ++ new) ∧ Below N w w' := by
  obtain ⟨i0, hi, hz, hz1, hz2⟩ := info_parts infoLin
  obtain ⟨g', cap, w', hr, hown, hgr, _, _⟩ := run_append_lies (P := Try.prog) w t ty N 24 i0 (.agg #[.slice none 0 0, .int .i64 0]) 2 32 ht hi hz hz1 hz2 rfl (by decide) u m (lcells els) h.own ⟨g, 0, none⟩ new.length new.length (lcells new) (lcells_len new)
    (fun j v hv => World.news_of_block hg j v (by simpa using hv))
    (fun v hv => by
      clear hg hnew hm h0
      induction new with
      | nil => simp [lcells] at hv
      | cons e l ih =>
        simp only [lcells, El.cells, List.cons_append, List.nil_append, List.mem_cons] at hv
        rcases hv with rfl | rfl | hv
        · rfl
        · rfl
        · exact ih hv) h0 (by unfold maxLen; omega) (by omega) hN _ rfl
  have hb : Below N w w' := (Below.refl N w).grown hgr hN fun k e => (h.own.lt k e).1
  have keep : ∀ e, ElOk N w e → ElOk N w' e := fun e he => by
    refine ⟨he.1, he.2.imp id fun ⟨gg, a, b, cur, hc, hn⟩ => ⟨gg, a, b, cur, ?_, hn⟩⟩
    refine (hgr.block gg (Array.getElem?_eq_some_iff.1 hc).1 fun e' => ?_).trans hc
    rcases h.own.2 with ⟨hv, _⟩ | ⟨gl, cap', cur', hv, _, hgl, _⟩
    · rw [hv] at e'; cases e'
    · rw [hv] at e'
      simp only [Value.ownBlock, Option.some.injEq] at e'
      subst e'
      rw [hc] at hgl
      simp at hgl
  refine ⟨g', cap, w', hr, ⟨by rw [List.length_append, h.len], by rw [lcells_app]; exact hown, fun e he => ?_⟩, hb⟩
  rcases List.mem_append.1 he with he | he
  · exact keep e (h.ok e he)
  · exact keep e (hnew e he)

section
variable {ops : Array Oper} {o : Oper} {a : Act} {w : World} {Q : Exit → Act → World → Prop}
theorem wpList_append_lins {rest : List Oper} (hgd : o.guard = none) (s x : Operand) (t : TypeId) (ho : o.op = .call { callee := .builtin .append, args := #[s, x], argTypes := #[t, t] }) (ht : Try.prog.underlying t = some (.slice 24))
    {N : Nat} {u : Value} {m : Nat} {els : List El} (hs : a.eval s = u) (hL : LL N w u m els) (g : Nat) (new : List El) (k : Nat) (hk : new.length = k) (hx : a.eval x = .slice (some ⟨g, 0, none⟩) k k) (hg : w.heap[g]? = some (.cells (lcells new).toArray 24 (0, 0))) (hnew : ∀ e ∈ new, ElOk N w e) (hm : m + k ≤ 1000) (h0 : 0 < k) (hN : N ≤ w.heap.size)
    (h : ∀ g' cap w', LL N w' (.slice (some ⟨g', 0, none⟩) (m + k) cap) (m + k) (els ++ new) → Below N w w' → wpList Try.prog ops Q rest (a.put o.dst (.slice (some ⟨g', 0, none⟩) (m + k) cap)) w') : wpList Try.prog ops Q (o :: rest) a w :=
  wpList_plain hgd fun _ hK => by
    subst hk
    obtain ⟨g', cap, w', h1, h2, h3⟩ := append_lins hL g new hg hnew hm h0 hN o.type t ht
    unfold Oper.wp
    rw [exec_append ho hs hx h1, Oper.upon_value]
    exact hK _ _ (h g' cap w' h2 h3)
end
end Go.Proofs.Ytbjkijifpikhkaa
