/-
  Part 3 of the texts that the laws stand on, merged: what each part says stands at its own head.
-/
import Derived.Test.YtkgnlloioaobiaaGreatProg
import Derived.Laws.IdiomStrings
import Derived.Lib.SmallJoins
import Derived.Deep.Strs
import Derived.RangeFuncWrites
import Derived.Maps.OwnOps
import Derived.Maps.OwnSet
import Derived.Maps.Views
import Derived.Deep.RegionHeld3
import Derived.Deep.QuietTactic
import Derived.BigQuiet
import Derived.OwnWalk
import Derived.Laws.OwnMore
import Derived.Laws.AppendOwnNone
import Derived.Lib.AppendZerosOnto
import Derived.Lib.Walk
import Derived.Lib.SliceRun
import Derived.Shelf.SlSortCmp.WholeK
import Derived.Test.YtkgnlloioaobiaaGreatMb

/-
  What wide.Piece says of a list of conditions, as a function of what they say.
-/
namespace Go.Proofs.YtkgnlloioaobiaaGreat
open Go.RowKit
set_option linter.unusedVariables false
set_option linter.unusedSimpArgs false

def slopeD (a b : CD) : Bool := decide (a.xs = b.xs)
def equalD (a b : CD) : Bool := ordD a b == 0
/-- What is left open of a condition. -/
def openD (n : Nat) (d : CD) : List CD := if (nfD n d).2.2.2.2 = 0 then [⟨(nfD n d).1, (nfD n d).2.1, (nfD n d).2.2.1, (nfD n d).2.2.2.1⟩] else []
def neverD (n : Nat) (d : CD) : Bool := decide ((nfD n d).2.2.2.2 = -1)
def normOut (n : Nat) (ds : List CD) : List CD := ds.flatMap (openD n)
def fitD (d : CD) : Bool := validB d.xs d.K
def normFits (n : Nat) (ds : List CD) : Bool := (normOut n ds).all fitD
def normVoid (n : Nat) (ds : List CD) : Bool := ds.any (neverD n)

def kindEq (p : List CD) : List CD := p.takeWhile fun d => d.q == 1
def kindGe (p : List CD) : List CD := (p.dropWhile fun d => d.q == 1).takeWhile fun d => d.q == 0
def kindDv (p : List CD) : List CD := (p.dropWhile fun d => d.q == 1).dropWhile fun d => d.q == 0
def findD (l : List CD) (t : List Int) : Option CD := l.find? fun e => decide (e.xs = t)
/-- The value that a Ge and its opposite leave. -/
def slackD (l : List CD) (d : CD) : Option Int := if leadI d.xs < 0 then none else (findD l (sgnL (-1) d.xs)).map fun e => d.K + e.K
def pairVoid (l : List CD) : Bool := l.any fun d => match slackD l d with | some k => decide (k < 0) | none => false
def tightOne (l : List CD) (d : CD) : List CD := match slackD l d with | some k => if k = 0 then [⟨1, 0, d.xs, d.K⟩] else [] | none => []
def tightD (l : List CD) : List CD := l.flatMap (tightOne l)
/-- Whether a Ge and its opposite are an Eq. -/
def goneD (l : List CD) (d : CD) : Bool := match findD l (sgnL (-1) d.xs) with | some e => decide (d.K + e.K = 0) | none => false
def restD (l : List CD) : List CD := l.filter fun d => !goneD l d
def signI (xs : List Int) : Int := if leadI xs < 0 then -1 else 1
def impD (eqs : List CD) (c : CD) : Option CD := findD eqs (sgnL (signI c.xs) c.xs)
def impVoid (eqs ges : List CD) : Bool := ges.any fun c => match impD eqs c with | some e => decide (c.K - signI c.xs * e.K < 0) | none => false
def impRest (eqs ges : List CD) : List CD := if eqs.isEmpty = true then ges else ges.filter fun c => (impD eqs c).isNone
def clashD (eqs : List CD) : Bool := (List.range (eqs.length - 1)).any fun i => match eqs[i]?, eqs[i + 1]? with | some a, some b => slopeD a b | _, _ => false
def gesD (p : List CD) : List CD := comp slopeD (kindGe p)
def eqsD (p : List CD) : List CD := comp equalD (if (tightD (gesD p)).length > 0 then sortD (kindEq p ++ tightD (gesD p)) else kindEq p)
/-- What the sorted and normalized conditions of a piece come to; nothing if the piece is void. -/
def settleD (p : List CD) : Option (List CD) :=
  if pairVoid (gesD p) = true then none
  else if clashD (eqsD p) = true then none
  else if impVoid (eqsD p) (restD (gesD p)) = true then none
  else some (eqsD p ++ impRest (eqsD p) (restD (gesD p)) ++ comp equalD (kindDv p))
/-- A piece: its conditions, whether it is void, and the error. -/
def pieceD (n : Nat) (ds : List CD) : List CD × Bool × Int :=
  if normVoid n ds = true then ([], true, 0)
  else match settleD (sortD (normOut n ds)) with
    | none => ([], true, 0)
    | some p => if normFits n ds = false ∨ 96 < p.length then ([], false, 3) else (p, false, 0)
instance : DecidableEq CD := fun a b => by
  obtain ⟨q, M, xs, K⟩ := a
  obtain ⟨q', M', xs', K'⟩ := b
  exact decidable_of_iff (q = q' ∧ M = M' ∧ xs = xs' ∧ K = K') (by simp)
end Go.Proofs.YtkgnlloioaobiaaGreat

/-
  wide.find where it is known what is there; rows of truth values; new lists of conditions.
-/
namespace Go.Proofs.YtkgnlloioaobiaaGreat
open Go.RowKit
set_option linter.unusedVariables false
set_option maxRecDepth 100000
set_option linter.unusedSimpArgs false

section
variable {A : Option Addr} {m c n : Nat} {els : List CEl} {B : Option Addr} {cB : Nat} {ys : List Int} {s : Int} (hs : s = 1 ∨ s = -1) (hy : ∀ y ∈ ys, -4611686018427387904 ≤ y ∧ y ≤ 4611686018427387904) (w : World) (C0 : CondsAt w A m els) (hn : ∀ e ∈ els, e.n = n) (hfew : m ≤ 100000) (hJ : IntsAt w B n ys)
    (hsort : ∀ (i j : Nat) (x y : CEl), i < j → els[i]? = some x → els[j]? = some y → ordL x.xs y.xs < 0)
include hs hy C0 hn hfew hJ hsort
omit hs hy hfew hsort in
theorem find_lens : ∀ e ∈ els, e.xs.length = (sgnL s ys).length := fun e he => by rw [(C0.ints e he).len, hn e he, sgn_len, hJ.len]
theorem find_yes {k : Nat} {x : CEl} (hk : els[k]? = some x) (hx : x.xs = sgnL s ys) : Calls Tryz.prog 147 #[.slice A m c, .slice B n cB, .int .i64 s] w fun e w' => e = .returned (.tuple #[.int .i64 k, .bool true]) ∧ Below w.heap.size w w' := by
  have hl := find_lens (s := s) w C0 hn hJ
  refine (wide_find hs hy w C0 hn hfew hJ hsort).mono ?_
  rintro e w' ⟨i, ok, rfl, hF, hb⟩
  cases ok
  · exact absurd hx (found_no hF hl hsort x (List.mem_of_getElem? hk))
  · obtain ⟨z, hz, _, hzt⟩ := found_yes hF hl
    have hik : i = k := by
      rcases Nat.lt_trichotomy i k with h | h | h
      · have := hsort i k z x h hz hk
        rw [hzt, hx, (lex_zero _ _ rfl).2 rfl] at this; omega
      · exact h
      · have := hsort k i x z h hk hz
        rw [hzt, hx, (lex_zero _ _ rfl).2 rfl] at this; omega
    rw [hik]
    exact ⟨rfl, hb⟩
theorem find_no (hx : ∀ x ∈ els, x.xs ≠ sgnL s ys) : Calls Tryz.prog 147 #[.slice A m c, .slice B n cB, .int .i64 s] w fun e w' => (∃ i : Nat, e = .returned (.tuple #[.int .i64 i, .bool false])) ∧ Below w.heap.size w w' := by
  have hl := find_lens (s := s) w C0 hn hJ
  refine (wide_find hs hy w C0 hn hfew hJ hsort).mono ?_
  rintro e w' ⟨i, ok, rfl, hF, hb⟩
  cases ok
  · exact ⟨⟨i, rfl⟩, hb⟩
  · obtain ⟨z, hz, hzm, hzt⟩ := found_yes hF hl
    exact absurd hzt (hx z hzm)
end

/-- Block g holds just the truth values bs. -/
def BRow (w : World) (g : Nat) (bs : List Bool) : Prop := w.heap[g]? = some (.cells (bs.map Value.bool).toArray 4 (0, 0))
section
variable {w w' : World} {g B : Nat} {bs : List Bool}
theorem BRow.lt (h : BRow w g bs) : g < w.heap.size := (Array.getElem?_eq_some_iff.1 h).1
theorem BRow.cell (h : BRow w g bs) {j : Nat} (hj : j < bs.length) : w.cell? ⟨g, j, none⟩ = some (.bool (bs[j]?.getD false)) := by
  rw [cell_of_row w g j _ _ (0, 0) h]; simp [hj]
theorem BRow.free (h : BRow w g bs) (j : Nat) : w.frozen? ⟨g, j, none⟩ = false := by
  unfold BRow at h; simp [World.frozen?, h]
theorem BRow.below (h : BRow w g bs) (hb : Below B w w') (hg : g < B) : BRow w' g bs := (hb.block g hg).trans h
theorem BRow.step (h : BRow w g bs) (hb : Below w.heap.size w w') : BRow w' g bs := h.below hb h.lt
theorem BRow.set (h : BRow w g bs) (j : Nat) (x : Bool) : BRow (w.setCell ⟨g, j, none⟩ (.bool x)) g (bs.set j x) := by
  unfold BRow at h ⊢
  simp only [World.setCell]
  rw [Array.getElem?_modify]
  simp [h, List.map_set]
theorem BRow.new (w : World) (bs : List Bool) : BRow (w.alloc (.cells (bs.map Value.bool).toArray 4)) w.heap.size bs := heap_alloc_new w _
end
def falses (n : Nat) : List Bool := List.replicate n false
theorem infoBool : (Tryz.prog.info? 4).map (fun i => (i.zero, i.size, i.bytes)) = some (some (.bool false), 1, 1) := by kernel_rfl
theorem make_bools (n : Nat) (hn : n ≤ 17592186044416) (w : World) :
    (Instr.makeSlice 94 (.int .i64 (n : Int)) (.int .i64 (n : Int))).run Tryz.prog w = .ok (.slice (some ⟨w.heap.size, 0, none⟩) n n) (w.alloc (.cells ((falses n).map Value.bool).toArray 4)) := by
  obtain ⟨i0, hi, hz0, hz1, hz2⟩ := info_parts infoBool
  have h := run_make (P := Tryz.prog) w 94 4 i0 _ Tryz.underlying94 hi hz0 .i64 .i64 (n : Int) (n : Int) (by omega) (by omega) (by rw [hz2]; omega) (by omega)
  rw [h, hz1]
  have e : madeCells (Value.bool false).cells (n * 1) = ((falses n).map Value.bool).toArray := by
    apply Array.ext'
    simp [madeCells, falses, Value.cells, Nat.mod_one, List.eq_replicate_iff]
  simp only [Int.toNat_natCast]
  rw [e]
end Go.Proofs.YtkgnlloioaobiaaGreat

/-
  Opposite conditions, as mathematics.
-/
namespace Go.Proofs.YtkgnlloioaobiaaGreat
open Go.RowKit
set_option linter.unusedVariables false
set_option linter.unusedSimpArgs false

/-- The coefficients are in their order, and unlike. -/
def Slopes (ds : List CD) : Prop := ∀ (i j : Nat) (a b : CD), i < j → ds[i]? = some a → ds[j]? = some b → ordL a.xs b.xs < 0
theorem slope_one {ds : List CD} (h : Slopes ds) {i j : Nat} {a b : CD} (ha : ds[i]? = some a) (hb : ds[j]? = some b) (e : a.xs = b.xs) : i = j := by
  rcases Nat.lt_trichotomy i j with h1 | h1 | h1
  · have := h i j a b h1 ha hb
    rw [e, (lex_zero _ _ rfl).2 rfl] at this; omega
  · exact h1
  · have := h j i b a h1 hb ha
    rw [e, (lex_zero _ _ rfl).2 rfl] at this; omega
theorem find_some {ds : List CD} (h : Slopes ds) {k : Nat} {e : CD} {t : List Int} (hk : ds[k]? = some e) (ht : e.xs = t) : findD ds t = some e := by
  unfold findD
  cases hf : ds.find? fun e => decide (e.xs = t) with
  | none =>
    have := List.find?_eq_none.1 hf e (List.mem_of_getElem? hk)
    exact absurd ht (by simpa using this)
  | some x =>
    have hx : x.xs = t := by simpa using List.find?_some hf
    obtain ⟨j, hj, hxj⟩ := List.getElem_of_mem (List.mem_of_find?_eq_some hf)
    have hj' : ds[j]? = some x := by rw [List.getElem?_eq_getElem hj, hxj]
    have := slope_one h hj' hk (by rw [hx, ht])
    subst this
    rw [hk] at hj'
    cases hj'
    rfl
theorem find_none {ds : List CD} {t : List Int} (h : ∀ e ∈ ds, e.xs ≠ t) : findD ds t = none := by
  unfold findD
  rw [List.find?_eq_none]
  intro x hx
  simpa using h x hx
theorem find_elim {ds : List CD} {t : List Int} {e : CD} (h : findD ds t = some e) : e.xs = t ∧ ∃ k : Nat, ds[k]? = some e := by
  refine ⟨by simpa using List.find?_some h, ?_⟩
  obtain ⟨j, hj, hxj⟩ := List.getElem_of_mem (List.mem_of_find?_eq_some h)
  exact ⟨j, by rw [List.getElem?_eq_getElem hj, hxj]⟩
theorem slack_neg {ds : List CD} {d : CD} (h : leadI d.xs < 0) : slackD ds d = none := by unfold slackD; rw [if_pos h]
theorem slack_none {ds : List CD} {d : CD} (h : ∀ e ∈ ds, e.xs ≠ sgnL (-1) d.xs) : slackD ds d = none := by
  unfold slackD
  rw [find_none h]
  split <;> rfl
theorem slack_some {ds : List CD} (hs : Slopes ds) {d e : CD} {k : Nat} (h : ¬ leadI d.xs < 0) (hk : ds[k]? = some e) (ht : e.xs = sgnL (-1) d.xs) : slackD ds d = some (d.K + e.K) := by
  unfold slackD
  rw [if_neg h, find_some hs hk ht]
  rfl
theorem pair_yes {ds : List CD} {d : CD} {k : Int} (hd : d ∈ ds) (h : slackD ds d = some k) (hk : k < 0) : pairVoid ds = true := by
  unfold pairVoid
  rw [List.any_eq_true]
  refine ⟨d, hd, ?_⟩
  rw [h]
  simpa using hk
theorem pair_no {ds : List CD} (h : ∀ j d k, j < ds.length → ds[j]? = some d → slackD ds d = some k → 0 ≤ k) : pairVoid ds = false := by
  unfold pairVoid
  rw [List.any_eq_false]
  intro d hd
  obtain ⟨j, hj, rfl⟩ := List.getElem_of_mem hd
  cases hk : slackD ds ds[j] with
  | none => simp
  | some k => simpa using h j _ k hj (List.getElem?_eq_getElem hj) hk
theorem tight_none {ds : List CD} {d : CD} (h : slackD ds d = none) : tightOne ds d = [] := by unfold tightOne; rw [h]
theorem tight_zero {ds : List CD} {d : CD} (h : slackD ds d = some 0) : tightOne ds d = [⟨1, 0, d.xs, d.K⟩] := by unfold tightOne; rw [h]; rfl
theorem tight_pos {ds : List CD} {d : CD} {k : Int} (h : slackD ds d = some k) (hk : k ≠ 0) : tightOne ds d = [] := by unfold tightOne; rw [h]; exact if_neg hk
theorem flat_snoc {α β : Type} (f : α → List β) {l : List α} {i : Nat} {d : α} (h : l[i]? = some d) : (l.take (i + 1)).flatMap f = (l.take i).flatMap f ++ f d := by
  obtain ⟨hi, hd⟩ := List.getElem?_eq_some_iff.1 h
  rw [List.take_succ_eq_append_getElem hi, List.flatMap_append, hd]
  simp
theorem filter_snoc {α : Type} (f : α → Bool) {l : List α} {i : Nat} {d : α} (h : l[i]? = some d) : (l.take (i + 1)).filter f = (l.take i).filter f ++ (if f d = true then [d] else []) := by
  obtain ⟨hi, hd⟩ := List.getElem?_eq_some_iff.1 h
  rw [List.take_succ_eq_append_getElem hi, List.filter_append, hd]
  congr 1
  by_cases hf : f d = true <;> simp [hf]

/-- Number i marks number j. -/
def Marked (ds : List CD) (i j : Nat) : Prop := ∃ d e, ds[i]? = some d ∧ ds[j]? = some e ∧ slackD ds d = some 0 ∧ (j = i ∨ e.xs = sgnL (-1) d.xs)
theorem mark_step {ds : List CD} (hs : Slopes ds) {gs : List Bool} {i k : Nat} {d e : CD} (hl : gs.length = ds.length) (hd : ds[i]? = some d) (he : ds[k]? = some e) (ht : e.xs = sgnL (-1) d.xs) (h0 : slackD ds d = some 0)
    (hg : ∀ j, j < ds.length → (gs[j]?.getD false = true ↔ ∃ i', i' < i ∧ Marked ds i' j)) :
    ∀ j, j < ds.length → (((gs.set i true).set k true)[j]?.getD false = true ↔ ∃ i', i' < i + 1 ∧ Marked ds i' j) := by
  intro j hj
  have hx : ((gs.set i true).set k true)[j]?.getD false = true ↔ (j = i ∨ j = k ∨ gs[j]?.getD false = true) := by
    rw [List.getElem?_set, List.getElem?_set]
    by_cases hjk : k = j
    · subst hjk; simp [hl, hj]
    · by_cases hji : i = j
      · subst hji; simp [hjk, hl, hj]
      · simp [hjk, hji, Ne.symm hjk, Ne.symm hji]
  rw [hx, hg j hj]
  constructor
  · rintro (rfl | rfl | ⟨i', h1, h2⟩)
    · exact ⟨j, by omega, d, d, hd, hd, h0, .inl rfl⟩
    · exact ⟨i, by omega, d, e, hd, he, h0, .inr ht⟩
    · exact ⟨i', by omega, h2⟩
  · rintro ⟨i', h1, h2⟩
    rcases Nat.lt_or_eq_of_le (Nat.le_of_lt_succ h1) with h | rfl
    · exact .inr (.inr ⟨i', h, h2⟩)
    · obtain ⟨d', e', hd', he', _, rfl | h3⟩ := h2
      · exact .inl rfl
      · rw [hd] at hd'
        cases hd'
        exact .inr (.inl (slope_one hs he' he (by rw [h3, ht])))
theorem mark_skip {ds : List CD} {gs : List Bool} {i : Nat} {d : CD} (hd : ds[i]? = some d) (h0 : slackD ds d ≠ some 0)
    (hg : ∀ j, j < ds.length → (gs[j]?.getD false = true ↔ ∃ i', i' < i ∧ Marked ds i' j)) :
    ∀ j, j < ds.length → (gs[j]?.getD false = true ↔ ∃ i', i' < i + 1 ∧ Marked ds i' j) := by
  intro j hj
  rw [hg j hj]
  constructor
  · rintro ⟨i', h1, h2⟩; exact ⟨i', by omega, h2⟩
  · rintro ⟨i', h1, h2⟩
    rcases Nat.lt_or_eq_of_le (Nat.le_of_lt_succ h1) with h | rfl
    · exact ⟨i', h, h2⟩
    · obtain ⟨d', e', hd', _, h3, _⟩ := h2
      rw [hd] at hd'
      cases hd'
      exact absurd h3 h0
theorem sgn_sgn (xs : List Int) : sgnL (-1) (sgnL (-1) xs) = xs := by
  unfold sgnL
  rw [List.map_map]
  have : (fun x : Int => -1 * x) ∘ (fun x => -1 * x) = id := by funext x; simp
  rw [this, List.map_id]
theorem lead_neg : ∀ xs : List Int, leadI (sgnL (-1) xs) = -leadI xs
  | [] => rfl
  | x :: xs => by
    have ih := lead_neg xs
    unfold sgnL at ih ⊢
    simp only [List.map_cons, leadI]
    by_cases h : x = 0
    · rw [if_pos (by omega), if_pos h]; exact ih
    · rw [if_neg (by omega), if_neg h]; omega
theorem gone_mark {ds : List CD} (hs : Slopes ds) {j : Nat} {d : CD} (hd : ds[j]? = some d) : goneD ds d = true ↔ ∃ i', i' < ds.length ∧ Marked ds i' j := by
  have hj := (List.getElem?_eq_some_iff.1 hd).1
  unfold goneD
  constructor
  · intro h
    cases hf : findD ds (sgnL (-1) d.xs) with
    | none => rw [hf] at h; cases h
    | some e =>
      rw [hf] at h
      have h0 : d.K + e.K = 0 := by simpa using h
      obtain ⟨ht, k, hk⟩ := find_elim hf
      have hkl := (List.getElem?_eq_some_iff.1 hk).1
      by_cases hl : leadI d.xs < 0
      · refine ⟨k, hkl, e, d, hk, hd, ?_, .inr (by rw [ht, sgn_sgn])⟩
        rw [slack_some hs (by rw [ht, lead_neg]; omega) hd (by rw [ht, sgn_sgn])]
        congr 1; omega
      · refine ⟨j, hj, d, d, hd, hd, ?_, .inl rfl⟩
        rw [slack_some hs hl hk ht, h0]
  · rintro ⟨i, hi, d', e', hd', he', h0, h⟩
    rw [hd] at he'
    cases he'
    unfold slackD at h0
    by_cases hl : leadI d'.xs < 0
    · rw [if_pos hl] at h0; cases h0
    · rw [if_neg hl] at h0
      cases hf : findD ds (sgnL (-1) d'.xs) with
      | none => rw [hf] at h0; cases h0
      | some e =>
        rw [hf] at h0
        have hsum : d'.K + e.K = 0 := by simpa using h0
        obtain ⟨ht, k, hk⟩ := find_elim hf
        rcases h with rfl | h
        · rw [hd] at hd'
          cases hd'
          rw [hf]
          simpa using hsum
        · have : j = k := slope_one hs hd hk (by rw [h, ht])
          subst this
          rw [hd] at hk
          cases hk
          rw [h, sgn_sgn, find_some hs hd' rfl]
          simp
          omega
end Go.Proofs.YtkgnlloioaobiaaGreat

/-
  wide.number and wide.Key.
-/
namespace Go.Proofs.YtkgnlloioaobiaaGreat
open Go.ChangeShapes Go.WideShapes Go.ChangeAt Go.RowKit
set_option linter.unusedVariables false
set_option maxRecDepth 100000
set_option linter.unusedSimpArgs false

/-- A row of bytes that a call owns. -/
def BR (N : Nat) (W : World) (u : Value) (bs : List Int) : Prop := W.ownsRow N 5 1 u bs.length (bs.map (Value.int .u8))
theorem infoByte : (Tryz.prog.info? 5).map (fun i => (i.zero, i.size, i.bytes)) = some (some (.int .u8 0), 1, 1) := by kernel_rfl
theorem BR.nil (N : Nat) (W : World) : BR N W (.slice none 0 0) [] := World.ownsRow_nil _ _ _ _
theorem BR.step {N : Nat} {W W' : World} {u : Value} {bs : List Int} (h : BR N W u bs) (hb : Below W.heap.size W W') : BR N W' u bs := by
  refine ⟨h.1, ?_⟩
  rcases h.2 with h0 | ⟨g, cap, cur, hv, hg, hc, rest⟩
  · exact .inl h0
  · exact .inr ⟨g, cap, cur, hv, hg, (hb.block g (Array.getElem?_eq_some_iff.1 hc).1).trans hc, rest⟩
theorem BR.slice {N : Nat} {W : World} {u : Value} {bs : List Int} (h : BR N W u bs) : ∃ A c, u = .slice A bs.length c := by
  rcases h.2 with ⟨rfl, h0⟩ | ⟨g, cap, cur, rfl, _⟩
  · rw [h0]; exact ⟨none, 0, rfl⟩
  · exact ⟨_, _, rfl⟩
/-- Rows of other things than bytes stay. -/
def KeepT (w w' : World) : Prop := ∀ (k : Nat) (cs : Array Value) (t : TypeId) (fz : Nat × Nat), w.heap[k]? = some (.cells cs t fz) → t ≠ 5 → w'.heap[k]? = some (.cells cs t fz)
theorem KeepT.refl (w : World) : KeepT w w := fun _ _ _ _ h _ => h
theorem KeepT.trans {w w' w'' : World} (h : KeepT w w') (h' : KeepT w' w'') : KeepT w w'' := fun k cs t fz e ht => h' k cs t fz (h k cs t fz e ht) ht
theorem KeepT.of_below {w w' : World} (hb : Below w.heap.size w w') : KeepT w w' := fun k cs t fz e _ => (hb.block k (Array.getElem?_eq_some_iff.1 e).1).trans e
theorem CBox.keep {w w' : World} {b : Nat} {q M : Int} {A : Option Addr} {n c : Nat} {K : Int} (h : CBox w b q M A n c K) (hk : KeepT w w') : CBox w' b q M A n c K := hk b _ _ _ h (by decide)
section
variable {ops : Array Oper} {o : Oper} {a : Act} {w : World} {Q : Exit → Act → World → Prop}
theorem wpList_append_byte {rest : List Oper} (hgd : o.guard = none) (s x : Operand) (t : TypeId) (ho : o.op = .call { callee := .builtin .append, args := #[s, x], argTypes := #[t, t] }) (ht : Tryz.prog.underlying t = some (.slice 5))
    {N : Nat} {u : Value} {bs : List Int} (hs : a.eval s = u) (hL : BR N w u bs) (g : Nat) (y : Int) (hx : a.eval x = .slice (some ⟨g, 0, none⟩) 1 1) (hg : w.heap[g]? = some (.cells #[.int .u8 y] 5 (0, 0))) (hm : bs.length + 1 ≤ 100000000) (hN : N ≤ w.heap.size)
    (h : ∀ u' w', BR N w' u' (bs ++ [y]) → Below N w w' ∧ KeepT w w' → wpList Tryz.prog ops Q rest (a.put o.dst u') w') : wpList Tryz.prog ops Q (o :: rest) a w := by
  obtain ⟨i0, hi0, hz, hz1, hz2⟩ := info_parts infoByte
  refine wpList_append_own _ hgd s x t ho N 5 i0 (.int .u8 0) 1 1 ht hi0 hz hz1 hz2 rfl (by decide) u bs.length (bs.map (Value.int .u8)) hs hL ⟨g, 0, none⟩ 1 1 [.int .u8 y] hx rfl (fun j v hv => ?_) (fun v hv => by rw [List.mem_singleton.1 hv]; rfl) (by unfold maxLen; omega) (by omega) hN ?_
  · match j, hv with
    | 0, hv =>
      simp at hv
      subst hv
      rw [add_plain, cell_of_row w g _ _ _ (0, 0) hg]
      rfl
    | j + 1, hv => simp at hv
  · intro v' w' hown hgr _
    refine h v' w' ?_ ⟨(Below.refl N w).grown hgr hN fun k e => by
      rcases hL.2 with ⟨hv, _⟩ | ⟨g', cap, cur, hv, hb, _⟩
      · rw [hv] at e; cases e
      · rw [hv] at e; cases e; exact hb, fun k cs t fz e ht => (hgr.block k (Array.getElem?_eq_some_iff.1 e).1 fun e' => by
      rcases hL.2 with ⟨hv, _⟩ | ⟨g', cap, cur, hv, hb, hcur, _⟩
      · rw [hv] at e'; cases e'
      · rw [hv] at e'
        cases e'
        have e9 : w.heap[g']? = some (.cells cs t fz) := e
        rw [hcur] at e9
        simp only [Option.some.injEq, Obj.cells.injEq] at e9
        exact ht e9.2.1.symm).trans e⟩
    unfold BR
    rw [List.length_append, List.map_append]
    exact hown
end

theorem op_or (x : Nat) (hx : x < 256) : bits BinOp.or IntKind.u8 (x : Int) 128 = ((128 + x % 128 : Nat) : Int) := by
  have h := or_bits ⟨x, hx⟩
  simp only at h
  show IntKind.u8.wrap (((BitVec.ofInt 8 (x : Int) ||| BitVec.ofInt 8 128).toNat : Nat) : Int) = _
  rw [h, IntWalk.u8_in _ (by omega)]
theorem op_xor_pos (x : Nat) (hx : x < 18446744073709551616) : bits BinOp.xor IntKind.u64 (x : Int) 0 = (x : Int) := by
  show IntKind.u64.wrap (((BitVec.ofInt 64 (x : Int) ^^^ BitVec.ofInt 64 0).toNat : Nat) : Int) = _
  have h : (BitVec.ofInt 64 (x : Int) ^^^ BitVec.ofInt 64 0).toNat = x := by
    simp
    omega
  rw [h, IntKind.wrap_u64]
  omega
theorem op_xor_neg (x : Nat) (hx : x < 18446744073709551616) : bits BinOp.xor IntKind.u64 (x : Int) 18446744073709551615 = ((18446744073709551615 - x : Nat) : Int) := by
  show IntKind.u64.wrap (((BitVec.ofInt 64 (x : Int) ^^^ BitVec.ofInt 64 18446744073709551615).toNat : Nat) : Int) = _
  have h : (BitVec.ofInt 64 (x : Int) ^^^ BitVec.ofInt 64 18446744073709551615).toNat = 18446744073709551615 - x := by
    have e : BitVec.ofInt 64 18446744073709551615 = BitVec.allOnes 64 := by decide
    rw [e, BitVec.xor_allOnes, BitVec.toNat_not]
    simp
    omega
  rw [h, IntKind.wrap_u64]
  omega

/-- A function's answer is a row of bytes of its own. -/
def NumRet (N : Nat) (w : World) (e : Ending) (w' : World) (out : List Int) : Prop := (∃ u', e = .returned u' ∧ BR N w' u' out) ∧ Below N w w' ∧ KeepT w w'

set_option maxHeartbeats 4000000 in
theorem wide_number {N : Nat} {u : Value} {bs : List Int} (n : Int) (hn : -2305843009213693952 ≤ n ∧ n ≤ 2305843009213693952) (w : World) (hL : BR N w u bs) (hlen : bs.length ≤ 10000000) (hN : N ≤ w.heap.size) :
    Calls Tryz.prog 125 #[u, .int .i64 n] w fun e w' => NumRet N w e w' (bs ++ numB (zz n)) := by
  by_cases h0 : 0 ≤ n
  · obtain ⟨k, rfl⟩ : ∃ k : Nat, n = k := ⟨n.toNat, by omega⟩
    have hx0 := op_xor_pos (2 * k) (by omega)
    have hd : (k : Int) / 9223372036854775808 = 0 := by omega
    have hz : zz (k : Int) = 2 * k := by unfold zz; rw [if_pos h0]; omega
    have hx : bits BinOp.xor IntKind.u64 ((k : Int) * 2) ((k : Int) / 9223372036854775808) = ((2 * k : Nat) : Int) := by rw [hd, show (k : Int) * 2 = ((2 * k : Nat) : Int) by omega]; exact hx0
    rw [hz]
    obtain ⟨q0, hq⟩ : ∃ q0, 2 * k = q0 := ⟨_, rfl⟩
    rw [hq] at hx ⊢
    have hq0 : q0 < 18446744073709551616 := by omega
    clear hx0 hd hz hq h0
    go_enter Tryz.func125, Tryz.ntmps125
    go_wp2
    clear hx hn
    go_loopw [0, 5] (fun b v wr => ∃ (q : Nat) (pre : List Int), v = .int .u64 q ∧ BR N wr b (bs ++ pre) ∧ pre ++ numB q = numB q0 ∧ q < 18446744073709551616 ∧ Below N w wr ∧ KeepT w wr) (fun _ v _ => (intOf v).toNat)
    case atStart => exact ⟨q0, [], rfl, by rw [List.append_nil]; exact hL, rfl, hq0, Below.refl _ _, KeepT.refl _⟩
    clear hL
    case round =>
      obtain ⟨q, pre, rfl, hL, hpre, hq64, hbr, hkr⟩ := hrel
      have HPR := Lib.hid hpre
      have hpl : pre.length ≤ 10 := by
        have h := congrArg List.length hpre
        have h2 := num_len 10 q0 (by omega) (by omega)
        rw [List.length_append] at h
        omega
      have hbl : (bs ++ pre).length + 1 ≤ 100000000 := by rw [List.length_append]; omega
      have hNr := Nat.le_trans hN hbr.size
      clear hpre hpl
      obtain ⟨A9, c9, hu⟩ := hL.slice
      by_cases hlt : q < 128
      · have HE := Lib.hid (show bs ++ pre ++ [(q : Int)] = bs ++ numB q0 by rw [← HPR.out, num_small hlt, List.append_assoc])
        have hq1 : ¬ ((128 : Int) ≤ (q : Int)) := by omega
        have hq2 : (q : Int) < 128 := by omega
        have hb : IntKind.u8.wrap (q : Int) = (q : Int) := IntWalk.u8_in _ (by omega)
        have b8 := below_alloc wr (.cells #[.int .u8 (q : Int)] 5)
        have L8 := hL.step b8
        have G8 := heap_alloc_new wr (.cells #[.int .u8 (q : Int)] 5)
        have hN8 := Nat.le_trans hNr b8.size
        have hbr8 := hbr.trans (b8.mono hNr)
        have hkr8 := hkr.trans (KeepT.of_below b8)
        clear hL hbr b8 hu
        go_wp2_with (at_builtin; refine wpList_append_byte rfl _ _ 136 rfl rfl rfl L8 _ (q : Int) rfl G8 hbl hN8 ?_; intro u9 w9 L9 hb9)
        go_ret
        exact ⟨⟨_, rfl, by rw [← HE.out]; exact L9⟩, hbr8.trans hb9.1, hkr8.trans hb9.2⟩
      · have hq1 : ((128 : Int) ≤ (q : Int)) := by omega
        have hb : IntKind.u8.wrap (q : Int) = ((q % 256 : Nat) : Int) := by rw [IntKind.wrap_u8]; omega
        have ho : bits BinOp.or IntKind.u8 ((q % 256 : Nat) : Int) 128 = ((128 + q % 128 : Nat) : Int) := by rw [op_or (q % 256) (by omega)]; omega
        obtain ⟨r, hr⟩ : ∃ r : Nat, q % 256 = r := ⟨_, rfl⟩
        obtain ⟨x, hx9⟩ : ∃ x : Nat, 128 + q % 128 = x := ⟨_, rfl⟩
        rw [hr] at hb ho
        rw [hx9] at ho
        have HE := Lib.hid (show pre ++ [(x : Int)] ++ numB (q / 128) = numB q0 by rw [← HPR.out, num_great hlt, hx9, List.append_assoc]; rfl)
        have b8 := below_alloc wr (.cells #[.int .u8 (x : Int)] 5)
        have L8 := hL.step b8
        have G8 := heap_alloc_new wr (.cells #[.int .u8 (x : Int)] 5)
        have hN8 := Nat.le_trans hNr b8.size
        have hbr8 := hbr.trans (b8.mono hNr)
        have hkr8 := hkr.trans (KeepT.of_below b8)
        have HQ := Lib.hid (And.intro hlt hq64)
        clear hL hbr b8 hr hx9 hlt hq64 hu
        go_wp2_with (at_builtin; refine wpList_append_byte rfl _ _ 136 rfl rfl rfl L8 _ (x : Int) rfl G8 hbl hN8 ?_; intro u9 w9 L9 hb9)
        go_roundw
        case rel => exact ⟨q / 128, pre ++ [(x : Int)], by go_num, by rw [← List.append_assoc]; exact L9, HE.out, by have := HQ.out; omega, hbr8.trans hb9.1, hkr8.trans hb9.2⟩
        case measure => have := HQ.out; simp [intOf]; omega
  · obtain ⟨k, rfl⟩ : ∃ k : Nat, n = -(k : Int) := ⟨(-n).toNat, by omega⟩
    have hk : 0 < k := by omega
    have hx0 := op_xor_neg (18446744073709551616 - 2 * k) (by omega)
    have hd : IntKind.u64.wrap (-(k : Int) / 9223372036854775808) = 18446744073709551615 := by rw [IntKind.wrap_u64]; omega
    have hw : IntKind.u64.wrap (IntKind.u64.wrap (-(k : Int)) * 2) = ((18446744073709551616 - 2 * k : Nat) : Int) := by rw [IntKind.wrap_u64, IntKind.wrap_u64]; omega
    have hz : zz (-(k : Int)) = 2 * k - 1 := by unfold zz; rw [if_neg h0]; omega
    have hx : bits BinOp.xor IntKind.u64 (IntKind.u64.wrap (IntKind.u64.wrap (-(k : Int)) * 2)) (IntKind.u64.wrap (-(k : Int) / 9223372036854775808)) = ((2 * k - 1 : Nat) : Int) := by
      rw [hd, hw, hx0]
      omega
    rw [hz]
    obtain ⟨q0, hq⟩ : ∃ q0, 2 * k - 1 = q0 := ⟨_, rfl⟩
    rw [hq] at hx ⊢
    have hq0 : q0 < 18446744073709551616 := by omega
    clear hx0 hd hw hz hq h0 hk
    go_enter Tryz.func125, Tryz.ntmps125
    go_wp2
    clear hx hn
    go_loopw [0, 5] (fun b v wr => ∃ (q : Nat) (pre : List Int), v = .int .u64 q ∧ BR N wr b (bs ++ pre) ∧ pre ++ numB q = numB q0 ∧ q < 18446744073709551616 ∧ Below N w wr ∧ KeepT w wr) (fun _ v _ => (intOf v).toNat)
    case atStart => exact ⟨q0, [], rfl, by rw [List.append_nil]; exact hL, rfl, hq0, Below.refl _ _, KeepT.refl _⟩
    clear hL
    case round =>
      obtain ⟨q, pre, rfl, hL, hpre, hq64, hbr, hkr⟩ := hrel
      have HPR := Lib.hid hpre
      have hpl : pre.length ≤ 10 := by
        have h := congrArg List.length hpre
        have h2 := num_len 10 q0 (by omega) (by omega)
        rw [List.length_append] at h
        omega
      have hbl : (bs ++ pre).length + 1 ≤ 100000000 := by rw [List.length_append]; omega
      have hNr := Nat.le_trans hN hbr.size
      clear hpre hpl
      obtain ⟨A9, c9, hu⟩ := hL.slice
      by_cases hlt : q < 128
      · have HE := Lib.hid (show bs ++ pre ++ [(q : Int)] = bs ++ numB q0 by rw [← HPR.out, num_small hlt, List.append_assoc])
        have hq1 : ¬ ((128 : Int) ≤ (q : Int)) := by omega
        have hq2 : (q : Int) < 128 := by omega
        have hb : IntKind.u8.wrap (q : Int) = (q : Int) := IntWalk.u8_in _ (by omega)
        have b8 := below_alloc wr (.cells #[.int .u8 (q : Int)] 5)
        have L8 := hL.step b8
        have G8 := heap_alloc_new wr (.cells #[.int .u8 (q : Int)] 5)
        have hN8 := Nat.le_trans hNr b8.size
        have hbr8 := hbr.trans (b8.mono hNr)
        have hkr8 := hkr.trans (KeepT.of_below b8)
        clear hL hbr b8 hu
        go_wp2_with (at_builtin; refine wpList_append_byte rfl _ _ 136 rfl rfl rfl L8 _ (q : Int) rfl G8 hbl hN8 ?_; intro u9 w9 L9 hb9)
        go_ret
        exact ⟨⟨_, rfl, by rw [← HE.out]; exact L9⟩, hbr8.trans hb9.1, hkr8.trans hb9.2⟩
      · have hq1 : ((128 : Int) ≤ (q : Int)) := by omega
        have hb : IntKind.u8.wrap (q : Int) = ((q % 256 : Nat) : Int) := by rw [IntKind.wrap_u8]; omega
        have ho : bits BinOp.or IntKind.u8 ((q % 256 : Nat) : Int) 128 = ((128 + q % 128 : Nat) : Int) := by rw [op_or (q % 256) (by omega)]; omega
        obtain ⟨r, hr⟩ : ∃ r : Nat, q % 256 = r := ⟨_, rfl⟩
        obtain ⟨x, hx9⟩ : ∃ x : Nat, 128 + q % 128 = x := ⟨_, rfl⟩
        rw [hr] at hb ho
        rw [hx9] at ho
        have HE := Lib.hid (show pre ++ [(x : Int)] ++ numB (q / 128) = numB q0 by rw [← HPR.out, num_great hlt, hx9, List.append_assoc]; rfl)
        have b8 := below_alloc wr (.cells #[.int .u8 (x : Int)] 5)
        have L8 := hL.step b8
        have G8 := heap_alloc_new wr (.cells #[.int .u8 (x : Int)] 5)
        have hN8 := Nat.le_trans hNr b8.size
        have hbr8 := hbr.trans (b8.mono hNr)
        have hkr8 := hkr.trans (KeepT.of_below b8)
        have HQ := Lib.hid (And.intro hlt hq64)
        clear hL hbr b8 hr hx9 hlt hq64 hu
        go_wp2_with (at_builtin; refine wpList_append_byte rfl _ _ 136 rfl rfl rfl L8 _ (x : Int) rfl G8 hbl hN8 ?_; intro u9 w9 L9 hb9)
        go_roundw
        case rel => exact ⟨q / 128, pre ++ [(x : Int)], by go_num, by rw [← List.append_assoc]; exact L9, HE.out, by have := HQ.out; omega, hbr8.trans hb9.1, hkr8.trans hb9.2⟩
        case measure => have := HQ.out; simp [intOf]; omega

/-- The key as a string. -/
def keyU (l : List CD) : List UInt8 := (keyB l).map fun x => UInt8.ofNat x.toNat
def keyS (l : List CD) : ByteArray := ⟨(keyU l).toArray⟩
/-- A condition whose numbers are not too great for a key. -/
def KeyOk (n : Nat) (e : CEl) : Prop := (e.q = 0 ∨ e.q = 1 ∨ e.q = 2) ∧ e.n = n ∧ (-2305843009213693952 ≤ e.M ∧ e.M ≤ 2305843009213693952) ∧ (-2305843009213693952 ≤ e.K ∧ e.K ≤ 2305843009213693952) ∧ ∀ x ∈ e.xs, -2305843009213693952 ≤ x ∧ x ≤ 2305843009213693952
theorem zz_le {x : Int} (h : -2305843009213693952 ≤ x ∧ x ≤ 2305843009213693952) : zz x < 18446744073709551616 := by unfold zz; split <;> omega
theorem num_ten {x : Int} (h : -2305843009213693952 ≤ x ∧ x ≤ 2305843009213693952) : (numB (zz x)).length ≤ 10 := num_len 10 _ (by have := zz_le h; omega) (by omega)
theorem nums_len : ∀ xs : List Int, (∀ x ∈ xs, -2305843009213693952 ≤ x ∧ x ≤ 2305843009213693952) → (numsB xs).length ≤ xs.length * 10
  | [], _ => by simp [numsB]
  | x :: xs, h => by
    have h1 := num_ten (h x (List.mem_cons_self ..))
    have h2 := nums_len xs fun y hy => h y (List.mem_cons_of_mem _ hy)
    simp only [numsB, List.flatMap_cons, List.length_append, List.length_cons] at h2 ⊢
    omega
theorem keys_len {n : Nat} (hn : n ≤ 100) : ∀ l : List CEl, (∀ e ∈ l, KeyOk n e ∧ e.xs.length = n) → (keyB (l.map CEl.d)).length ≤ l.length * 1100
  | [], _ => by simp [keyB]
  | e :: l, h => by
    obtain ⟨⟨h1, h2, h3, h4, h5⟩, h6⟩ := h e (List.mem_cons_self ..)
    have h7 := keys_len hn l fun y hy => h y (List.mem_cons_of_mem _ hy)
    have h8 := num_ten h3
    have h9 := num_ten h4
    have h10 := nums_len e.xs h5
    simp only [keyB, List.map_cons, List.flatMap_cons, List.length_append, List.length_cons, keyC, CEl.d] at h7 ⊢
    omega
theorem key_byte (l : List CD) (hq : ∀ d ∈ l, d.q = 0 ∨ d.q = 1 ∨ d.q = 2) : ∀ x ∈ keyB l, 0 ≤ x ∧ x ≤ 255 := by
  intro x hx
  unfold keyB at hx
  obtain ⟨d, hd, hx⟩ := List.mem_flatMap.1 hx
  unfold keyC at hx
  rcases List.mem_cons.1 hx with rfl | hx
  · have := hq d hd; omega
  · rcases List.mem_append.1 hx with hx | hx
    · exact num_byte _ x hx
    · rcases List.mem_append.1 hx with hx | hx
      · unfold numsB at hx
        obtain ⟨y, _, hx⟩ := List.mem_flatMap.1 hx
        exact num_byte _ x hx
      · exact num_byte _ x hx
theorem string_of {N : Nat} {W : World} {A : Option Addr} {m c : Nat} {bs : List Int} (h : BR N W (.slice A m c) bs) (hb : ∀ x ∈ bs, 0 ≤ x ∧ x ≤ 255) :
    (convert 136 9 (.slice A m c)).run Tryz.prog W = .ok (.string ⟨(bs.map fun x => UInt8.ofNat x.toNat).toArray⟩) W := by
  have hm : m = bs.length := by obtain ⟨A', c', e⟩ := h.slice; cases e; rfl
  subst hm
  rcases h.2 with ⟨hv, h0⟩ | ⟨g, cap, cur, hv, hg, hc, h1, h2, h3, h4⟩
  · obtain rfl : bs = [] := List.length_eq_zero_iff.1 h0
    simp only [Value.slice.injEq] at hv
    obtain ⟨rfl, _, rfl⟩ := hv
    exact Eq.trans (run_convert_bytes_string (P := Tryz.prog) W 136 9 5 none 0 0 Tryz.underlying136 Tryz.underlying5 Tryz.underlying9) rfl
  · cases hv
    have := run_convert_bytes_back (P := Tryz.prog) W 136 9 5 ⟨g, 0, none⟩ c (bs.map fun x => UInt8.ofNat x.toNat) Tryz.underlying136 Tryz.underlying5 Tryz.underlying9 (fun j hj => by
      rw [List.length_map] at hj
      rw [add_plain, Nat.zero_add]
      have hcell := World.ownsRow.cellAt h j (by omega)
      rw [hcell]
      have hbj := hb _ (List.getElem_mem hj)
      simp [hj]
      omega)
    rw [List.length_map] at this
    exact this
end Go.Proofs.YtkgnlloioaobiaaGreat

/-
  wide.Key.
-/
namespace Go.Proofs.YtkgnlloioaobiaaGreat
open Go.ChangeShapes Go.WideShapes Go.ChangeAt Go.RowKit
set_option linter.unusedVariables false
set_option maxRecDepth 100000
set_option linter.unusedSimpArgs false

theorem keyB_snoc {ds : List CD} {i : Nat} {d : CD} (h : ds[i]? = some d) : keyB (ds.take (i + 1)) = keyB (ds.take i) ++ keyC d := flat_snoc keyC h
theorem numsB_snoc {xs : List Int} {j : Nat} (h : j < xs.length) : numsB (xs.take (j + 1)) = numsB (xs.take j) ++ numB (zz (xs[j]?.getD 0)) := by
  have e : xs[j]? = some (xs[j]?.getD 0) := by simp [h]
  exact flat_snoc (fun x => numB (zz x)) e


set_option maxHeartbeats 8000000 in
theorem wide_key {n : Nat} {A : Option Addr} {m c : Nat} {els : List CEl} (w : World) (C0 : CondsAt w A m els) (hok : ∀ e ∈ els, KeyOk n e) (hm : m ≤ 1000) (hn : n ≤ 100) :
    Calls Tryz.prog 98 #[.slice A m c] w fun e w' => e = .returned (.string (keyS (els.map CEl.d))) ∧ Below w.heap.size w w' := by
  have HL := Lib.hid C0.len
  have HK := Lib.hid hok
  obtain ⟨ds, hds⟩ : ∃ ds, els.map CEl.d = ds := ⟨_, rfl⟩
  rw [hds]
  have HD := Lib.hid hds
  have HDL := Lib.hid (show ds.length = m by rw [← hds, List.length_map]; exact C0.len)
  have HB := Lib.hid (show ∀ i, (keyB (ds.take i)).length ≤ 1100000 from fun i => by
    rw [← hds, ← List.map_take]
    have h := keys_len hn (els.take i) (fun e he => ⟨hok e (List.mem_of_mem_take he), by rw [(C0.ints e (List.mem_of_mem_take he)).len]; exact (hok e (List.mem_of_mem_take he)).2.1⟩)
    have h2 := List.length_take_le i els
    have h3 := C0.len
    have h4 : (els.take i).length * 1100 ≤ 1000 * 1100 := Nat.mul_le_mul_right _ (by rw [List.length_take]; omega)
    omega)
  have HQB := Lib.hid (show ∀ x ∈ keyB ds, 0 ≤ x ∧ x ≤ 255 from key_byte ds (fun d hd => by rw [← hds] at hd; obtain ⟨e, he, rfl⟩ := List.mem_map.1 hd; exact (hok e he).1))
  clear hok hds
  go_enter Tryz.func98, Tryz.ntmps98
  go_wp2
  go_loopw [3, 10] (fun b v wr => ∃ i : Nat, i ≤ m ∧ v = .int .i64 i ∧ BR w.heap.size wr b (keyB (ds.take i)) ∧ Below w.heap.size w wr) (fun _ v _ => m - (intOf v).toNat)
  case atStart => exact ⟨0, Nat.zero_le _, rfl, BR.nil _ _, Below.refl _ _⟩
  case round =>
    obtain ⟨i, hi, rfl, hL, hbr⟩ := hrel
    by_cases hlt : i < m
    · obtain ⟨b, off, e, rfl, hblt, hej, hmem, hcs, hin⟩ := (C0.step hbr).at hlt
      obtain ⟨x0, x1, x2, x3⟩ := hcs
      obtain ⟨ok0, ok1, ok2, ok3, ok4⟩ := HK.out e hmem
      obtain ⟨eq, eM, eA, en, ec, eK, exs⟩ := e
      simp only at x0 x1 x2 x3 hin ok0 ok1 ok2 ok3 ok4
      subst ok1
      have HJ := Lib.hid (show ds[i]? = some ⟨eq, eM, exs, eK⟩ by rw [← HD.out, List.getElem?_map, hej]; rfl)
      have HX := Lib.hid ok4
      have hq1 : (i : Int) < m := by omega
      have hwq : IntKind.u8.wrap eq = eq := IntWalk.u8_in _ (by omega)
      have hbl := HB.out i
      have HNL := Lib.hid (nums_len exs ok4)
      have hxl := hin.len
      have b1 := below_alloc wr (.cells #[.int .i64 eq, .int .i64 eM, .slice eA en ec, .int .i64 eK] 56)
      have b2 := below_alloc (wr.alloc (.cells #[.int .i64 eq, .int .i64 eM, .slice eA en ec, .int .i64 eK] 56)) (.cells #[.int .u8 eq] 5)
      have X2 := (CBox.new wr eq eM eA en ec eK).step b2
      have hbr2 := (hbr.trans (b1.mono hbr.size)).trans (b2.mono (Nat.le_trans hbr.size b1.size))
      have L2 := (hL.step b1).step b2
      have G2 := heap_alloc_new (wr.alloc (.cells #[.int .i64 eq, .int .i64 eM, .slice eA en ec, .int .i64 eK] 56)) (.cells #[.int .u8 eq] 5)
      rw [World.size_alloc] at G2
      have I2 := (hin.step b1).step b2
      have d0 := (CBox.new wr eq eM eA en ec eK).c0
      have hN2 := hbr2.size
      generalize hcur : keyB (ds.take i) = cur at *
      have HCU := Lib.hid hcur
      have hcl : cur.length + 1 ≤ 100000000 := by omega
      obtain ⟨A9, c9, hu⟩ := hL.slice
      subst hu
      have HI := Lib.hid (C0.ints _ hmem)
      have hN3 := fun (W : World) (h : Below w.heap.size w W) => h.size
      have hql : (cur ++ [eq]).length ≤ 2000000 := by rw [List.length_append]; simp; omega
      have hM10 := num_ten ok2
      have hK10 := num_ten ok3
      clear hcur hej hmem hin ok4 hL hbr b1 b2
      go_wp2_with (first
        | (at_builtin; refine wpList_append_byte rfl _ _ 136 rfl rfl rfl L2 _ eq rfl G2 hcl hN2 ?_; intro u3 w3 L3 hb3; have hbr3 := hbr2.trans hb3.1; have X3 := X2.keep hb3.2; have e1 := X3.c1)
        | (go_at_call 125; (with_reducible (show Calls _ _ #[_, .int .i64 eM] _ _)); refine (wide_number eM ok2 _ L3 (Nat.le_trans hql (by decide)) hbr3.size).mono ?_; rintro e w4 ⟨⟨u4, rfl, L4⟩, hb4, hk4⟩; have hbr4 := hbr3.trans hb4; have X4 := X3.keep hk4; have e2 := X4.c2))
      obtain ⟨pre, hpre⟩ : ∃ pre, cur ++ [eq] ++ numB (zz eM) = pre := ⟨_, rfl⟩
      rw [hpre] at L4
      have HPRE := Lib.hid hpre
      have hprl : pre.length ≤ 2000010 := by rw [← hpre, List.length_append]; omega
      clear hpre L3 X3 e1 X2 hbr3 hb4 hk4 hb3
      have hxl2 := HI.out.len
      go_loopw [3, 28] (fun b v wx => ∃ j : Nat, j ≤ en ∧ v = .int .i64 j ∧ BR w.heap.size wx b (pre ++ numsB (exs.take j)) ∧ Below w.heap.size w wx ∧ KeepT w4 wx) (fun _ v _ => en - (intOf v).toNat)
      case atStart => exact ⟨0, Nat.zero_le _, rfl, by simpa [numsB] using L4, hbr4, KeepT.refl _⟩
      clear L4 hbr4
      case round =>
        obtain ⟨j, hj, rfl, hL, hbx, hkx⟩ := hrel
        have I5 := HI.out.step hbx
        have hjl : (numsB (exs.take j)).length ≤ 1000 := by
          have h := nums_len (exs.take j) (fun x hx => HX.out x (List.mem_of_mem_take hx))
          have h2 := List.length_take_le j exs
          omega
        by_cases hlt2 : j < en
        · obtain ⟨b5, off5, hA5, hlt5, hc5⟩ := I5.cells (by omega)
          subst hA5
          have hcell := hc5 j hlt2
          have hxj := HX.out _ (I5.mem hlt2)
          have HS := Lib.hid (numsB_snoc (xs := exs) (j := j) (by omega))
          have hq2 : (j : Int) < en := by omega
          have hpl2 : (pre ++ numsB (exs.take j)).length ≤ 10000000 := by rw [List.length_append]; omega
          have hNx := hbx.size
          clear hc5
          generalize exs[j]?.getD 0 = y at *
          go_wp2_with (go_at_call 125; refine (wide_number y hxj _ hL hpl2 hNx).mono ?_; rintro e w6 ⟨⟨u6, rfl, L6⟩, hb6, hk6⟩)
          go_roundw
          case rel => exact ⟨j + 1, by omega, by go_num, by rw [HS.out, ← List.append_assoc]; exact L6, hbx.trans hb6, hkx.trans hk6⟩
          case measure => simp [intOf]; omega
        · obtain rfl : j = en := by omega
          have hge : ¬ ((j : Int) < j) := by omega
          have X5 := X4.keep hkx
          have e3 := X5.c3
          have hall : exs.take j = exs := List.take_of_length_le (by omega)
          rw [hall] at hL hjl
          have HE := Lib.hid (show pre ++ numsB exs ++ numB (zz eK) = keyB (ds.take (i + 1)) by
            rw [keyB_snoc HJ.out, HCU.out, ← HPRE.out]
            simp [keyC])
          have hpl2 : (pre ++ numsB exs).length ≤ 10000000 := by rw [List.length_append]; omega
          have hNx := hbx.size
          clear hall
          go_wp2_with (go_at_call 125; refine (wide_number eK ok3 _ hL hpl2 hNx).mono ?_; rintro e w6 ⟨⟨u6, rfl, L6⟩, hb6, hk6⟩)
          go_roundw
          case rel => exact ⟨i + 1, by omega, by go_num, by rw [← HE.out]; exact L6, hbx.trans hb6⟩
          case measure => simp [intOf]; omega
    · obtain rfl : i = m := by omega
      have hall : ds.take i = ds := List.take_of_length_le (by rw [HDL.out]; exact Nat.le_refl _)
      rw [hall] at hL
      obtain ⟨A9, c9, hu⟩ := hL.slice
      subst hu
      have hst := string_of hL HQB.out
      have hge : ¬ ((i : Int) < i) := by omega
      generalize hkl : (keyB ds).length = kl at *
      clear hall hkl
      go_wp2
      go_ret
      exact ⟨rfl, hbr⟩
end Go.Proofs.YtkgnlloioaobiaaGreat

/-
  Arguments that are expressions, with what their lists' capacities are.
-/
namespace Go.Proofs.YtkgnlloioaobiaaGreat
open Go.ChangeShapes Go.WideShapes Go.ChangeAt Go.RowKit Go.Joins
set_option linter.unusedVariables false
set_option maxRecDepth 100000

/-- What the capacity of a given list is. -/
def CapOf (A : Option Addr) (n c : Nat) : Prop := (A = none → n = 0 ∧ c = 0) ∧ n ≤ c ∧ c ≤ 17592186044416

theorem ints_coreC {H : Type} {enc : TypeId × Value → H} {P : Program} {w : World} {t e : TypeId} {v : Value} {y : DataW H × List MemPlace} {fuel : Nat}
    (ht : P.underlying t = some (.slice e)) (he : P.underlying e = some (.int .i64)) (hc : P.cellsOf e = 1) (hbytes : P.bytesOf e = 8)
    (hlt : ∀ x ∈ y.2, x.block < w.heap.size) (hsz : (y.1.weights P t).all (· ≤ reachBytes) = true)
    (hf : DataW.trod enc P w 0 (fun _ => true) true fuel t [v] = some y) : ∃ A n c xs, v = .slice A n c ∧ Ints w w.heap.size A n xs ∧ CapOf A n c := by
  rcases open_ints ht he hc hf with ⟨hcs, hx⟩ | ⟨a, len', cap', zs, hcs, _, hl, hm, hz, hx, hcell, hwz⟩
  · simp only [List.cons.injEq, and_true] at hcs
    exact ⟨none, 0, 0, [], hcs, ⟨rfl, by omega, fun x hx => by simp at hx, fun h => absurd h (by omega)⟩, fun _ => ⟨rfl, rfl⟩, Nat.le_refl _, by omega⟩
  · simp only [List.cons.injEq, and_true] at hcs
    subst hx
    simp only [if_true] at hz
    have hreach : (zs.length) * 8 ≤ reachBytes := by
      have := List.all_eq_true.1 hsz
      simp only [DataW.weights, ht] at this
      have h0 := this _ List.mem_cons_self
      rw [hbytes] at h0
      simp only [lits, List.length_map, List.length_take, List.length_drop, decide_eq_true_eq] at h0
      have : min len' zs.length + (zs.length - len') = zs.length := by omega
      rw [this] at h0
      exact h0
    have hn : len' ≤ 17592186044416 := by unfold reachBytes at hreach; omega
    refine ⟨some a, len', cap', zs.take len', hcs, ⟨by rw [List.length_take]; omega, hn, fun x hx => bounds_i64 (hwz x (List.mem_of_mem_take hx)), fun h0 => ?_⟩, ⟨fun h => (by cases h), hl, by unfold reachBytes at hreach; omega⟩⟩
    obtain ⟨b, off, spot⟩ := a
    have hspot : spot = none := by simpa [Addr.add] using World.cell?_spot (hcell 0 (by omega))
    subst hspot
    refine ⟨b, off, rfl, hlt (.cell b off) (MemPlace.mem_row.2 ⟨0, by omega, by simp⟩), fun j hj => ?_⟩
    rw [← add_plain, hcell j (by omega)]
    congr 2
    simp [List.getD, hj]

theorem lin_ofC {H : Type} {enc : TypeId × Value → H} {w : World} {r : Reach} {b0 : Nat} {v : Value} {d : DataW H} {p : List MemPlace}
    (hok : Value.okWide Tryz.prog w r b0 54 v) (hlt : ∀ x ∈ p, x.block < w.heap.size) (hsz : (d.weights Tryz.prog 54).all (· ≤ reachBytes) = true)
    (h : DataW.Trod enc Tryz.prog w 0 (fun _ => true) true 54 v d p) : ∃ A n c K xs, v = .agg #[.slice A n c, .int .i64 K] ∧ IntsAt w A n xs ∧ CapOf A n c ∧ -9223372036854775808 ≤ K ∧ K ≤ 9223372036854775807 := by
  obtain ⟨v0, v1, y0, y1, n, rfl, rfl, rfl, h0, h1⟩ := open_agg2 Tryz.underlying54 (by kernel_rfl) (by kernel_rfl) hok h
  simp only [DataW.weights, Tryz.underlying54, DataW.weightsEach, List.map_cons, List.all_append, Bool.and_eq_true] at hsz
  obtain ⟨A, m, c, xs, rfl, hI, hC⟩ := ints_coreC Tryz.underlying38 Tryz.underlying3 (by kernel_rfl) (by kernel_rfl) (fun x hx => hlt x (List.mem_append_left _ hx)) hsz.1 h0
  obtain ⟨K, hv, hK⟩ := DataW.trod_int Tryz.underlying3 h1
  simp only [List.cons.injEq, and_true] at hv
  subst hv
  exact ⟨A, m, c, K, xs, rfl, hI, hC, bounds_i64 hK.2⟩

/-- The same, and where the list lies, if it is not nil. -/
def CapAt (N : Nat) (A : Option Addr) (n c : Nat) : Prop := CapOf A n c ∧ ∀ ad, A = some ad → ad.spot = none ∧ ad.block < N
theorem CapAt.mono {N N' : Nat} {A : Option Addr} {n c : Nat} (h : CapAt N A n c) (hN : N ≤ N') : CapAt N' A n c := ⟨h.1, fun ad e => ⟨(h.2 ad e).1, Nat.lt_of_lt_of_le (h.2 ad e).2 hN⟩⟩

theorem lin_ofD {H : Type} {enc : TypeId × Value → H} {w : World} {r : Reach} {b0 : Nat} {v : Value} {d : DataW H} {p : List MemPlace}
    (hok : Value.okWide Tryz.prog w r b0 54 v) (hlt : ∀ x ∈ p, x.block < w.heap.size) (hsz : (d.weights Tryz.prog 54).all (· ≤ reachBytes) = true)
    (h : DataW.Trod enc Tryz.prog w 0 (fun _ => true) true 54 v d p) : ∃ A n c K xs, v = .agg #[.slice A n c, .int .i64 K] ∧ IntsAt w A n xs ∧ CapAt w.heap.size A n c ∧ -9223372036854775808 ≤ K ∧ K ≤ 9223372036854775807 := by
  obtain ⟨A, n, c, K, xs, rfl, hI, hC, hK⟩ := lin_ofC hok hlt hsz h
  refine ⟨A, n, c, K, xs, rfl, hI, ⟨hC, fun ad e => ?_⟩, hK⟩
  subst e
  have hok2 : ∃ cs, Value.agg #[.slice (some ad) n c, .int .i64 K] = .agg cs ∧ cs.size = Tryz.prog.cellsOf 54 ∧ Row.okWide Tryz.prog w r b0 54 cs := by
    have h2 := hok
    unfold Value.okWide at h2
    rw [Tryz.underlying54] at h2
    exact h2
  obtain ⟨cs, e, _, ts, hts, _, hall⟩ := hok2
  cases e
  have ht : Tryz.prog.cellTypes Tryz.prog.depth 54 = some [38, 3] := by kernel_rfl
  rw [ht] at hts
  cases hts
  obtain ⟨u, hu, hc⟩ := hall 0 _ rfl
  cases hu
  unfold Cell.okWide at hc
  rw [Tryz.underlying38] at hc
  have hc : Cell.ok Tryz.prog w r b0 38 (.slice (some ad) n c) := hc
  unfold Cell.ok at hc
  rw [Tryz.underlying38] at hc
  obtain ⟨_, _, _, hs, row, cells, hsh, _⟩ := hc
  refine ⟨hs, ?_⟩
  rcases Nat.lt_or_ge ad.block w.heap.size with hlt' | hge
  · exact hlt'
  · exfalso
    unfold World.shape? at hsh
    rw [Array.getElem?_eq_none hge] at hsh
    cases hsh

theorem ints_ofD {H : Type} {enc : TypeId × Value → H} {w : World} {r : Reach} {b0 : Nat} {v : Value} {d : DataW H} {p : List MemPlace}
    (hok : Value.okWide Tryz.prog w r b0 38 v) (hlt : ∀ x ∈ p, x.block < w.heap.size) (hsz : (d.weights Tryz.prog 38).all (· ≤ reachBytes) = true)
    (h : DataW.Trod enc Tryz.prog w 0 (fun _ => true) true 38 v d p) : ∃ A n c xs, v = .slice A n c ∧ IntsAt w A n xs ∧ CapAt w.heap.size A n c := by
  obtain ⟨a0, len0, cap0, rfl⟩ := okWide_slice Tryz.underlying38 hok
  obtain ⟨fuel, hf⟩ := h
  obtain ⟨A, n, c, xs, e0, hI, hC⟩ := ints_coreC (y := (d, p)) (v := .slice a0 len0 cap0) Tryz.underlying38 Tryz.underlying3 (by kernel_rfl) (by kernel_rfl) hlt hsz hf
  refine ⟨A, n, c, xs, e0, hI, hC, fun ad e => ?_⟩
  subst e
  rw [e0] at hok
  unfold Value.okWide at hok
  rw [Tryz.underlying38] at hok
  have hok : Cell.okWide Tryz.prog w r b0 38 (.slice (some ad) n c) := hok
  unfold Cell.okWide at hok
  rw [Tryz.underlying38] at hok
  have hok : Cell.ok Tryz.prog w r b0 38 (.slice (some ad) n c) := hok
  unfold Cell.ok at hok
  rw [Tryz.underlying38] at hok
  obtain ⟨_, _, _, hs, row, cells, hsh, _⟩ := hok
  refine ⟨hs, ?_⟩
  rcases Nat.lt_or_ge ad.block w.heap.size with hlt' | hge
  · exact hlt'
  · exfalso
    unfold World.shape? at hsh
    rw [Array.getElem?_eq_none hge] at hsh
    cases hsh
end Go.Proofs.YtkgnlloioaobiaaGreat

/-
  Sets as they lie in memory: pieces, and arguments that are sets or lists of conditions.
-/
namespace Go.Proofs.YtkgnlloioaobiaaGreat
open Go.ChangeShapes Go.WideShapes Go.ChangeAt Go.RowKit Go.Joins Go.Deep
set_option linter.unusedVariables false
set_option maxRecDepth 100000

/-- A piece as it lies in memory. -/
structure PEl where
  A : Option Addr
  n : Nat
  c : Nat
  els : List CEl
/-- A list of pieces that can be read. -/
structure PiecesAt (w : World) (A : Option Addr) (m : Nat) (ps : List PEl) : Prop where
  len : ps.length = m
  small : m ≤ 17592186044416
  cells : 0 < m → ∃ b off, A = some ⟨b, off, none⟩ ∧ b < w.heap.size ∧ ∀ j p, ps[j]? = some p → w.cell? ⟨b, off + j, none⟩ = some (.slice p.A p.n p.c)
  conds : ∀ p ∈ ps, CondsAt w p.A p.n p.els
theorem PiecesAt.step {w w' : World} {A : Option Addr} {m : Nat} {ps : List PEl} (h : PiecesAt w A m ps) (hb : Below w.heap.size w w') : PiecesAt w' A m ps :=
  ⟨h.len, h.small, fun hm => let ⟨b, off, hA, hlt, hc⟩ := h.cells hm; ⟨b, off, hA, Nat.lt_of_lt_of_le hlt hb.size, fun j p hp => (hb.cell (p := ⟨b, off + j, none⟩) hlt).trans (hc j p hp)⟩, fun p hp => (h.conds p hp).step hb⟩
theorem PiecesAt.at {w : World} {A : Option Addr} {m : Nat} {ps : List PEl} (h : PiecesAt w A m ps) {j : Nat} (hj : j < m) : ∃ b off p, A = some ⟨b, off, none⟩ ∧ b < w.heap.size ∧ ps[j]? = some p ∧ p ∈ ps ∧ w.cell? ⟨b, off + j, none⟩ = some (.slice p.A p.n p.c) ∧ CondsAt w p.A p.n p.els := by
  obtain ⟨b, off, hA, hlt, hc⟩ := h.cells (by omega)
  have hj' : j < ps.length := by rw [h.len]; exact hj
  exact ⟨b, off, ps[j], hA, hlt, List.getElem?_eq_getElem hj', List.getElem_mem hj', hc j _ (List.getElem?_eq_getElem hj'), h.conds _ (List.getElem_mem hj')⟩

theorem list_of {α : Type} {P : Nat → α → Prop} : ∀ n : Nat, (∀ i, i < n → ∃ e, P i e) → ∃ l : List α, l.length = n ∧ ∀ i e, l[i]? = some e → P i e
  | 0, _ => ⟨[], rfl, fun i e h => by simp at h⟩
  | n + 1, h => by
    obtain ⟨l, hl, hp⟩ := list_of n fun i hi => h i (by omega)
    obtain ⟨e, he⟩ := h n (by omega)
    refine ⟨l ++ [e], by simp [hl], fun i x hx => ?_⟩
    by_cases hi : i < l.length
    · rw [List.getElem?_append_left hi] at hx
      exact hp i x hx
    · rw [List.getElem?_append_right (by omega)] at hx
      have : i - l.length = 0 := by
        rcases Nat.eq_zero_or_pos (i - l.length) with h0 | h0
        · exact h0
        · rw [List.getElem?_eq_none (by simp; omega)] at hx; cases hx
      rw [this] at hx
      have hin : i = n := by omega
      cases hx
      rw [hin]; exact he
theorem weights_mem {H : Type} {P : Program} {e : TypeId} {p : Nat → Bool} {d : DataW H} : ∀ {l : List (DataW H)}, d ∈ l → (DataW.weightsAll P e l).all p = true → (d.weights P e).all p = true
  | [], h, _ => by cases h
  | x :: l, h, ha => by
    simp only [DataW.weightsAll, List.all_append, Bool.and_eq_true] at ha
    rcases List.mem_cons.1 h with rfl | h
    · exact ha.1
    · exact weights_mem h ha.2

section
variable {H : Type} {enc : TypeId × Value → H} {w : World}

theorem cond_core {fuel : Nat} {cs : List Value} {y : DataW H × List MemPlace} (hlt : ∀ x ∈ y.2, x.block < w.heap.size) (hsz : (y.1.weights Tryz.prog 56).all (· ≤ reachBytes) = true)
    (hf : DataW.trod enc Tryz.prog w 0 (fun _ => true) true fuel 56 cs = some y) : ∃ e : CEl, cs = e.cells ∧ IntsAt w e.A e.n e.xs := by
  obtain ⟨y0, y1, y2, n, rfl, hlen, h0, h1, h2⟩ := trod_struct3 Tryz.underlying56 hf
  have k0 : Tryz.prog.cellsOf 56 = 4 := by kernel_rfl
  have k1 : Tryz.prog.cellsOf 3 = 1 := by kernel_rfl
  have k2 : Tryz.prog.cellsOf 54 = 2 := by kernel_rfl
  have k3 : Tryz.prog.cellsOf 38 = 1 := by kernel_rfl
  rw [k0] at hlen
  match cs, hlen with
  | [c0, c1, c2, c3], _ =>
    simp only [k1, k2, List.drop_zero, List.take_succ_cons, List.take_zero, List.drop_succ_cons] at h0 h1 h2
    simp only [DataW.weights, Tryz.underlying56, DataW.weightsEach, List.map_cons, List.all_append, Bool.and_eq_true] at hsz
    obtain ⟨q, hv0, hq⟩ := DataW.trod_int Tryz.underlying3 h0
    obtain ⟨M, hv1, hM⟩ := DataW.trod_int Tryz.underlying3 h1
    obtain ⟨z0, z1, m, hx2, _, g0, g1⟩ := trod_struct2 Tryz.underlying54 h2
    simp only [k1, k3, List.drop_zero, List.take_succ_cons, List.take_zero, List.drop_succ_cons] at g0 g1
    subst hx2
    have hsz2 := hsz.2.2.1
    simp only [DataW.weights, Tryz.underlying54, DataW.weightsEach, List.map_cons, List.all_append, Bool.and_eq_true] at hsz2
    obtain ⟨A, l, c, xs, rfl, hI, hC⟩ := ints_coreC Tryz.underlying38 Tryz.underlying3 (by kernel_rfl) (by kernel_rfl) (fun x hx => hlt x (List.mem_append_right _ (List.mem_append_right _ (List.mem_append_left _ hx)))) hsz2.1 g0
    obtain ⟨K, hv3, hK⟩ := DataW.trod_int Tryz.underlying3 g1
    simp only [List.cons.injEq, and_true] at hv0 hv1 hv3
    subst hv0 hv1 hv3
    exact ⟨⟨q, M, A, l, c, K, xs⟩, rfl, hI⟩

theorem conds_core {fuel : Nat} {v : Value} {y : DataW H × List MemPlace} (hlt : ∀ x ∈ y.2, x.block < w.heap.size) (hsz : (y.1.weights Tryz.prog 34).all (· ≤ reachBytes) = true)
    (hf : DataW.trod enc Tryz.prog w 0 (fun _ => true) true fuel 34 [v] = some y) : ∃ A n c els, v = .slice A n c ∧ CondsAt w A n els := by
  have k0 : Tryz.prog.cellsOf 56 = 4 := by kernel_rfl
  have kb : Tryz.prog.bytesOf 56 = 48 := by kernel_rfl
  rcases DataW.trod_slice Tryz.underlying34 hf with ⟨hcs, hx⟩ | ⟨a, len, cap, elems, rest, n, _, hcs, hx, _, hl, hm, hel, hcells, _, _⟩
  · simp only [List.cons.injEq, and_true] at hcs
    exact ⟨none, 0, 0, [], hcs, conds_nil w none⟩
  · simp only [List.cons.injEq, and_true] at hcs
    subst hx
    simp only [DataW.weights, Tryz.underlying34, List.all_cons, List.all_append, Bool.and_eq_true, decide_eq_true_eq, List.length_map, kb] at hsz
    obtain ⟨hreach, hwe, _⟩ := hsz
    have hn : len ≤ 17592186044416 := by unfold reachBytes at hreach; omega
    rw [k0] at hcells
    have hplain : 0 < len → a.spot = none := fun h0 => by
      have h := hcells 0 h0
      rw [List.getElem?_eq_getElem (by omega)] at h
      obtain ⟨cs, hc, _⟩ := Option.bind_eq_some_iff.1 h
      obtain ⟨_, hcl, hcc⟩ := World.cells?_some hc
      have h1 := hcc 0 (by omega)
      rw [List.getElem?_eq_getElem (by omega)] at h1
      simpa [Addr.add] using World.cell?_spot h1
    rcases Nat.eq_zero_or_pos len with h0 | h0
    · subst h0
      exact ⟨some a, 0, cap, [], hcs, conds_nil w _⟩
    · obtain ⟨b, off, spot⟩ := a
      have hs := hplain h0
      have hs : spot = none := hs
      subst hs
      have hblk : b < w.heap.size := by
        have h := hcells 0 h0
        rw [List.getElem?_eq_getElem (by omega)] at h
        obtain ⟨cs, hc, _⟩ := Option.bind_eq_some_iff.1 h
        exact World.cells?_block hc (by omega)
      obtain ⟨els, hle, hP⟩ := list_of (P := fun i (e : CEl) => CellsOf w b (off + i * 4) e ∧ IntsAt w e.A e.n e.xs) len fun i hi => by
        have h := hcells i hi
        have hi' : i < elems.length := by omega
        rw [List.getElem?_eq_getElem hi'] at h
        obtain ⟨cs, hc, ht⟩ := Option.bind_eq_some_iff.1 h
        obtain ⟨_, hcl, hcc⟩ := World.cells?_some hc
        obtain ⟨e, rfl, hI⟩ := cond_core (fun x hx => hlt x (List.mem_append_right _ (List.mem_flatMap.2 ⟨elems[i], List.mem_append_left _ (List.getElem_mem hi'), hx⟩)))
          (weights_mem (List.mem_map.2 ⟨elems[i], List.getElem_mem hi', rfl⟩) hwe) ht
        have ha : ∀ k : Nat, ((⟨b, off, none⟩ : Addr).add (i * 4)).add k = ⟨b, off + i * 4 + k, none⟩ := fun k => by rw [add_plain, add_plain]
        refine ⟨e, ⟨?_, ?_, ?_, ?_⟩, hI⟩
        · have := hcc 0 (by omega); rw [ha] at this; exact this
        · have := hcc 1 (by omega); rw [ha] at this; exact this
        · have := hcc 2 (by omega); rw [ha] at this; exact this
        · have := hcc 3 (by omega); rw [ha] at this; exact this
      refine ⟨some ⟨b, off, none⟩, len, cap, els, hcs, hle, hn, fun _ => ⟨b, off, rfl, hblk, fun j e he => (hP j e he).1⟩, fun e he => ?_⟩
      obtain ⟨j, hj, rfl⟩ := List.getElem_of_mem he
      exact (hP j _ (List.getElem?_eq_getElem hj)).2

theorem pieces_core {fuel : Nat} {v : Value} {y : DataW H × List MemPlace} (hlt : ∀ x ∈ y.2, x.block < w.heap.size) (hsz : (y.1.weights Tryz.prog 22).all (· ≤ reachBytes) = true)
    (hf : DataW.trod enc Tryz.prog w 0 (fun _ => true) true fuel 22 [v] = some y) : ∃ A n c ps, v = .slice A n c ∧ PiecesAt w A n ps := by
  have k0 : Tryz.prog.cellsOf 34 = 1 := by kernel_rfl
  have kb : Tryz.prog.bytesOf 34 = 24 := by kernel_rfl
  rcases DataW.trod_slice Tryz.underlying22 hf with ⟨hcs, hx⟩ | ⟨a, len, cap, elems, rest, n, _, hcs, hx, _, hl, hm, hel, hcells, _, _⟩
  · simp only [List.cons.injEq, and_true] at hcs
    exact ⟨none, 0, 0, [], hcs, rfl, by omega, fun h => absurd h (by omega), fun p h => nomatch h⟩
  · simp only [List.cons.injEq, and_true] at hcs
    subst hx
    simp only [DataW.weights, Tryz.underlying22, List.all_cons, List.all_append, Bool.and_eq_true, decide_eq_true_eq, List.length_map, kb] at hsz
    obtain ⟨hreach, hwe, _⟩ := hsz
    have hn : len ≤ 17592186044416 := by unfold reachBytes at hreach; omega
    rw [k0] at hcells
    rcases Nat.eq_zero_or_pos len with h0 | h0
    · subst h0
      exact ⟨some a, 0, cap, [], hcs, rfl, by omega, fun h => absurd h (by omega), fun p h => nomatch h⟩
    · obtain ⟨b, off, spot⟩ := a
      obtain ⟨hs, hblk⟩ : spot = none ∧ b < w.heap.size := by
        have h := hcells 0 h0
        rw [List.getElem?_eq_getElem (by omega)] at h
        obtain ⟨cs, hc, _⟩ := Option.bind_eq_some_iff.1 h
        obtain ⟨_, hcl, hcc⟩ := World.cells?_some hc
        have h1 := hcc 0 (by omega)
        rw [List.getElem?_eq_getElem (by omega)] at h1
        exact ⟨by simpa [Addr.add] using World.cell?_spot h1, World.cells?_block hc (by omega)⟩
      subst hs
      obtain ⟨ps, hle, hP⟩ := list_of (P := fun i (p : PEl) => w.cell? ⟨b, off + i, none⟩ = some (.slice p.A p.n p.c) ∧ CondsAt w p.A p.n p.els) len fun i hi => by
        have h := hcells i hi
        have hi' : i < elems.length := by omega
        rw [List.getElem?_eq_getElem hi'] at h
        obtain ⟨cs, hc, ht⟩ := Option.bind_eq_some_iff.1 h
        obtain ⟨_, hcl, hcc⟩ := World.cells?_some hc
        match cs, hcl with
        | [v1], _ =>
          obtain ⟨A, m, c, els, rfl, hC⟩ := conds_core (fun x hx => hlt x (List.mem_append_right _ (List.mem_flatMap.2 ⟨elems[i], List.mem_append_left _ (List.getElem_mem hi'), hx⟩)))
            (weights_mem (List.mem_map.2 ⟨elems[i], List.getElem_mem hi', rfl⟩) hwe) ht
          refine ⟨⟨A, m, c, els⟩, ?_, hC⟩
          have := hcc 0 (by omega)
          rw [add_plain, add_plain, Nat.mul_one, Nat.add_zero] at this
          exact this
      refine ⟨some ⟨b, off, none⟩, len, cap, ps, hcs, hle, hn, fun _ => ⟨b, off, rfl, hblk, fun j p hp => (hP j p hp).1⟩, fun p hp => ?_⟩
      obtain ⟨j, hj, rfl⟩ := List.getElem_of_mem hp
      exact (hP j _ (List.getElem?_eq_getElem hj)).2

/-- An argument that is a set. -/
theorem set_of {r : Reach} {b0 : Nat} {v : Value} {d : DataW H} {p : List MemPlace}
    (hok : Value.okWide Tryz.prog w r b0 24 v) (hlt : ∀ x ∈ p, x.block < w.heap.size) (hsz : (d.weights Tryz.prog 24).all (· ≤ reachBytes) = true)
    (h : DataW.Trod enc Tryz.prog w 0 (fun _ => true) true 24 v d p) : ∃ D A n c ps, v = .agg #[.int .i64 D, .slice A n c] ∧ PiecesAt w A n ps ∧ (-9223372036854775808 ≤ D ∧ D ≤ 9223372036854775807) := by
  obtain ⟨v0, v1, y0, y1, n, rfl, rfl, rfl, h0, h1⟩ := open_agg2 Tryz.underlying24 (by kernel_rfl) (by kernel_rfl) hok h
  simp only [DataW.weights, Tryz.underlying24, DataW.weightsEach, List.map_cons, List.all_append, Bool.and_eq_true] at hsz
  obtain ⟨D, hv, hD⟩ := DataW.trod_int Tryz.underlying3 h0
  obtain ⟨A, m, c, ps, rfl, hP⟩ := pieces_core (fun x hx => hlt x (List.mem_append_right _ hx)) (by simpa using hsz.2.1) h1
  simp only [List.cons.injEq, and_true] at hv
  subst hv
  exact ⟨D, A, m, c, ps, rfl, hP, bounds_i64 hD.2⟩
/-- An argument that is a list of conditions. -/
theorem conds_of {r : Reach} {b0 : Nat} {v : Value} {d : DataW H} {p : List MemPlace}
    (hok : Value.okWide Tryz.prog w r b0 34 v) (hlt : ∀ x ∈ p, x.block < w.heap.size) (hsz : (d.weights Tryz.prog 34).all (· ≤ reachBytes) = true)
    (h : DataW.Trod enc Tryz.prog w 0 (fun _ => true) true 34 v d p) : ∃ A n c els, v = .slice A n c ∧ CondsAt w A n els := by
  obtain ⟨a0, len0, cap0, rfl⟩ := okWide_slice Tryz.underlying34 hok
  obtain ⟨fuel, hf⟩ := h
  exact conds_core (y := (d, p)) (v := .slice a0 len0 cap0) hlt hsz hf
end
end Go.Proofs.YtkgnlloioaobiaaGreat

/-
  A union of pieces as wide.Union keeps it.
-/
namespace Go.Proofs.YtkgnlloioaobiaaGreat
open Go.ChangeShapes Go.WideShapes Go.ChangeAt Go.RowKit Go.Maps
set_option linter.unusedVariables false
set_option maxRecDepth 100000
set_option linter.unusedSimpArgs false

theorem str_key : Keyed Tryz.prog 9 := string_keyed Tryz.underlying9
theorem keyOf_str (s : List UInt8) (h : s.length ≤ maxLen) : keyOf Tryz.prog 9 (.string ⟨s.toArray⟩) = some (.string s) := by
  have hs : (⟨s.toArray⟩ : ByteArray).size ≤ maxLen := by simpa [ByteArray.size] using h
  simp [keyOf, Tryz.underlying9, mapKey, hs]
theorem bool_inv {H : Type} {v : Value} {z : DataW H × List MemPlace} (h : plainElem Tryz.prog 4 v = some z) : ∃ x, v = .bool x ∧ z = (.lit (.bool x), []) := by
  unfold plainElem at h
  rw [Tryz.underlying4] at h
  cases v <;> simp at h
  exact ⟨_, rfl, h.symm⟩
/-- A piece's value. -/
def PEl.v (p : PEl) : Value := .slice p.A p.n p.c
/-- A piece that lies in rows of its own. -/
def PieceOk (n : Nat) (w : World) (p : PEl) : Prop := CV 0 0 w p.A p.n p.els ∧ (∀ e ∈ p.els, KeyOk n e) ∧ p.n ≤ 1000 ∧ Sane p.A p.c ∧ p.n ≤ p.c
def PEl.key (p : PEl) : List UInt8 := keyU (p.els.map CEl.d)
/-- Rows of conditions and of integers stay. -/
structure KeepU (w w' : World) : Prop where
  size : w.heap.size ≤ w'.heap.size
  rows : ∀ (k : Nat) (cs : Array Value) (t : TypeId) (fz : Nat × Nat), w.heap[k]? = some (.cells cs t fz) → t = 56 ∨ t = 3 ∨ t = 84 → w'.heap[k]? = some (.cells cs t fz)
theorem KeepU.refl (w : World) : KeepU w w := ⟨Nat.le_refl _, fun _ _ _ _ h _ => h⟩
theorem KeepU.trans {w w' w'' : World} (h : KeepU w w') (h' : KeepU w' w'') : KeepU w w'' := ⟨Nat.le_trans h.size h'.size, fun k cs t fz e ht => h'.rows k cs t fz (h.rows k cs t fz e ht) ht⟩
theorem KeepU.of_below {w w' : World} (hb : Below w.heap.size w w') : KeepU w w' := ⟨hb.size, fun k cs t fz e _ => (hb.block k (Array.getElem?_eq_some_iff.1 e).1).trans e⟩
/-- They stay, and so does whatever is no cells, the map r apart. -/
structure KeepUR (r : Nat) (w w' : World) : Prop where
  u : KeepU w w'
  o : ∀ (k : Nat) (ob : Obj), k ≠ r → w.heap[k]? = some ob → ob.isCells = false → w'.heap[k]? = some ob
theorem KeepUR.of_below {r : Nat} {w w' : World} (hb : Below w.heap.size w w') : KeepUR r w w' := ⟨.of_below hb, fun k ob _ e _ => (hb.block k (Array.getElem?_eq_some_iff.1 e).1).trans e⟩
theorem KeepUR.trans {r : Nat} {w w' w'' : World} (h : KeepUR r w w') (h' : KeepUR r w' w'') : KeepUR r w w'' := ⟨h.u.trans h'.u, fun k ob hk e ho => h'.o k ob hk (h.o k ob hk e ho) ho⟩
theorem KeepUR.from {r B : Nat} {w w' : World} (h : KeepUR r w w') (hr : r < B) : KeepsFrom B w w' := ⟨h.u.size, fun k ob hk e ho => h.o k ob (by omega) e ho⟩
theorem CV.keep {N0 N : Nat} {w w' : World} {A : Option Addr} {m : Nat} {els : List CEl} (h : CV N0 N w A m els) (hk : KeepU w w') : CV N0 N w' A m els := by
  refine ⟨h.len, h.few, fun e he => ?_, fun e he => ?_, fun h0 => ?_⟩
  · have hI := h.ints e he
    refine ⟨hI.len, hI.small, hI.wf, fun hn => ?_⟩
    obtain ⟨b, off, hA, hlt, hc⟩ := hI.cells hn
    refine ⟨b, off, hA, Nat.lt_of_lt_of_le hlt hk.size, fun j hj => ?_⟩
    rw [← hc j hj]
    rcases h.rows e he with h0 | ⟨b', hA', _, cur, h1, _⟩
    · omega
    · rw [hA] at hA'
      cases hA'
      exact World.cell?_of_block ((hk.rows _ _ _ _ h1 (.inr (.inl rfl))).trans h1.symm)
  · exact (h.rows e he).imp id fun ⟨b, a, hb, cur, hc, hn⟩ => ⟨b, a, hb, cur, hk.rows _ _ _ _ hc (.inr (.inl rfl)), hn⟩
  · obtain ⟨g, o, cur, hA, hg, hc, r⟩ := h.row h0
    exact ⟨g, o, cur, hA, hg, hk.rows _ _ _ _ hc (.inl rfl), r⟩
theorem PieceOk.keep {n : Nat} {w w' : World} {p : PEl} (h : PieceOk n w p) (hk : KeepU w w') : PieceOk n w' p := ⟨h.1.keep hk, h.2⟩

/-- The pieces, and the keys that have been seen. -/
structure UN (n N : Nat) (w : World) (b : Nat) (u : Value) (r : Nat) (ps : List PEl) : Prop where
  box : w.heap[b]? = some (.cells #[u, .map (some r)] 111 (0, 0))
  own : w.ownsRow N 34 1 u ps.length (ps.map PEl.v)
  map : ∃ D : DataW Unit, w.ownsMap Tryz.prog 9 (plainElem Tryz.prog 4) r ps.length D ∧ ∀ s : List UInt8, D.atKey (.string s) (.lit (.bool false)) = .lit (.bool (decide (∃ p ∈ ps, p.key = s)))
  few : ps.length ≤ 400
  hb : N ≤ b
  hr : N ≤ r
  ok : ∀ p ∈ ps, PieceOk n w p
section
variable {n N : Nat} {w w' : World} {b : Nat} {u : Value} {r : Nat} {ps : List PEl}
theorem UN.step (h : UN n N w b u r ps) (hb : Below w.heap.size w w') : UN n N w' b u r ps := by
  refine ⟨(hb.block b (Array.getElem?_eq_some_iff.1 h.box).1).trans h.box, ⟨h.own.1, ?_⟩, ?_, h.few, h.hb, h.hr, fun p hp => (h.ok p hp).keep (.of_below hb)⟩
  · rcases h.own.2 with h0 | ⟨g, cap, cur, hv, hg, hc, rest⟩
    · exact .inl h0
    · exact .inr ⟨g, cap, cur, hv, hg, (hb.block g (Array.getElem?_eq_some_iff.1 hc).1).trans hc, rest⟩
  · obtain ⟨D, ⟨es, clock, hm, rest⟩, hD⟩ := h.map
    exact ⟨D, ⟨es, clock, (hb.block r (Array.getElem?_eq_some_iff.1 hm).1).trans hm, rest⟩, hD⟩
theorem UN.slice (h : UN n N w b u r ps) : ∃ A c, u = .slice A ps.length c := by
  rcases h.own.2 with ⟨rfl, h0⟩ | ⟨g, cap, cur, rfl, _⟩
  · rw [h0]; exact ⟨none, 0, rfl⟩
  · exact ⟨_, _, rfl⟩
theorem UN.c0 (h : UN n N w b u r ps) : w.cell? ⟨b, 0, none⟩ = some u := by rw [cell_of_row w b 0 _ _ (0, 0) h.box]; rfl
theorem UN.c1 (h : UN n N w b u r ps) : w.cell? ⟨b, 1, none⟩ = some (.map (some r)) := by rw [cell_of_row w b 1 _ _ (0, 0) h.box]; rfl
theorem UN.f (h : UN n N w b u r ps) (j : Nat) : w.frozen? ⟨b, j, none⟩ = false := by
  have := h.box
  simp [World.frozen?, this]
/-- A key is looked up. -/
theorem UN.look (h : UN n N w b u r ps) (s : List UInt8) (hs : s.length ≤ maxLen) : (Instr.lookup 109 (.map (some r)) (.string ⟨s.toArray⟩) false).run Tryz.prog w = .ok (.bool (decide (∃ p ∈ ps, p.key = s))) w := by
  obtain ⟨D, hm, hD⟩ := h.map
  obtain ⟨v, pl, hrun, hv⟩ := hm.lookup str_key Tryz.underlying109 (z := .bool false) (by kernel_rfl) (plainElem_bool Tryz.underlying4 false) (keyOf_str s hs)
  obtain ⟨x, rfl, hx⟩ := bool_inv hv
  rw [hD s] at hx
  simp only [Prod.mk.injEq, DataW.lit.injEq, Lit.bool.injEq] at hx
  rw [hrun, hx.1]
end
/-- The answer of a piece that is kept: the error, and the pieces behind it. -/
def keepP (ps : List PEl) (p : PEl) : Int × List PEl := if ∃ q ∈ ps, q.key = p.key then (0, ps) else if ps.length = 400 then (3, ps) else (0, ps ++ [p])
/-- A call that keeps a piece. -/
def KeepRet (n N : Nat) (w : World) (e : Ending) (w' : World) (b r : Nat) (out : Int × List PEl) : Prop :=
  (∃ u', e = .returned (.int .i64 out.1) ∧ UN n N w' b u' r out.2) ∧ Below N w w' ∧ KeepUR r w w'
end Go.Proofs.YtkgnlloioaobiaaGreat

/-
  wide.kinds.
-/
namespace Go.Proofs.YtkgnlloioaobiaaGreat
open Go.RowKit
set_option linter.unusedVariables false
set_option maxRecDepth 100000
set_option linter.unusedSimpArgs false

/-- Where a list is cut. -/
structure Kinds (els : List CEl) (m a b : Nat) : Prop where
  ab : a ≤ b
  bm : b ≤ m
  eqs : ∀ j x, j < a → els[j]? = some x → x.q = 1
  eqx : ∀ x, els[a]? = some x → x.q ≠ 1
  ges : ∀ j x, a ≤ j → j < b → els[j]? = some x → x.q = 0
  gex : ∀ x, els[b]? = some x → x.q ≠ 0
/-- The answer of kinds. -/
def KindsRet (w : World) (e : Ending) (w' : World) (g o m c : Nat) (els : List CEl) : Prop :=
  ∃ a b o1 o2 o3, e = .returned (.tuple #[.slice (some ⟨g, o1, none⟩) a a, .slice (some ⟨g, o2, none⟩) (b - a) (b - a), .slice (some ⟨g, o3, none⟩) (m - b) (c - b)]) ∧ (0 < a → o1 = o) ∧ (0 < b - a → o2 = o + a * 4) ∧ (0 < m - b → o3 = o + b * 4) ∧ Kinds els m a b ∧ ∃ q, w' = w.drewN q

theorem kinds_ret {w w' : World} {g o m c : Nat} {els : List CEl} {a b : Nat} (hK : Kinds els m a b) {o1 o2 o3 n1 c1 n2 c2 n3 c3 : Nat} (e1 : n1 = a) (f1 : c1 = a) (e2 : n2 = b - a) (f2 : c2 = b - a) (e3 : n3 = m - b) (f3 : c3 = c - b)
    (h1 : 0 < a → o1 = o) (h2 : 0 < b - a → o2 = o + a * 4) (h3 : 0 < m - b → o3 = o + b * 4) (hw : ∃ q, w' = w.drewN q) :
    KindsRet w (.returned (.tuple #[.slice (some ⟨g, o1, none⟩) n1 c1, .slice (some ⟨g, o2, none⟩) n2 c2, .slice (some ⟨g, o3, none⟩) n3 c3])) w' g o m c els := by
  subst e1; subst f1; subst e2; subst f2; subst e3; subst f3
  exact ⟨_, b, o1, o2, o3, rfl, h1, h2, h3, hK, hw⟩


set_option maxHeartbeats 4000000 in
theorem wide_kinds {g o m c : Nat} {els : List CEl} (w : World) (C0 : CondsAt w (some ⟨g, o, none⟩) m els) (hfew : m ≤ 100000) (hmc : m ≤ c) (hc : c ≤ 9223372036854775807) :
    Calls Tryz.prog 118 #[.slice (some ⟨g, o, none⟩) m c] w fun e w' => KindsRet w e w' g o m c els := by
  have HL := Lib.hid C0.len
  go_enter Tryz.func118, Tryz.ntmps118
  go_wp2
  go_loop [5] (fun v => ∃ a : Nat, a ≤ m ∧ v = .int .i64 a ∧ ∀ j x, j < a → els[j]? = some x → x.q = 1) (fun v => m - (intOf v).toNat)
  case atStart => exact ⟨0, Nat.zero_le _, rfl, fun j x h => absurd h (by omega)⟩
  case round =>
    obtain ⟨a, ha, rfl, hg⟩ := hrel
    have HG := Lib.hid hg
    clear hg
    by_cases hex : ∃ x, els[a]? = some x ∧ x.q = 1
    · obtain ⟨x, hx, hxq⟩ := hex
      have hlt : a < m := by have := (List.getElem?_eq_some_iff.1 hx).1; have := HL.out; omega
      have hq1 : (a : Int) < m := by omega
      have HX := Lib.hid hx
      obtain ⟨b1, off, e, hA, hblt, hej, hmem, hcs, hin⟩ := C0.at hlt; cases hA; obtain ⟨x0, x1, x2, x3⟩ := hcs; have HEJ := Lib.hid hej; obtain ⟨eq, eM, eA, en, ec, eK, exs⟩ := e; simp only at x0 x1 x2 x3; clear hej hmem hin
      have heq : eq = 1 := by have := HX.out; rw [HEJ.out] at this; cases this; exact hxq
      have HXQ := Lib.hid heq
      subst heq
      clear hx hxq
      go_wp2
      go_round
      case rel => exact ⟨a + 1, by omega, by go_num, fun j y hj hy => by
        rcases Nat.lt_or_eq_of_le (Nat.le_of_lt_succ hj) with h | rfl
        · exact HG.out j y h hy
        · rw [HEJ.out] at hy; cases hy; rfl⟩
      case measure => simp [intOf]; omega
    · have HA := Lib.hid (show ∀ x, els[a]? = some x → x.q ≠ 1 from fun x hx hq => hex ⟨x, hx, hq⟩)
      clear hex
      have key : ∀ (K : Prop), ((a < m → ∃ eq : Int, (eq == 1) = false ∧ w.cell? ⟨g, o + a * 4, none⟩ = some (.int .i64 eq)) → K) → K := fun K h => h fun hlt => by
        obtain ⟨b1, off, e, hA, hblt, hej, hmem, hcs, hin⟩ := C0.at hlt; cases hA; obtain ⟨x0, x1, x2, x3⟩ := hcs; have HEJ := Lib.hid hej; obtain ⟨eq, eM, eA, en, ec, eK, exs⟩ := e; simp only at x0 x1 x2 x3; clear hej hmem hin
        exact ⟨eq, by simpa using HA.out _ HEJ.out, x0⟩
      refine key _ fun hkey => ?_
      clear key
      have HK := Lib.hid hkey
      clear hkey
      by_cases hlt : a < m
      · obtain ⟨eq, hne, x0⟩ := HK.out hlt
        have hq1 : (a : Int) < m := by omega
        clear hlt
        go_wp2
        clear hq1
        go_loop [6] (fun v => ∃ b : Nat, a ≤ b ∧ b ≤ m ∧ v = .int .i64 b ∧ ∀ j x, a ≤ j → j < b → els[j]? = some x → x.q = 0) (fun v => m - (intOf v).toNat)
        case atStart => exact ⟨a, Nat.le_refl _, ha, rfl, fun j x h1 h2 => absurd h2 (by omega)⟩
        case round =>
          obtain ⟨b, hab, hb, rfl, hg⟩ := hrel
          have HGB := Lib.hid hg
          clear hg
          by_cases hex : ∃ x, els[b]? = some x ∧ x.q = 0
          · obtain ⟨x, hx, hxq⟩ := hex
            have hlt : b < m := by have := (List.getElem?_eq_some_iff.1 hx).1; have := HL.out; omega
            have hq1 : (b : Int) < m := by omega
            have HX := Lib.hid hx
            obtain ⟨b1, off, e, hA, hblt, hej, hmem, hcs, hin⟩ := C0.at hlt; cases hA; obtain ⟨x0, x1, x2, x3⟩ := hcs; have HEJ := Lib.hid hej; obtain ⟨eq, eM, eA, en, ec, eK, exs⟩ := e; simp only at x0 x1 x2 x3; clear hej hmem hin
            have heq : eq = 0 := by have := HX.out; rw [HEJ.out] at this; cases this; exact hxq
            have HXQ := Lib.hid heq
            subst heq
            clear hx hxq
            go_wp2
            go_round
            case rel => exact ⟨b + 1, by omega, by omega, by go_num, fun j y h1 hj hy => by
              rcases Nat.lt_or_eq_of_le (Nat.le_of_lt_succ hj) with h | rfl
              · exact HGB.out j y h1 h hy
              · rw [HEJ.out] at hy; cases hy; rfl⟩
            case measure => simp [intOf]; omega
          · have HB := Lib.hid (show ∀ x, els[b]? = some x → x.q ≠ 0 from fun x hx hq => hex ⟨x, hx, hq⟩)
            clear hex
            have key : ∀ (K : Prop), ((b < m → ∃ eq : Int, (eq == 0) = false ∧ w.cell? ⟨g, o + b * 4, none⟩ = some (.int .i64 eq)) → K) → K := fun K h => h fun hlt => by
              obtain ⟨b1, off, e, hA, hblt, hej, hmem, hcs, hin⟩ := C0.at hlt; cases hA; obtain ⟨x0, x1, x2, x3⟩ := hcs; have HEJ := Lib.hid hej; obtain ⟨eq, eM, eA, en, ec, eK, exs⟩ := e; simp only at x0 x1 x2 x3; clear hej hmem hin
              exact ⟨eq, by simpa using HB.out _ HEJ.out, x0⟩
            refine key _ fun hkey => ?_
            clear key
            by_cases hlt : b < m
            · obtain ⟨eq2, hne2, z0⟩ := hkey hlt
              have hq1 : (b : Int) < m := by omega
              clear hkey
              go_wp2
              have HKD := Lib.hid (Kinds.mk hab hb HG.out HA.out HGB.out HB.out)
              go_quiet (fail)
              go_wp2
              all_goals
                go_ret3
                exact kinds_ret HKD.out (by omega) (by omega) (by omega) (by omega) (by omega) (by omega) (fun _ => rfl) (fun h => by first | rfl | omega | (congr 2; omega)) (fun h => by first | rfl | omega | (congr 2; omega)) ⟨_, rfl⟩
            · have hq1 : ¬ ((b : Int) < m) := by omega
              clear hkey
              go_wp2
              have HKD := Lib.hid (Kinds.mk hab hb HG.out HA.out HGB.out HB.out)
              go_quiet (fail)
              go_wp2
              all_goals
                go_ret3
                exact kinds_ret HKD.out (by omega) (by omega) (by omega) (by omega) (by omega) (by omega) (fun _ => rfl) (fun h => by first | rfl | omega | (congr 2; omega)) (fun h => by first | rfl | omega | (congr 2; omega)) ⟨_, rfl⟩
      · have hq1 : ¬ ((a : Int) < m) := by omega
        clear hlt
        go_wp2
        clear hq1
        go_loop [6] (fun v => ∃ b : Nat, a ≤ b ∧ b ≤ m ∧ v = .int .i64 b ∧ ∀ j x, a ≤ j → j < b → els[j]? = some x → x.q = 0) (fun v => m - (intOf v).toNat)
        case atStart => exact ⟨a, Nat.le_refl _, ha, rfl, fun j x h1 h2 => absurd h2 (by omega)⟩
        case round =>
          obtain ⟨b, hab, hb, rfl, hg⟩ := hrel
          have HGB := Lib.hid hg
          clear hg
          by_cases hex : ∃ x, els[b]? = some x ∧ x.q = 0
          · obtain ⟨x, hx, hxq⟩ := hex
            have hlt : b < m := by have := (List.getElem?_eq_some_iff.1 hx).1; have := HL.out; omega
            have hq1 : (b : Int) < m := by omega
            have HX := Lib.hid hx
            obtain ⟨b1, off, e, hA, hblt, hej, hmem, hcs, hin⟩ := C0.at hlt; cases hA; obtain ⟨x0, x1, x2, x3⟩ := hcs; have HEJ := Lib.hid hej; obtain ⟨eq, eM, eA, en, ec, eK, exs⟩ := e; simp only at x0 x1 x2 x3; clear hej hmem hin
            have heq : eq = 0 := by have := HX.out; rw [HEJ.out] at this; cases this; exact hxq
            have HXQ := Lib.hid heq
            subst heq
            clear hx hxq
            go_wp2
            go_round
            case rel => exact ⟨b + 1, by omega, by omega, by go_num, fun j y h1 hj hy => by
              rcases Nat.lt_or_eq_of_le (Nat.le_of_lt_succ hj) with h | rfl
              · exact HGB.out j y h1 h hy
              · rw [HEJ.out] at hy; cases hy; rfl⟩
            case measure => simp [intOf]; omega
          · have HB := Lib.hid (show ∀ x, els[b]? = some x → x.q ≠ 0 from fun x hx hq => hex ⟨x, hx, hq⟩)
            clear hex
            have key : ∀ (K : Prop), ((b < m → ∃ eq : Int, (eq == 0) = false ∧ w.cell? ⟨g, o + b * 4, none⟩ = some (.int .i64 eq)) → K) → K := fun K h => h fun hlt => by
              obtain ⟨b1, off, e, hA, hblt, hej, hmem, hcs, hin⟩ := C0.at hlt; cases hA; obtain ⟨x0, x1, x2, x3⟩ := hcs; have HEJ := Lib.hid hej; obtain ⟨eq, eM, eA, en, ec, eK, exs⟩ := e; simp only at x0 x1 x2 x3; clear hej hmem hin
              exact ⟨eq, by simpa using HB.out _ HEJ.out, x0⟩
            refine key _ fun hkey => ?_
            clear key
            by_cases hlt : b < m
            · obtain ⟨eq2, hne2, z0⟩ := hkey hlt
              have hq1 : (b : Int) < m := by omega
              clear hkey
              go_wp2
              have HKD := Lib.hid (Kinds.mk hab hb HG.out HA.out HGB.out HB.out)
              go_quiet (fail)
              go_wp2
              all_goals
                go_ret3
                exact kinds_ret HKD.out (by omega) (by omega) (by omega) (by omega) (by omega) (by omega) (fun _ => rfl) (fun h => by first | rfl | omega | (congr 2; omega)) (fun h => by first | rfl | omega | (congr 2; omega)) ⟨_, rfl⟩
            · have hq1 : ¬ ((b : Int) < m) := by omega
              clear hkey
              go_wp2
              have HKD := Lib.hid (Kinds.mk hab hb HG.out HA.out HGB.out HB.out)
              go_quiet (fail)
              go_wp2
              all_goals
                go_ret3
                exact kinds_ret HKD.out (by omega) (by omega) (by omega) (by omega) (by omega) (by omega) (fun _ => rfl) (fun h => by first | rfl | omega | (congr 2; omega)) (fun h => by first | rfl | omega | (congr 2; omega)) ⟨_, rfl⟩
end Go.Proofs.YtkgnlloioaobiaaGreat

/-
  A row of conditions while runs of equal elements are cut to one.
-/
namespace Go.Proofs.YtkgnlloioaobiaaGreat
open Go.RowKit
set_option linter.unusedVariables false
set_option linter.unusedSimpArgs false

/-- Cells of block g: the kept elements lie at the front, those from number p on as they were. -/
structure Work (N0 : Nat) (g o m : Nat) (els : List CEl) (w wr : World) (kept : List CEl) (p : Nat) : Prop where
  touch : Touch (some ⟨g, o, none⟩) m w wr
  row : ∃ cur, wr.heap[g]? = some (.cells cur 56 (0, 0)) ∧ o + m * 4 ≤ cur.size ∧ (∀ j, j < kept.length * 4 → cur[o + j]? = (ccells kept)[j]?) ∧ ∀ j, p * 4 ≤ j → j < m * 4 → cur[o + j]? = (ccells els)[j]?

section
variable {N0 N : Nat} {g o m : Nat} {els kept : List CEl} {w wr wr' : World} {p : Nat}
theorem Work.start (h : CV N0 N w (some ⟨g, o, none⟩) m els) (h0 : 0 < m) (hb : Below w.heap.size w wr) (k : Nat) (hk : k ≤ m) : Work N0 g o m els w wr (els.take k) 0 := by
  refine ⟨Touch.of_below hb, ?_⟩
  obtain ⟨g', o', cur, hA, _, hc, hs, hat⟩ := h.row h0
  cases hA
  refine ⟨cur, (hb.block g (Array.getElem?_eq_some_iff.1 hc).1).trans hc, hs, fun j hj => ?_, fun j _ hj => hat j hj⟩
  have hl := h.len
  rw [List.length_take] at hj
  rw [cells_take _ _ _ (by omega)]
  exact hat j (by omega)
theorem Work.weak (h : Work N0 g o m els w wr kept p) {q : Nat} (hq : p ≤ q) : Work N0 g o m els w wr kept q :=
  ⟨h.touch, let ⟨cur, hc, hs, h1, h2⟩ := h.row; ⟨cur, hc, hs, h1, fun j hj => h2 j (by omega)⟩⟩
theorem Work.lt (h : Work N0 g o m els w wr kept p) : g < wr.heap.size := let ⟨_, hc, _⟩ := h.row; (Array.getElem?_eq_some_iff.1 hc).1
theorem Work.step (h : Work N0 g o m els w wr kept p) (hb : Below wr.heap.size wr wr') : Work N0 g o m els w wr' kept p :=
  ⟨h.touch.trans (Touch.of_below hb), let ⟨cur, hc, r⟩ := h.row; ⟨cur, (hb.block g (Array.getElem?_eq_some_iff.1 hc).1).trans hc, r⟩⟩
theorem Work.cells (h : Work N0 g o m els w wr kept p) {j : Nat} (hp : p ≤ j) (hj : j < m) {e : CEl} (he : els[j]? = some e) : CellsOf wr g (o + j * 4) e := by
  obtain ⟨cur, hc, hs, _, hat⟩ := h.row
  obtain ⟨a0, a1, a2, a3⟩ := ccells_at els j e he
  have key : ∀ k v, k < 4 → (ccells els)[j * 4 + k]? = some v → wr.cell? ⟨g, o + j * 4 + k, none⟩ = some v := fun k v hk hv => by
    have := hat (j * 4 + k) (by omega) (by omega)
    rw [hv] at this
    simp only [World.cell?, hc]
    simpa [Nat.add_assoc] using this
  exact ⟨key 0 _ (by omega) a0, key 1 _ (by omega) a1, key 2 _ (by omega) a2, key 3 _ (by omega) a3⟩
theorem Work.some_cell (h : Work N0 g o m els w wr kept p) {j : Nat} (hj : j < m * 4) : (wr.cell? ⟨g, o + j, none⟩).isSome = true := by
  obtain ⟨cur, hc, hs, _⟩ := h.row
  simp only [World.cell?, hc]
  simp
  omega
theorem Work.free (h : Work N0 g o m els w wr kept p) (j : Nat) : wr.frozen? ⟨g, j, none⟩ = false := by
  obtain ⟨cur, hc, _⟩ := h.row
  simp [World.frozen?, hc]
theorem set_four (w : World) (g q : Nat) (a b c d : Value) : w.setCells g q [a, b, c, d] = (((w.setCell ⟨g, q, none⟩ a).setCell ⟨g, q + 1, none⟩ b).setCell ⟨g, q + 2, none⟩ c).setCell ⟨g, q + 3, none⟩ d := rfl
theorem row_cell {w : World} {g : Nat} {cur : Array Value} {e : TypeId} (h : w.heap[g]? = some (.cells cur e (0, 0))) {j : Nat} (hj : j < cur.size) : (∃ u, w.cell? ⟨g, j, none⟩ = some u) ∧ w.frozen? ⟨g, j, none⟩ = false := by
  refine ⟨⟨cur[j], by simp [World.cell?, h, hj]⟩, by simp [World.frozen?, h]⟩
theorem row_set {w : World} {g : Nat} {cur : Array Value} {e : TypeId} {fz : Nat × Nat} (h : w.heap[g]? = some (.cells cur e fz)) (j : Nat) (v : Value) : (w.setCell ⟨g, j, none⟩ v).heap[g]? = some (.cells (cur.setIfInBounds j v) e fz) := by
  simp only [World.setCell]
  rw [Array.getElem?_modify, if_pos rfl, h]
  rfl
/-- What four stores in a row ask. -/
theorem four_stores {w : World} {g : Nat} {cur : Array Value} {e : TypeId} (h : w.heap[g]? = some (.cells cur e (0, 0))) {q : Nat} (hq : q + 4 ≤ cur.size) (a b c : Value) :
    ((∃ u, w.cell? ⟨g, q, none⟩ = some u) ∧ w.frozen? ⟨g, q, none⟩ = false) ∧
    ((∃ u, (w.setCell ⟨g, q, none⟩ a).cell? ⟨g, q + 1, none⟩ = some u) ∧ (w.setCell ⟨g, q, none⟩ a).frozen? ⟨g, q + 1, none⟩ = false) ∧
    ((∃ u, ((w.setCell ⟨g, q, none⟩ a).setCell ⟨g, q + 1, none⟩ b).cell? ⟨g, q + 2, none⟩ = some u) ∧ ((w.setCell ⟨g, q, none⟩ a).setCell ⟨g, q + 1, none⟩ b).frozen? ⟨g, q + 2, none⟩ = false) ∧
    ((∃ u, (((w.setCell ⟨g, q, none⟩ a).setCell ⟨g, q + 1, none⟩ b).setCell ⟨g, q + 2, none⟩ c).cell? ⟨g, q + 3, none⟩ = some u) ∧ (((w.setCell ⟨g, q, none⟩ a).setCell ⟨g, q + 1, none⟩ b).setCell ⟨g, q + 2, none⟩ c).frozen? ⟨g, q + 3, none⟩ = false) := by
  have h1 := row_set h q a
  have h2 := row_set h1 (q + 1) b
  have h3 := row_set h2 (q + 2) c
  exact ⟨row_cell h (by omega), row_cell h1 (by simp; omega), row_cell h2 (by simp; omega), row_cell h3 (by simp; omega)⟩
/-- The next element is kept. -/
theorem Work.put (h : Work N0 g o m els w wr kept p) (hk : kept.length ≤ p) (hp : p + 1 < m + 1) (e : CEl) {q : Nat} (hq : p < q) (h0 : 0 < m) :
    Work N0 g o m els w ((((wr.setCell ⟨g, o + kept.length * 4, none⟩ (.int .i64 e.q)).setCell ⟨g, o + kept.length * 4 + 1, none⟩ (.int .i64 e.M)).setCell ⟨g, o + kept.length * 4 + 2, none⟩ (.slice e.A e.n e.c)).setCell ⟨g, o + kept.length * 4 + 3, none⟩ (.int .i64 e.K)) (kept ++ [e]) q := by
  rw [← set_four]
  obtain ⟨cur, hc, hs, h1, h2⟩ := h.row
  have hlen : ([.int .i64 e.q, .int .i64 e.M, .slice e.A e.n e.c, .int .i64 e.K] : List Value).length = 4 := rfl
  refine ⟨h.touch.trans (touch_set rfl h0 (by omega) (by rw [hlen]; omega) hc hs), ?_⟩
  obtain ⟨c2, k1, k2, k3, k4⟩ := set_row g [.int .i64 e.q, .int .i64 e.M, .slice e.A e.n e.c, .int .i64 e.K] (o + kept.length * 4) wr hc (by rw [hlen]; omega)
  rw [hlen] at k3 k4
  refine ⟨c2, k1, by omega, fun j hj => ?_, fun j hj hj2 => ?_⟩
  · rw [ccells_app]
    by_cases hjk : j < kept.length * 4
    · rw [List.getElem?_append_left (by rw [ccells_len]; exact hjk), k3 _ (by omega)]
      exact h1 j hjk
    · rw [List.length_append, List.length_singleton] at hj
      rw [List.getElem?_append_right (by rw [ccells_len]; omega), ccells_len]
      have := k4 (j - kept.length * 4) (by omega)
      rw [show o + kept.length * 4 + (j - kept.length * 4) = o + j by omega] at this
      rw [this]
      simp [ccells, CEl.cells]
  · rw [k3 _ (by omega)]
    exact h2 j (by omega) hj2
/-- The cells behind the kept elements are written over. -/
theorem Work.clear (h : Work N0 g o m els w wr kept p) (h0 : 0 < m) (hk : kept.length ≤ m) {vs : List Value} (hv : vs.length = (m - kept.length) * 4) : Work N0 g o m els w (wr.setCells g (o + kept.length * 4) vs) kept m := by
  obtain ⟨cur, hc, hs, h1, h2⟩ := h.row
  refine ⟨h.touch.trans (touch_set rfl h0 (by omega) (by rw [hv]; omega) hc hs), ?_⟩
  obtain ⟨c2, k1, k2, k3, _⟩ := set_row g vs (o + kept.length * 4) wr hc (by rw [hv]; omega)
  exact ⟨c2, k1, by omega, fun j hj => (k3 _ (by omega)).trans (h1 j hj), fun j hj hj2 => by omega⟩
/-- The kept elements as a part. -/
theorem Work.done (h : Work N0 g o m els w wr kept p) (hv : CV N0 N w (some ⟨g, o, none⟩) m els) (hk : ∀ e ∈ kept, e ∈ els) (hl : kept.length ≤ m) : CV N0 N wr (some ⟨g, o, none⟩) kept.length kept := by
  refine ⟨rfl, by have := hv.few; omega, fun e he => (hv.ints e (hk e he)).touch (hv.rows e (hk e he)) h.touch hv.typed, fun e he => (hv.rows e (hk e he)).touch h.touch hv.typed, fun h0 => ?_⟩
  obtain ⟨cur, hc, hs, h1, _⟩ := h.row
  obtain ⟨g', o', cur', hA, hN, _⟩ := hv.row (by omega)
  cases hA
  exact ⟨g, o, cur, rfl, hN, hc, by omega, h1⟩
theorem Work.ints (h : Work N0 g o m els w wr kept p) (hv : CV N0 N w (some ⟨g, o, none⟩) m els) {e : CEl} (he : e ∈ els) : IntsAt wr e.A e.n e.xs := (hv.ints e he).touch (hv.rows e he) h.touch hv.typed
end
end Go.Proofs.YtkgnlloioaobiaaGreat

/-
  slices.CompactFunc at conditions, with wide.equal and with wide.sameSlope.
-/
namespace Go.Proofs.YtkgnlloioaobiaaGreat
open Go.RowKit
set_option linter.unusedVariables false
set_option maxRecDepth 100000
set_option linter.unusedSimpArgs false

def sameE (a b : CEl) : Bool := decide (a.xs = b.xs)
def equalE (a b : CEl) : Bool := ordC a.q a.M a.xs a.K b.q b.M b.xs b.K == 0

theorem below_grow {w : World} (q : Nat) (os : Array Obj) : Below w.heap.size w (Go.Sort.grow (w.drewN q) os) := by
  refine ⟨rfl, rfl, rfl, ?_, fun k hk => ?_⟩
  · show w.heap.size ≤ (w.heap ++ os).size
    simp
  · show (w.heap ++ os)[k]? = _
    rw [Array.getElem?_append_left hk]
theorem comp_go {R : CEl → CEl → Bool} {els : List CEl} {i : Nat} {p a : CEl} (hi : 0 < i) (hp : els[i - 1]? = some p) (ha : els[i]? = some a) (hv : R a p = false) : comp R (els.take (i + 1)) = comp R (els.take i) ++ [a] := by
  rw [comp_snoc R hi hp ha, hv]; rfl
theorem comp_drop {R : CEl → CEl → Bool} {els : List CEl} {i : Nat} {p a : CEl} (hi : 0 < i) (hp : els[i - 1]? = some p) (ha : els[i]? = some a) (hv : R a p = true) : comp R (els.take (i + 1)) = comp R (els.take i) := by
  rw [comp_snoc R hi hp ha, hv]; rfl

/-- What CompactFunc leaves. -/
def CompRet (N0 N : Nat) (w : World) (e : Ending) (w' : World) (A : Option Addr) (m c : Nat) (out : List CEl) : Prop :=
  ∃ k, e = .returned (.slice A k c) ∧ CV N0 N w' A k out ∧ Touch A m w w' ∧ k ≤ m

theorem comp_short {R : CEl → CEl → Bool} {els : List CEl} (h : els.length < 2) : comp R els = els := by
  match els, h with
  | [], _ => rfl
  | [a], _ => rfl



set_option maxHeartbeats 8000000 in
theorem compact_equal {N0 N : Nat} {g o m c n : Nat} {els : List CEl} (w : World) (h : CV N0 N w (some ⟨g, o, none⟩) m els) (hm : 2 ≤ m) (hmc : m ≤ c) (hc : c ≤ 9223372036854775807) (hn : ∀ e ∈ els, e.n = n) :
    Calls Tryz.prog 119 #[.slice (some ⟨g, o, none⟩) m c, .func (.func 122) #[] #[]] w fun e w' => CompRet N0 N w e w' (some ⟨g, o, none⟩) m c (comp equalE els) := by
  have HL := Lib.hid h.len
  have hfew := h.few
  have HN := Lib.hid hn
  have hq2 : ¬ (m : Int) < 2 := by omega
  go_enter Tryz.func119, Tryz.ntmps119
  go_wp2
  clear hq2
  go_loopw [5] (fun v wr => ∃ i : Nat, i + 1 ≤ m ∧ v = .int .i64 ((i + 1 : Nat) : Int) ∧ comp equalE (els.take (i + 1)) = els.take (i + 1) ∧ Below w.heap.size w wr) (fun v _ => m - (intOf v).toNat)
  case atStart => exact ⟨0, by omega, rfl, comp_one equalE, Below.refl _ _⟩
  case round =>
    obtain ⟨i, hi, rfl, hcomp, hbr⟩ := hrel
    have HC := Lib.hid hcomp
    have W0 := Work.start h (by omega) hbr (i + 1) hi
    have hglt := W0.lt
    clear hcomp
    by_cases hlt : i + 1 < m
    · obtain ⟨a, hea⟩ : ∃ a, els[i + 1]? = some a := ⟨_, List.getElem?_eq_getElem (by rw [HL.out]; exact hlt)⟩
      obtain ⟨b, heb⟩ : ∃ b, els[i]? = some b := ⟨_, List.getElem?_eq_getElem (by rw [HL.out]; omega)⟩
      obtain ⟨x0, x1, x2, x3⟩ := W0.cells (Nat.zero_le _) hlt hea
      obtain ⟨y0, y1, y2, y3⟩ := W0.cells (Nat.zero_le _) (show i < m by omega) heb
      have ma := List.mem_of_getElem? hea
      have mb := List.mem_of_getElem? heb
      have hin := W0.ints h ma
      have hin' := W0.ints h mb
      have na := HN.out a ma
      have nb := HN.out b mb
      obtain ⟨eq, eM, eA, en, ec, eK, exs⟩ := a
      obtain ⟨eq', eM', eA', en', ec', eK', exs'⟩ := b
      simp only at na nb x0 x1 x2 x3 y0 y1 y2 y3 hin hin'
      subst nb
      subst na
      have HEJ := Lib.hid hea
      have HEJ' := Lib.hid heb
      have hq1 : (i : Int) + 1 < m := by omega
      have hq0 : (i : Int) < m := by omega
      have hp0 : (0 : Int) ≤ (i : Int) := by omega
      have hp1 : (0 : Int) ≤ (i : Int) + 1 := by omega
      have hnt : ((i : Int) + 1).toNat = i + 1 := by omega
      have hwr : IntKind.i64.wrap (i : Int) = (i : Int) := IntWalk.i64_in _ (by omega)
      replace hin := hin.step (Below.refl _ wr).drew
      replace hin' := hin'.step (Below.refl _ wr).drew
      have hbd := hbr.drew
      clear hea heb ma mb hbr W0
      cases hv : equalE ⟨eq, eM, eA, en, ec, eK, exs⟩ ⟨eq', eM', eA', en, ec', eK', exs'⟩
      · have HV := Lib.hid (show (ordC eq eM exs eK eq' eM' exs' eK' == 0) = false from hv)
        have HW := Lib.hid (show comp equalE (els.take (i + 1 + 1)) = els.take (i + 1 + 1) by rw [comp_go (by omega) HEJ'.out HEJ.out hv, HC.out, List.take_succ_eq_append_getElem (i := i + 1) (by rw [HL.out]; exact hlt)]; congr 2; exact (List.getElem?_eq_some_iff.1 HEJ.out).2.symm)
        clear hv
        go_wp2
        go_region_held3 (fun W => W.cell? ⟨g, o + (i + 1) * 4, none⟩ = some (.int .i64 eq) ∧ W.cell? ⟨g, o + (i + 1) * 4 + 1, none⟩ = some (.int .i64 eM) ∧ W.cell? ⟨g, o + (i + 1) * 4 + 2, none⟩ = some (.slice eA en ec) ∧ W.cell? ⟨g, o + (i + 1) * 4 + 3, none⟩ = some (.int .i64 eK) ∧ W.cell? ⟨g, o + i * 4, none⟩ = some (.int .i64 eq') ∧ W.cell? ⟨g, o + i * 4 + 1, none⟩ = some (.int .i64 eM') ∧ W.cell? ⟨g, o + i * 4 + 2, none⟩ = some (.slice eA' en ec') ∧ W.cell? ⟨g, o + i * 4 + 3, none⟩ = some (.int .i64 eK')) (first | with_reducible exact ⟨x0, x1, x2, x3, y0, y1, y2, y3⟩ | with_reducible exact ⟨z0, z1, z2, z3, z4, z5, z6, z7⟩ | go_keep) (first | (go_at_call 122; refine (wide_equal _ _ _ _ _ _ exs _ _ _ _ _ exs' _ hin hin').mono ?_; rintro e w4 ⟨rfl, q4, os4, hw4⟩; have hb : Below wr.drew.heap.size wr.drew w4 := (by rw [hw4]; exact below_grow q4 os4); clear hw4; rw [HV.out]; have hbe := (Below.refl wr.heap.size wr).drew.trans hb; have z0 := (hbe.cell (p := ⟨g, o + (i + 1) * 4, none⟩) hglt).trans x0; have z1 := (hbe.cell (p := ⟨g, o + (i + 1) * 4 + 1, none⟩) hglt).trans x1; have z2 := (hbe.cell (p := ⟨g, o + (i + 1) * 4 + 2, none⟩) hglt).trans x2; have z3 := (hbe.cell (p := ⟨g, o + (i + 1) * 4 + 3, none⟩) hglt).trans x3; have z4 := (hbe.cell (p := ⟨g, o + i * 4, none⟩) hglt).trans y0; have z5 := (hbe.cell (p := ⟨g, o + i * 4 + 1, none⟩) hglt).trans y1; have z6 := (hbe.cell (p := ⟨g, o + i * 4 + 2, none⟩) hglt).trans y2; have z7 := (hbe.cell (p := ⟨g, o + i * 4 + 3, none⟩) hglt).trans y3; replace hbd := hbd.trans (hb.mono hbd.size)))
        all_goals
          go_wp2
          go_roundw
          case rel => exact ⟨i + 1, by omega, by go_num, HW.out, hbd⟩
          case measure => simp [intOf]; omega
      · have HV := Lib.hid (show (ordC eq eM exs eK eq' eM' exs' eK' == 0) = true from hv)
        have HW := Lib.hid (show comp equalE (els.take (i + 1 + 1)) = els.take (i + 1) by rw [comp_drop (by omega) HEJ'.out HEJ.out hv, HC.out])
        clear hv
        go_wp2
        go_region_held3 (fun W => W.cell? ⟨g, o + (i + 1) * 4, none⟩ = some (.int .i64 eq) ∧ W.cell? ⟨g, o + (i + 1) * 4 + 1, none⟩ = some (.int .i64 eM) ∧ W.cell? ⟨g, o + (i + 1) * 4 + 2, none⟩ = some (.slice eA en ec) ∧ W.cell? ⟨g, o + (i + 1) * 4 + 3, none⟩ = some (.int .i64 eK) ∧ W.cell? ⟨g, o + i * 4, none⟩ = some (.int .i64 eq') ∧ W.cell? ⟨g, o + i * 4 + 1, none⟩ = some (.int .i64 eM') ∧ W.cell? ⟨g, o + i * 4 + 2, none⟩ = some (.slice eA' en ec') ∧ W.cell? ⟨g, o + i * 4 + 3, none⟩ = some (.int .i64 eK')) (first | with_reducible exact ⟨x0, x1, x2, x3, y0, y1, y2, y3⟩ | with_reducible exact ⟨z0, z1, z2, z3, z4, z5, z6, z7⟩ | go_keep) (first | (go_at_call 122; refine (wide_equal _ _ _ _ _ _ exs _ _ _ _ _ exs' _ hin hin').mono ?_; rintro e w4 ⟨rfl, q4, os4, hw4⟩; have hb : Below wr.drew.heap.size wr.drew w4 := (by rw [hw4]; exact below_grow q4 os4); clear hw4; rw [HV.out]; have hbe := (Below.refl wr.heap.size wr).drew.trans hb; have z0 := (hbe.cell (p := ⟨g, o + (i + 1) * 4, none⟩) hglt).trans x0; have z1 := (hbe.cell (p := ⟨g, o + (i + 1) * 4 + 1, none⟩) hglt).trans x1; have z2 := (hbe.cell (p := ⟨g, o + (i + 1) * 4 + 2, none⟩) hglt).trans x2; have z3 := (hbe.cell (p := ⟨g, o + (i + 1) * 4 + 3, none⟩) hglt).trans x3; have z4 := (hbe.cell (p := ⟨g, o + i * 4, none⟩) hglt).trans y0; have z5 := (hbe.cell (p := ⟨g, o + i * 4 + 1, none⟩) hglt).trans y1; have z6 := (hbe.cell (p := ⟨g, o + i * 4 + 2, none⟩) hglt).trans y2; have z7 := (hbe.cell (p := ⟨g, o + i * 4 + 3, none⟩) hglt).trans y3; replace hbd := hbd.trans (hb.mono hbd.size)))
        all_goals
          go_wp2
          have W0 := (Work.start h (by omega) hbd (i + 1) hi).weak (Nat.zero_le (i + 1))
          clear z0 z1 z2 z3 z4 z5 z6 z7 x0 x1 x2 x3 y0 y1 y2 y3 hin hin' hb hbe hbd hglt
          go_loopw [5, 7] (fun u v wr => ∃ (j : Nat) (kept : List CEl), i + 1 + j + 1 ≤ m ∧ v = .int .i64 ((j + 1 : Nat) : Int) ∧ u = .int .i64 (kept.length : Int) ∧ comp equalE (els.take (i + 1 + j + 1)) = kept ∧ kept.length ≤ i + 1 + j ∧ Work N0 g o m els w wr kept (i + 1 + j)) (fun _ v _ => m - (intOf v).toNat)
          case atStart => exact ⟨0, els.take (i + 1), by omega, rfl, (by rw [List.length_take, HL.out, Nat.min_eq_left hi]; rfl), HW.out, (by rw [List.length_take]; exact Nat.min_le_left _ _), W0⟩
          case round =>
            obtain ⟨j, kept, hj, rfl, rfl, hcomp, hkl, W1⟩ := hrel
            have HC2 := Lib.hid hcomp
            have hglt := W1.lt
            clear hcomp W0
            generalize hkn : kept.length = K at *
            have HK := Lib.hid hkn
            clear hkn
            by_cases hlt2 : i + 1 + j + 1 < m
            · obtain ⟨a, hea⟩ : ∃ a, els[i + 1 + j + 1]? = some a := ⟨_, List.getElem?_eq_getElem (by rw [HL.out]; exact hlt2)⟩
              obtain ⟨b, heb⟩ : ∃ b, els[i + 1 + j]? = some b := ⟨_, List.getElem?_eq_getElem (by rw [HL.out]; omega)⟩
              obtain ⟨x0, x1, x2, x3⟩ := W1.cells (Nat.le_succ _) hlt2 hea
              obtain ⟨y0, y1, y2, y3⟩ := W1.cells (Nat.le_refl _) (show i + 1 + j < m by omega) heb
              have ma := List.mem_of_getElem? hea
              have mb := List.mem_of_getElem? heb
              have hin := W1.ints h ma
              have hin' := W1.ints h mb
              have na := HN.out a ma
              have nb := HN.out b mb
              obtain ⟨fq, fM, fA, fn, fc, fK, fxs⟩ := a
              obtain ⟨fq', fM', fA', fn', fc', fK', fxs'⟩ := b
              rw [show o + (i + 1 + j + 1) * 4 = o + (i + 1) * 4 + (j + 1) * 4 by omega] at x0 x1 x2 x3
              rw [show o + (i + 1 + j) * 4 = o + (i + 1) * 4 + j * 4 by omega] at y0 y1 y2 y3
              simp only at na nb x0 x1 x2 x3 y0 y1 y2 y3 hin hin'
              obtain rfl : fn = fn' := na.trans nb.symm
              have HEJ2 := Lib.hid hea
              have HEJ2' := Lib.hid heb
              have HNA := Lib.hid na
              have hr1 : (j : Int) + 1 < ((m - (i + 1) : Nat) : Int) := by omega
              have hr0 : (j : Int) < ((m - (i + 1) : Nat) : Int) := by omega
              have hp0 : (0 : Int) ≤ (j : Int) := by omega
              have hp1 : (0 : Int) ≤ (j : Int) + 1 := by omega
              have hnt : ((j : Int) + 1).toNat = j + 1 := by omega
              have hwr : IntKind.i64.wrap (j : Int) = (j : Int) := IntWalk.i64_in _ (by omega)
              replace hin := hin.step (Below.refl _ wr).drew
              replace hin' := hin'.step (Below.refl _ wr).drew
              clear hea heb ma mb na nb
              cases hv : equalE ⟨fq, fM, fA, fn, fc, fK, fxs⟩ ⟨fq', fM', fA', fn, fc', fK', fxs'⟩
              · have HV := Lib.hid (show (ordC fq fM fxs fK fq' fM' fxs' fK' == 0) = false from hv)
                have HW2 := Lib.hid (show comp equalE (els.take (i + 1 + (j + 1) + 1)) = kept ++ [⟨fq, fM, fA, fn, fc, fK, fxs⟩] from by have := comp_go (R := equalE) (by omega) HEJ2'.out HEJ2.out hv; rw [HC2.out] at this; exact this)
                clear hv
                go_wp2
                go_region_held3 (fun W => W.cell? ⟨g, o + (i + 1) * 4 + (j + 1) * 4, none⟩ = some (.int .i64 fq) ∧ W.cell? ⟨g, o + (i + 1) * 4 + (j + 1) * 4 + 1, none⟩ = some (.int .i64 fM) ∧ W.cell? ⟨g, o + (i + 1) * 4 + (j + 1) * 4 + 2, none⟩ = some (.slice fA fn fc) ∧ W.cell? ⟨g, o + (i + 1) * 4 + (j + 1) * 4 + 3, none⟩ = some (.int .i64 fK) ∧ W.cell? ⟨g, o + (i + 1) * 4 + j * 4, none⟩ = some (.int .i64 fq') ∧ W.cell? ⟨g, o + (i + 1) * 4 + j * 4 + 1, none⟩ = some (.int .i64 fM') ∧ W.cell? ⟨g, o + (i + 1) * 4 + j * 4 + 2, none⟩ = some (.slice fA' fn fc') ∧ W.cell? ⟨g, o + (i + 1) * 4 + j * 4 + 3, none⟩ = some (.int .i64 fK')) (first | with_reducible exact ⟨x0, x1, x2, x3, y0, y1, y2, y3⟩ | with_reducible exact ⟨z0, z1, z2, z3, z4, z5, z6, z7⟩ | go_keep) (first | (go_at_call 122; refine (wide_equal _ _ _ _ _ _ fxs _ _ _ _ _ fxs' _ hin hin').mono ?_; rintro e w5 ⟨rfl, q5, os5, hw5⟩; have hb : Below wr.drew.heap.size wr.drew w5 := (by rw [hw5]; exact below_grow q5 os5); clear hw5; rw [HV.out]; have hbe := (Below.refl wr.heap.size wr).drew.trans hb; have z0 := (hbe.cell (p := ⟨g, o + (i + 1) * 4 + (j + 1) * 4, none⟩) hglt).trans x0; have z1 := (hbe.cell (p := ⟨g, o + (i + 1) * 4 + (j + 1) * 4 + 1, none⟩) hglt).trans x1; have z2 := (hbe.cell (p := ⟨g, o + (i + 1) * 4 + (j + 1) * 4 + 2, none⟩) hglt).trans x2; have z3 := (hbe.cell (p := ⟨g, o + (i + 1) * 4 + (j + 1) * 4 + 3, none⟩) hglt).trans x3; have z4 := (hbe.cell (p := ⟨g, o + (i + 1) * 4 + j * 4, none⟩) hglt).trans y0; have z5 := (hbe.cell (p := ⟨g, o + (i + 1) * 4 + j * 4 + 1, none⟩) hglt).trans y1; have z6 := (hbe.cell (p := ⟨g, o + (i + 1) * 4 + j * 4 + 2, none⟩) hglt).trans y2; have z7 := (hbe.cell (p := ⟨g, o + (i + 1) * 4 + j * 4 + 3, none⟩) hglt).trans y3; have W2 := W1.step hbe))
                all_goals
                  obtain ⟨cur5, hc5, hs5, _⟩ := W2.row
                  obtain ⟨⟨⟨u0, t0⟩, f0⟩, ⟨⟨u1, t1⟩, f1⟩, ⟨⟨u2, t2⟩, f2⟩, ⟨u3, t3⟩, f3⟩ := four_stores hc5 (q := o + K * 4) (by omega) (.int .i64 fq) (.int .i64 fM) (.slice fA fn fc)
                  have W3 := W2.put (q := i + 1 + (j + 1)) (by rw [HK.out]; exact hkl) (by omega) ⟨fq, fM, fA, fn, fc, fK, fxs⟩ (by omega) (by omega)
                  rw [HK.out] at W3
                  have W4 := Lib.hid W3
                  have hk1 : (K : Int) < m := by omega
                  clear W3 hc5 hs5
                  go_wp2
                  go_roundw
                  case rel => exact ⟨j + 1, kept ++ [⟨fq, fM, fA, fn, fc, fK, fxs⟩], by omega, by go_num, (by rw [List.length_append, HK.out]; go_num), HW2.out, (by rw [List.length_append, HK.out]; simp; omega), W4.out⟩
                  case measure => simp [intOf]; omega
              · have HV := Lib.hid (show (ordC fq fM fxs fK fq' fM' fxs' fK' == 0) = true from hv)
                have HW2 := Lib.hid (show comp equalE (els.take (i + 1 + (j + 1) + 1)) = kept from by have := comp_drop (R := equalE) (by omega) HEJ2'.out HEJ2.out hv; rw [HC2.out] at this; exact this)
                clear hv
                go_wp2
                go_region_held3 (fun W => W.cell? ⟨g, o + (i + 1) * 4 + (j + 1) * 4, none⟩ = some (.int .i64 fq) ∧ W.cell? ⟨g, o + (i + 1) * 4 + (j + 1) * 4 + 1, none⟩ = some (.int .i64 fM) ∧ W.cell? ⟨g, o + (i + 1) * 4 + (j + 1) * 4 + 2, none⟩ = some (.slice fA fn fc) ∧ W.cell? ⟨g, o + (i + 1) * 4 + (j + 1) * 4 + 3, none⟩ = some (.int .i64 fK) ∧ W.cell? ⟨g, o + (i + 1) * 4 + j * 4, none⟩ = some (.int .i64 fq') ∧ W.cell? ⟨g, o + (i + 1) * 4 + j * 4 + 1, none⟩ = some (.int .i64 fM') ∧ W.cell? ⟨g, o + (i + 1) * 4 + j * 4 + 2, none⟩ = some (.slice fA' fn fc') ∧ W.cell? ⟨g, o + (i + 1) * 4 + j * 4 + 3, none⟩ = some (.int .i64 fK')) (first | with_reducible exact ⟨x0, x1, x2, x3, y0, y1, y2, y3⟩ | with_reducible exact ⟨z0, z1, z2, z3, z4, z5, z6, z7⟩ | go_keep) (first | (go_at_call 122; refine (wide_equal _ _ _ _ _ _ fxs _ _ _ _ _ fxs' _ hin hin').mono ?_; rintro e w5 ⟨rfl, q5, os5, hw5⟩; have hb : Below wr.drew.heap.size wr.drew w5 := (by rw [hw5]; exact below_grow q5 os5); clear hw5; rw [HV.out]; have hbe := (Below.refl wr.heap.size wr).drew.trans hb; have z0 := (hbe.cell (p := ⟨g, o + (i + 1) * 4 + (j + 1) * 4, none⟩) hglt).trans x0; have z1 := (hbe.cell (p := ⟨g, o + (i + 1) * 4 + (j + 1) * 4 + 1, none⟩) hglt).trans x1; have z2 := (hbe.cell (p := ⟨g, o + (i + 1) * 4 + (j + 1) * 4 + 2, none⟩) hglt).trans x2; have z3 := (hbe.cell (p := ⟨g, o + (i + 1) * 4 + (j + 1) * 4 + 3, none⟩) hglt).trans x3; have z4 := (hbe.cell (p := ⟨g, o + (i + 1) * 4 + j * 4, none⟩) hglt).trans y0; have z5 := (hbe.cell (p := ⟨g, o + (i + 1) * 4 + j * 4 + 1, none⟩) hglt).trans y1; have z6 := (hbe.cell (p := ⟨g, o + (i + 1) * 4 + j * 4 + 2, none⟩) hglt).trans y2; have z7 := (hbe.cell (p := ⟨g, o + (i + 1) * 4 + j * 4 + 3, none⟩) hglt).trans y3; have W2 := W1.step hbe))
                all_goals
                  go_wp2
                  go_roundw
                  case rel => exact ⟨j + 1, kept, by omega, by go_num, by rw [HK.out], HW2.out, by rw [HK.out]; omega, W2.weak (by omega)⟩
                  case measure => simp [intOf]; omega
            · have hend : i + 1 + j + 1 = m := by omega
              have HR := Lib.hid (show comp equalE els = kept by rw [← HC2.out, hend, List.take_of_length_le (by rw [HL.out]; exact Nat.le_refl _)])
              obtain ⟨cur5, hc5, hs5, _⟩ := W1.row
              obtain ⟨vs, hvs, hcl⟩ := run_clear_conds wr 34 Tryz.underlying34 g (o + K * 4) (m - K) (c - K) (by omega) (fun q hq => by have := W1.some_cell (j := K * 4 + q) (by omega); rwa [← Nat.add_assoc] at this) (fun q hq => W1.free _)
              have W5 := W1.clear (by omega) (by rw [HK.out]; omega) (vs := vs) (by rw [HK.out]; exact hvs)
              rw [HK.out] at W5
              have hsub : ∀ e ∈ kept, e ∈ els := fun e he => (comp_sub equalE els).subset (by rw [HR.out]; exact he)
              have hdone := W5.done h hsub (by rw [HK.out]; omega)
              rw [HK.out] at hdone
              have HD := Lib.hid (And.intro hdone W5.touch)
              have hkm : K ≤ m := by omega
              have hlt3 : ¬ ((j : Int) + 1 < ((m - (i + 1) : Nat) : Int)) := by omega
              have hk1 : (K : Int) ≤ m := by omega
              have hk2 : (K : Int) ≤ c := by omega
              have hk3 : K < m := by omega
              have hk4 : K < c := by omega
              clear hdone W5 hc5 hs5 hsub hvs
              go_wp2
              go_ret
              rw [HR.out]
              exact ⟨K, rfl, HD.out.1, HD.out.2, hkm⟩
    · obtain rfl : i + 1 = m := by omega
      have HR := Lib.hid (show comp equalE els = els by have := HC.out; rwa [List.take_of_length_le (by rw [HL.out]; exact Nat.le_refl _)] at this)
      have hge : ¬ ((i : Int) + 1 < (i : Int) + 1) := by omega
      go_wp2
      go_ret
      rw [HR.out]
      exact ⟨_, rfl, h.step hbr, Touch.of_below hbr, Nat.le_refl _⟩

set_option maxHeartbeats 8000000 in
theorem compact_slope {N0 N : Nat} {g o m c n : Nat} {els : List CEl} (w : World) (h : CV N0 N w (some ⟨g, o, none⟩) m els) (hm : 2 ≤ m) (hmc : m ≤ c) (hc : c ≤ 9223372036854775807) (hn : ∀ e ∈ els, e.n = n) :
    Calls Tryz.prog 119 #[.slice (some ⟨g, o, none⟩) m c, .func (.func 120) #[] #[]] w fun e w' => CompRet N0 N w e w' (some ⟨g, o, none⟩) m c (comp sameE els) := by
  have HL := Lib.hid h.len
  have hfew := h.few
  have HN := Lib.hid hn
  have hq2 : ¬ (m : Int) < 2 := by omega
  go_enter Tryz.func119, Tryz.ntmps119
  go_wp2
  clear hq2
  go_loopw [5] (fun v wr => ∃ i : Nat, i + 1 ≤ m ∧ v = .int .i64 ((i + 1 : Nat) : Int) ∧ comp sameE (els.take (i + 1)) = els.take (i + 1) ∧ Below w.heap.size w wr) (fun v _ => m - (intOf v).toNat)
  case atStart => exact ⟨0, by omega, rfl, comp_one sameE, Below.refl _ _⟩
  case round =>
    obtain ⟨i, hi, rfl, hcomp, hbr⟩ := hrel
    have HC := Lib.hid hcomp
    have W0 := Work.start h (by omega) hbr (i + 1) hi
    have hglt := W0.lt
    clear hcomp
    by_cases hlt : i + 1 < m
    · obtain ⟨a, hea⟩ : ∃ a, els[i + 1]? = some a := ⟨_, List.getElem?_eq_getElem (by rw [HL.out]; exact hlt)⟩
      obtain ⟨b, heb⟩ : ∃ b, els[i]? = some b := ⟨_, List.getElem?_eq_getElem (by rw [HL.out]; omega)⟩
      obtain ⟨x0, x1, x2, x3⟩ := W0.cells (Nat.zero_le _) hlt hea
      obtain ⟨y0, y1, y2, y3⟩ := W0.cells (Nat.zero_le _) (show i < m by omega) heb
      have ma := List.mem_of_getElem? hea
      have mb := List.mem_of_getElem? heb
      have hin := W0.ints h ma
      have hin' := W0.ints h mb
      have na := HN.out a ma
      have nb := HN.out b mb
      obtain ⟨eq, eM, eA, en, ec, eK, exs⟩ := a
      obtain ⟨eq', eM', eA', en', ec', eK', exs'⟩ := b
      simp only at na nb x0 x1 x2 x3 y0 y1 y2 y3 hin hin'
      subst nb
      subst na
      have HEJ := Lib.hid hea
      have HEJ' := Lib.hid heb
      have hq1 : (i : Int) + 1 < m := by omega
      have hq0 : (i : Int) < m := by omega
      have hp0 : (0 : Int) ≤ (i : Int) := by omega
      have hp1 : (0 : Int) ≤ (i : Int) + 1 := by omega
      have hnt : ((i : Int) + 1).toNat = i + 1 := by omega
      have hwr : IntKind.i64.wrap (i : Int) = (i : Int) := IntWalk.i64_in _ (by omega)
      replace hin := hin.step (Below.refl _ wr).drew
      replace hin' := hin'.step (Below.refl _ wr).drew
      have hbd := hbr.drew
      clear hea heb ma mb hbr W0
      cases hv : sameE ⟨eq, eM, eA, en, ec, eK, exs⟩ ⟨eq', eM', eA', en, ec', eK', exs'⟩
      · have HV := Lib.hid (show decide (exs = exs') = false from hv)
        have HW := Lib.hid (show comp sameE (els.take (i + 1 + 1)) = els.take (i + 1 + 1) by rw [comp_go (by omega) HEJ'.out HEJ.out hv, HC.out, List.take_succ_eq_append_getElem (i := i + 1) (by rw [HL.out]; exact hlt)]; congr 2; exact (List.getElem?_eq_some_iff.1 HEJ.out).2.symm)
        clear hv
        go_wp2
        go_region_held3 (fun W => W.cell? ⟨g, o + (i + 1) * 4, none⟩ = some (.int .i64 eq) ∧ W.cell? ⟨g, o + (i + 1) * 4 + 1, none⟩ = some (.int .i64 eM) ∧ W.cell? ⟨g, o + (i + 1) * 4 + 2, none⟩ = some (.slice eA en ec) ∧ W.cell? ⟨g, o + (i + 1) * 4 + 3, none⟩ = some (.int .i64 eK) ∧ W.cell? ⟨g, o + i * 4, none⟩ = some (.int .i64 eq') ∧ W.cell? ⟨g, o + i * 4 + 1, none⟩ = some (.int .i64 eM') ∧ W.cell? ⟨g, o + i * 4 + 2, none⟩ = some (.slice eA' en ec') ∧ W.cell? ⟨g, o + i * 4 + 3, none⟩ = some (.int .i64 eK')) (first | with_reducible exact ⟨x0, x1, x2, x3, y0, y1, y2, y3⟩ | with_reducible exact ⟨z0, z1, z2, z3, z4, z5, z6, z7⟩ | go_keep) (first | (go_at_call 120; refine (same_slope _ _ _ _ _ _ exs _ _ _ _ _ exs' _ hin hin').mono ?_; rintro e w4 ⟨rfl, q4, os4, hw4⟩; have hb : Below wr.drew.heap.size wr.drew w4 := (by rw [hw4]; exact below_grow q4 os4); clear hw4; rw [HV.out]; have hbe := (Below.refl wr.heap.size wr).drew.trans hb; have z0 := (hbe.cell (p := ⟨g, o + (i + 1) * 4, none⟩) hglt).trans x0; have z1 := (hbe.cell (p := ⟨g, o + (i + 1) * 4 + 1, none⟩) hglt).trans x1; have z2 := (hbe.cell (p := ⟨g, o + (i + 1) * 4 + 2, none⟩) hglt).trans x2; have z3 := (hbe.cell (p := ⟨g, o + (i + 1) * 4 + 3, none⟩) hglt).trans x3; have z4 := (hbe.cell (p := ⟨g, o + i * 4, none⟩) hglt).trans y0; have z5 := (hbe.cell (p := ⟨g, o + i * 4 + 1, none⟩) hglt).trans y1; have z6 := (hbe.cell (p := ⟨g, o + i * 4 + 2, none⟩) hglt).trans y2; have z7 := (hbe.cell (p := ⟨g, o + i * 4 + 3, none⟩) hglt).trans y3; replace hbd := hbd.trans (hb.mono hbd.size)))
        all_goals
          go_wp2
          go_roundw
          case rel => exact ⟨i + 1, by omega, by go_num, HW.out, hbd⟩
          case measure => simp [intOf]; omega
      · have HV := Lib.hid (show decide (exs = exs') = true from hv)
        have HW := Lib.hid (show comp sameE (els.take (i + 1 + 1)) = els.take (i + 1) by rw [comp_drop (by omega) HEJ'.out HEJ.out hv, HC.out])
        clear hv
        go_wp2
        go_region_held3 (fun W => W.cell? ⟨g, o + (i + 1) * 4, none⟩ = some (.int .i64 eq) ∧ W.cell? ⟨g, o + (i + 1) * 4 + 1, none⟩ = some (.int .i64 eM) ∧ W.cell? ⟨g, o + (i + 1) * 4 + 2, none⟩ = some (.slice eA en ec) ∧ W.cell? ⟨g, o + (i + 1) * 4 + 3, none⟩ = some (.int .i64 eK) ∧ W.cell? ⟨g, o + i * 4, none⟩ = some (.int .i64 eq') ∧ W.cell? ⟨g, o + i * 4 + 1, none⟩ = some (.int .i64 eM') ∧ W.cell? ⟨g, o + i * 4 + 2, none⟩ = some (.slice eA' en ec') ∧ W.cell? ⟨g, o + i * 4 + 3, none⟩ = some (.int .i64 eK')) (first | with_reducible exact ⟨x0, x1, x2, x3, y0, y1, y2, y3⟩ | with_reducible exact ⟨z0, z1, z2, z3, z4, z5, z6, z7⟩ | go_keep) (first | (go_at_call 120; refine (same_slope _ _ _ _ _ _ exs _ _ _ _ _ exs' _ hin hin').mono ?_; rintro e w4 ⟨rfl, q4, os4, hw4⟩; have hb : Below wr.drew.heap.size wr.drew w4 := (by rw [hw4]; exact below_grow q4 os4); clear hw4; rw [HV.out]; have hbe := (Below.refl wr.heap.size wr).drew.trans hb; have z0 := (hbe.cell (p := ⟨g, o + (i + 1) * 4, none⟩) hglt).trans x0; have z1 := (hbe.cell (p := ⟨g, o + (i + 1) * 4 + 1, none⟩) hglt).trans x1; have z2 := (hbe.cell (p := ⟨g, o + (i + 1) * 4 + 2, none⟩) hglt).trans x2; have z3 := (hbe.cell (p := ⟨g, o + (i + 1) * 4 + 3, none⟩) hglt).trans x3; have z4 := (hbe.cell (p := ⟨g, o + i * 4, none⟩) hglt).trans y0; have z5 := (hbe.cell (p := ⟨g, o + i * 4 + 1, none⟩) hglt).trans y1; have z6 := (hbe.cell (p := ⟨g, o + i * 4 + 2, none⟩) hglt).trans y2; have z7 := (hbe.cell (p := ⟨g, o + i * 4 + 3, none⟩) hglt).trans y3; replace hbd := hbd.trans (hb.mono hbd.size)))
        all_goals
          go_wp2
          have W0 := (Work.start h (by omega) hbd (i + 1) hi).weak (Nat.zero_le (i + 1))
          clear z0 z1 z2 z3 z4 z5 z6 z7 x0 x1 x2 x3 y0 y1 y2 y3 hin hin' hb hbe hbd hglt
          go_loopw [5, 7] (fun u v wr => ∃ (j : Nat) (kept : List CEl), i + 1 + j + 1 ≤ m ∧ v = .int .i64 ((j + 1 : Nat) : Int) ∧ u = .int .i64 (kept.length : Int) ∧ comp sameE (els.take (i + 1 + j + 1)) = kept ∧ kept.length ≤ i + 1 + j ∧ Work N0 g o m els w wr kept (i + 1 + j)) (fun _ v _ => m - (intOf v).toNat)
          case atStart => exact ⟨0, els.take (i + 1), by omega, rfl, (by rw [List.length_take, HL.out, Nat.min_eq_left hi]; rfl), HW.out, (by rw [List.length_take]; exact Nat.min_le_left _ _), W0⟩
          case round =>
            obtain ⟨j, kept, hj, rfl, rfl, hcomp, hkl, W1⟩ := hrel
            have HC2 := Lib.hid hcomp
            have hglt := W1.lt
            clear hcomp W0
            generalize hkn : kept.length = K at *
            have HK := Lib.hid hkn
            clear hkn
            by_cases hlt2 : i + 1 + j + 1 < m
            · obtain ⟨a, hea⟩ : ∃ a, els[i + 1 + j + 1]? = some a := ⟨_, List.getElem?_eq_getElem (by rw [HL.out]; exact hlt2)⟩
              obtain ⟨b, heb⟩ : ∃ b, els[i + 1 + j]? = some b := ⟨_, List.getElem?_eq_getElem (by rw [HL.out]; omega)⟩
              obtain ⟨x0, x1, x2, x3⟩ := W1.cells (Nat.le_succ _) hlt2 hea
              obtain ⟨y0, y1, y2, y3⟩ := W1.cells (Nat.le_refl _) (show i + 1 + j < m by omega) heb
              have ma := List.mem_of_getElem? hea
              have mb := List.mem_of_getElem? heb
              have hin := W1.ints h ma
              have hin' := W1.ints h mb
              have na := HN.out a ma
              have nb := HN.out b mb
              obtain ⟨fq, fM, fA, fn, fc, fK, fxs⟩ := a
              obtain ⟨fq', fM', fA', fn', fc', fK', fxs'⟩ := b
              rw [show o + (i + 1 + j + 1) * 4 = o + (i + 1) * 4 + (j + 1) * 4 by omega] at x0 x1 x2 x3
              rw [show o + (i + 1 + j) * 4 = o + (i + 1) * 4 + j * 4 by omega] at y0 y1 y2 y3
              simp only at na nb x0 x1 x2 x3 y0 y1 y2 y3 hin hin'
              obtain rfl : fn = fn' := na.trans nb.symm
              have HEJ2 := Lib.hid hea
              have HEJ2' := Lib.hid heb
              have HNA := Lib.hid na
              have hr1 : (j : Int) + 1 < ((m - (i + 1) : Nat) : Int) := by omega
              have hr0 : (j : Int) < ((m - (i + 1) : Nat) : Int) := by omega
              have hp0 : (0 : Int) ≤ (j : Int) := by omega
              have hp1 : (0 : Int) ≤ (j : Int) + 1 := by omega
              have hnt : ((j : Int) + 1).toNat = j + 1 := by omega
              have hwr : IntKind.i64.wrap (j : Int) = (j : Int) := IntWalk.i64_in _ (by omega)
              replace hin := hin.step (Below.refl _ wr).drew
              replace hin' := hin'.step (Below.refl _ wr).drew
              clear hea heb ma mb na nb
              cases hv : sameE ⟨fq, fM, fA, fn, fc, fK, fxs⟩ ⟨fq', fM', fA', fn, fc', fK', fxs'⟩
              · have HV := Lib.hid (show decide (fxs = fxs') = false from hv)
                have HW2 := Lib.hid (show comp sameE (els.take (i + 1 + (j + 1) + 1)) = kept ++ [⟨fq, fM, fA, fn, fc, fK, fxs⟩] from by have := comp_go (R := sameE) (by omega) HEJ2'.out HEJ2.out hv; rw [HC2.out] at this; exact this)
                clear hv
                go_wp2
                go_region_held3 (fun W => W.cell? ⟨g, o + (i + 1) * 4 + (j + 1) * 4, none⟩ = some (.int .i64 fq) ∧ W.cell? ⟨g, o + (i + 1) * 4 + (j + 1) * 4 + 1, none⟩ = some (.int .i64 fM) ∧ W.cell? ⟨g, o + (i + 1) * 4 + (j + 1) * 4 + 2, none⟩ = some (.slice fA fn fc) ∧ W.cell? ⟨g, o + (i + 1) * 4 + (j + 1) * 4 + 3, none⟩ = some (.int .i64 fK) ∧ W.cell? ⟨g, o + (i + 1) * 4 + j * 4, none⟩ = some (.int .i64 fq') ∧ W.cell? ⟨g, o + (i + 1) * 4 + j * 4 + 1, none⟩ = some (.int .i64 fM') ∧ W.cell? ⟨g, o + (i + 1) * 4 + j * 4 + 2, none⟩ = some (.slice fA' fn fc') ∧ W.cell? ⟨g, o + (i + 1) * 4 + j * 4 + 3, none⟩ = some (.int .i64 fK')) (first | with_reducible exact ⟨x0, x1, x2, x3, y0, y1, y2, y3⟩ | with_reducible exact ⟨z0, z1, z2, z3, z4, z5, z6, z7⟩ | go_keep) (first | (go_at_call 120; refine (same_slope _ _ _ _ _ _ fxs _ _ _ _ _ fxs' _ hin hin').mono ?_; rintro e w5 ⟨rfl, q5, os5, hw5⟩; have hb : Below wr.drew.heap.size wr.drew w5 := (by rw [hw5]; exact below_grow q5 os5); clear hw5; rw [HV.out]; have hbe := (Below.refl wr.heap.size wr).drew.trans hb; have z0 := (hbe.cell (p := ⟨g, o + (i + 1) * 4 + (j + 1) * 4, none⟩) hglt).trans x0; have z1 := (hbe.cell (p := ⟨g, o + (i + 1) * 4 + (j + 1) * 4 + 1, none⟩) hglt).trans x1; have z2 := (hbe.cell (p := ⟨g, o + (i + 1) * 4 + (j + 1) * 4 + 2, none⟩) hglt).trans x2; have z3 := (hbe.cell (p := ⟨g, o + (i + 1) * 4 + (j + 1) * 4 + 3, none⟩) hglt).trans x3; have z4 := (hbe.cell (p := ⟨g, o + (i + 1) * 4 + j * 4, none⟩) hglt).trans y0; have z5 := (hbe.cell (p := ⟨g, o + (i + 1) * 4 + j * 4 + 1, none⟩) hglt).trans y1; have z6 := (hbe.cell (p := ⟨g, o + (i + 1) * 4 + j * 4 + 2, none⟩) hglt).trans y2; have z7 := (hbe.cell (p := ⟨g, o + (i + 1) * 4 + j * 4 + 3, none⟩) hglt).trans y3; have W2 := W1.step hbe))
                all_goals
                  obtain ⟨cur5, hc5, hs5, _⟩ := W2.row
                  obtain ⟨⟨⟨u0, t0⟩, f0⟩, ⟨⟨u1, t1⟩, f1⟩, ⟨⟨u2, t2⟩, f2⟩, ⟨u3, t3⟩, f3⟩ := four_stores hc5 (q := o + K * 4) (by omega) (.int .i64 fq) (.int .i64 fM) (.slice fA fn fc)
                  have W3 := W2.put (q := i + 1 + (j + 1)) (by rw [HK.out]; exact hkl) (by omega) ⟨fq, fM, fA, fn, fc, fK, fxs⟩ (by omega) (by omega)
                  rw [HK.out] at W3
                  have W4 := Lib.hid W3
                  have hk1 : (K : Int) < m := by omega
                  clear W3 hc5 hs5
                  go_wp2
                  go_roundw
                  case rel => exact ⟨j + 1, kept ++ [⟨fq, fM, fA, fn, fc, fK, fxs⟩], by omega, by go_num, (by rw [List.length_append, HK.out]; go_num), HW2.out, (by rw [List.length_append, HK.out]; simp; omega), W4.out⟩
                  case measure => simp [intOf]; omega
              · have HV := Lib.hid (show decide (fxs = fxs') = true from hv)
                have HW2 := Lib.hid (show comp sameE (els.take (i + 1 + (j + 1) + 1)) = kept from by have := comp_drop (R := sameE) (by omega) HEJ2'.out HEJ2.out hv; rw [HC2.out] at this; exact this)
                clear hv
                go_wp2
                go_region_held3 (fun W => W.cell? ⟨g, o + (i + 1) * 4 + (j + 1) * 4, none⟩ = some (.int .i64 fq) ∧ W.cell? ⟨g, o + (i + 1) * 4 + (j + 1) * 4 + 1, none⟩ = some (.int .i64 fM) ∧ W.cell? ⟨g, o + (i + 1) * 4 + (j + 1) * 4 + 2, none⟩ = some (.slice fA fn fc) ∧ W.cell? ⟨g, o + (i + 1) * 4 + (j + 1) * 4 + 3, none⟩ = some (.int .i64 fK) ∧ W.cell? ⟨g, o + (i + 1) * 4 + j * 4, none⟩ = some (.int .i64 fq') ∧ W.cell? ⟨g, o + (i + 1) * 4 + j * 4 + 1, none⟩ = some (.int .i64 fM') ∧ W.cell? ⟨g, o + (i + 1) * 4 + j * 4 + 2, none⟩ = some (.slice fA' fn fc') ∧ W.cell? ⟨g, o + (i + 1) * 4 + j * 4 + 3, none⟩ = some (.int .i64 fK')) (first | with_reducible exact ⟨x0, x1, x2, x3, y0, y1, y2, y3⟩ | with_reducible exact ⟨z0, z1, z2, z3, z4, z5, z6, z7⟩ | go_keep) (first | (go_at_call 120; refine (same_slope _ _ _ _ _ _ fxs _ _ _ _ _ fxs' _ hin hin').mono ?_; rintro e w5 ⟨rfl, q5, os5, hw5⟩; have hb : Below wr.drew.heap.size wr.drew w5 := (by rw [hw5]; exact below_grow q5 os5); clear hw5; rw [HV.out]; have hbe := (Below.refl wr.heap.size wr).drew.trans hb; have z0 := (hbe.cell (p := ⟨g, o + (i + 1) * 4 + (j + 1) * 4, none⟩) hglt).trans x0; have z1 := (hbe.cell (p := ⟨g, o + (i + 1) * 4 + (j + 1) * 4 + 1, none⟩) hglt).trans x1; have z2 := (hbe.cell (p := ⟨g, o + (i + 1) * 4 + (j + 1) * 4 + 2, none⟩) hglt).trans x2; have z3 := (hbe.cell (p := ⟨g, o + (i + 1) * 4 + (j + 1) * 4 + 3, none⟩) hglt).trans x3; have z4 := (hbe.cell (p := ⟨g, o + (i + 1) * 4 + j * 4, none⟩) hglt).trans y0; have z5 := (hbe.cell (p := ⟨g, o + (i + 1) * 4 + j * 4 + 1, none⟩) hglt).trans y1; have z6 := (hbe.cell (p := ⟨g, o + (i + 1) * 4 + j * 4 + 2, none⟩) hglt).trans y2; have z7 := (hbe.cell (p := ⟨g, o + (i + 1) * 4 + j * 4 + 3, none⟩) hglt).trans y3; have W2 := W1.step hbe))
                all_goals
                  go_wp2
                  go_roundw
                  case rel => exact ⟨j + 1, kept, by omega, by go_num, by rw [HK.out], HW2.out, by rw [HK.out]; omega, W2.weak (by omega)⟩
                  case measure => simp [intOf]; omega
            · have hend : i + 1 + j + 1 = m := by omega
              have HR := Lib.hid (show comp sameE els = kept by rw [← HC2.out, hend, List.take_of_length_le (by rw [HL.out]; exact Nat.le_refl _)])
              obtain ⟨cur5, hc5, hs5, _⟩ := W1.row
              obtain ⟨vs, hvs, hcl⟩ := run_clear_conds wr 34 Tryz.underlying34 g (o + K * 4) (m - K) (c - K) (by omega) (fun q hq => by have := W1.some_cell (j := K * 4 + q) (by omega); rwa [← Nat.add_assoc] at this) (fun q hq => W1.free _)
              have W5 := W1.clear (by omega) (by rw [HK.out]; omega) (vs := vs) (by rw [HK.out]; exact hvs)
              rw [HK.out] at W5
              have hsub : ∀ e ∈ kept, e ∈ els := fun e he => (comp_sub sameE els).subset (by rw [HR.out]; exact he)
              have hdone := W5.done h hsub (by rw [HK.out]; omega)
              rw [HK.out] at hdone
              have HD := Lib.hid (And.intro hdone W5.touch)
              have hkm : K ≤ m := by omega
              have hlt3 : ¬ ((j : Int) + 1 < ((m - (i + 1) : Nat) : Int)) := by omega
              have hk1 : (K : Int) ≤ m := by omega
              have hk2 : (K : Int) ≤ c := by omega
              have hk3 : K < m := by omega
              have hk4 : K < c := by omega
              clear hdone W5 hc5 hs5 hsub hvs
              go_wp2
              go_ret
              rw [HR.out]
              exact ⟨K, rfl, HD.out.1, HD.out.2, hkm⟩
    · obtain rfl : i + 1 = m := by omega
      have HR := Lib.hid (show comp sameE els = els by have := HC.out; rwa [List.take_of_length_le (by rw [HL.out]; exact Nat.le_refl _)] at this)
      have hge : ¬ ((i : Int) + 1 < (i : Int) + 1) := by omega
      go_wp2
      go_ret
      rw [HR.out]
      exact ⟨_, rfl, h.step hbr, Touch.of_below hbr, Nat.le_refl _⟩

end Go.Proofs.YtkgnlloioaobiaaGreat

/-
  wide.paired.
-/
namespace Go.Proofs.YtkgnlloioaobiaaGreat
open Go.RowKit
set_option linter.unusedVariables false
set_option maxRecDepth 100000
set_option linter.unusedSimpArgs false

/-- A list that a call owns stays where another block is written that holds no integers. -/
theorem CL2.other {N0 N : Nat} {W : World} {u : Value} {els : List CEl} (h : CL2 N0 N W u els) {b : Nat} {cs : Array Value} {t : TypeId} {fz : Nat × Nat} (hb : W.heap[b]? = some (.cells cs t fz)) (ht : t ≠ 3) (hN : b < N) (j : Nat) (v : Value) : CL2 N0 N (W.setCell ⟨b, j, none⟩ v) u els := by
  have hoth : ∀ k, k ≠ b → (W.setCell ⟨b, j, none⟩ v).heap[k]? = W.heap[k]? := fun k hk => by
    simp only [World.setCell]
    rw [Array.getElem?_modify, if_neg fun e => hk e.symm]
  have hsz : (W.setCell ⟨b, j, none⟩ v).heap.size = W.heap.size := by simp [World.setCell]
  refine ⟨⟨h.own.1, ?_⟩, h.few, fun e he => ?_, fun e he => ?_⟩
  · rcases h.own.2 with h0 | ⟨g, cap, cur, hv, hg, hc, rest⟩
    · exact .inl h0
    · exact .inr ⟨g, cap, cur, hv, hg, (hoth g (by omega)).trans hc, rest⟩
  · have hI := h.ints e he
    refine ⟨hI.len, hI.small, hI.wf, fun hn => ?_⟩
    obtain ⟨bb, off, hA, hlt, hc⟩ := hI.cells hn
    refine ⟨bb, off, hA, by rw [hsz]; exact hlt, fun q hq => ?_⟩
    rw [← hc q hq]
    refine World.cell?_of_block (hoth bb fun e' => ?_)
    rcases h.rows e he with h0 | ⟨b', hA', _, cur, h1, _⟩
    · omega
    · rw [hA] at hA'
      cases hA'
      rw [e', hb] at h1
      simp at h1
      exact ht h1.2.1
  · refine (h.rows e he).imp id ?_
    rintro ⟨b', hA', hN0, cur, h1, h2⟩
    refine ⟨b', hA', hN0, cur, (hoth b' fun e' => ?_).trans h1, h2⟩
    rw [e', hb] at h1
    simp at h1
    exact ht h1.2.1

/-- The answer of paired. -/
def PairRet (N0 : Nat) (w : World) (e : Ending) (w' : World) (n : Nat) (ds : List CD) : Prop :=
  ((pairVoid ds = true ∧ e = .returned (.tuple #[.slice none 0 0, .slice none 0 0, .bool true])) ∨
    (pairVoid ds = false ∧ ∃ u t v r, e = .returned (.tuple #[u, v, .bool false]) ∧ CL2 N0 w.heap.size w' u t ∧ t.map CEl.d = tightD ds ∧ CL2 N0 w.heap.size w' v r ∧ r.map CEl.d = restD ds ∧ (∀ e ∈ t, e.n = n) ∧ ∀ e ∈ r, e.n = n)) ∧ Below w.heap.size w w'
/-- What the search among conditions asks. -/
structure Calm (n : Nat) (els : List CEl) : Prop where
  n : ∀ e ∈ els, e.n = n
  x : ∀ e ∈ els, ∀ y ∈ e.xs, -4611686018427387904 ≤ y ∧ y ≤ 4611686018427387904
  k : ∀ e ∈ els, -2305843009213693952 ≤ e.K ∧ e.K ≤ 2305843009213693952
  s : ∀ (i j : Nat) (x y : CEl), i < j → els[i]? = some x → els[j]? = some y → ordL x.xs y.xs < 0
theorem Calm.slopes {n : Nat} {els : List CEl} (h : Calm n els) : Slopes (els.map CEl.d) := fun i j a b hij ha hb => by
  rw [List.getElem?_map] at ha hb
  obtain ⟨x, hx, rfl⟩ := Option.map_eq_some_iff.1 ha
  obtain ⟨y, hy, rfl⟩ := Option.map_eq_some_iff.1 hb
  exact h.s i j x y hij hx hy


set_option maxHeartbeats 8000000 in
theorem wide_paired {N0 n : Nat} {A : Option Addr} {m c : Nat} {els : List CEl} (w : World) (C0 : CondsAt w A m els) (hrows : ∀ e ∈ els, RowOk N0 w e.A e.n) (hfew : m ≤ 1000) (hcalm : Calm n els) :
    Calls Tryz.prog 121 #[.slice A m c] w fun e w' => PairRet N0 w e w' n (els.map CEl.d) := by
  have hmk := make_bools m (by omega)
  have HL := Lib.hid C0.len
  have HC := Lib.hid hcalm
  have HR := Lib.hid hrows
  have HS := Lib.hid hcalm.slopes
  obtain ⟨ds, hds⟩ : ∃ ds, els.map CEl.d = ds := ⟨_, rfl⟩
  rw [hds] at HS ⊢
  have HD := Lib.hid hds
  have HDL := Lib.hid (show ds.length = m by rw [← hds, List.length_map]; exact C0.len)
  clear hrows hcalm hds
  go_enter Tryz.func121, Tryz.ntmps121
  go_wp2
  have G0 := BRow.new w (falses m)
  have hB := below_alloc w (.cells ((falses m).map Value.bool).toArray 4)
  generalize hw0 : w.alloc (.cells ((falses m).map Value.bool).toArray 4) = w0 at *
  have hz0 : w0.heap.size = w.heap.size + 1 := by rw [← hw0]; simp
  clear hw0 hmk
  go_loopw [2, 3, 18] (fun u u9 v wr => ∃ (i : Nat) (t : List CEl) (gs : List Bool), i ≤ m ∧ v = .int .i64 i ∧ u9 = .slice none 0 0 ∧ CL2 N0 w0.heap.size wr u t ∧ t.map CEl.d = (ds.take i).flatMap (tightOne ds) ∧ (∀ e ∈ t, e.n = n) ∧ t.length ≤ i ∧ BRow wr w.heap.size gs ∧ gs.length = m ∧ (∀ j, j < ds.length → (gs[j]?.getD false = true ↔ ∃ i', i' < i ∧ Marked ds i' j)) ∧ (∀ j d k, j < i → ds[j]? = some d → slackD ds d = some k → 0 ≤ k) ∧ Below w.heap.size w wr ∧ w0.heap.size ≤ wr.heap.size) (fun _ _ v _ => m - (intOf v).toNat)
  case atStart => exact ⟨0, [], falses m, Nat.zero_le _, rfl, rfl, CL2.nil _ _ _, rfl, (fun e h => nomatch h), Nat.zero_le _, G0, by simp [falses], (fun j hj => ⟨fun h => by simp [falses, List.getElem?_replicate] at h; split at h <;> simp at h, fun ⟨i', h, _⟩ => absurd h (by omega)⟩), (fun j d k h => absurd h (by omega)), hB, Nat.le_refl _⟩
  clear G0 hB
  case round =>
    obtain ⟨i, t, gs, hi, rfl, rfl, hL, htd, htn, htl, hG, hgl, hmk, hnv, hbr, hsz⟩ := hrel
    have HT := Lib.hid (And.intro htd htn)
    have HM := Lib.hid (And.intro hmk hnv)
    clear htd htn hmk hnv
    by_cases hlt : i < m
    · obtain ⟨b, off, e, rfl, hblt, hej, hmem, hcs, hin⟩ := (C0.step hbr).at hlt
      obtain ⟨x0, x1, x2, x3⟩ := hcs
      have hro := (HR.out e hmem).step hbr
      have hen := HC.out.n e hmem
      have hxb := HC.out.x e hmem
      have hkb := HC.out.k e hmem
      obtain ⟨eq, eM, eA, en, ec, eK, exs⟩ := e
      simp only at x0 x1 x2 x3 hin hro hen hxb hkb
      subst hen
      have HEJ := Lib.hid hej
      have HDJ := Lib.hid (show ds[i]? = some ⟨eq, eM, exs, eK⟩ by rw [← HD.out, List.getElem?_map, hej]; rfl)
      have HXB := Lib.hid hxb
      have hq1 : (i : Int) < m := by omega
      have b5 := below_alloc wr (.cells #[.int .i64 eq, .int .i64 eM, .slice eA en ec, .int .i64 eK] 56)
      have y1 := hin.step b5
      have X1 := CBox.new wr eq eM eA en ec eK
      have d2 := X1.c2
      have hbr1 := hbr.trans (b5.mono hbr.size)
      have L1 := hL.step b5
      have G1 := hG.step b5
      have R1 := hro.step b5
      have hsz1 := Nat.le_trans hsz b5.size
      have HI0 := Lib.hid (And.intro (C0.ints _ hmem) (HR.out _ hmem))
      have hszr := hsz
      clear hej hmem hin hxb hL hG hro b5 hbr hsz
      by_cases hld : leadI exs < 0
      · have HS0 := Lib.hid (slack_neg (ds := ds) (d := ⟨eq, eM, exs, eK⟩) hld)
        go_wp2_with (go_at_call 146; refine (wide_lead _ _ _ exs _ y1).mono ?_; rintro e w4 ⟨rfl, rfl⟩)
        go_roundw
        case rel => exact ⟨i + 1, t, gs, by omega, by go_num, rfl, L1, by rw [flat_snoc _ HDJ.out, tight_none HS0.out, List.append_nil]; exact HT.out.1, HT.out.2, by omega, G1, hgl, mark_skip HDJ.out (by rw [HS0.out]; exact fun h => nomatch h) HM.out.1, (fun j d k hj hjd hk => by
          rcases Nat.lt_or_eq_of_le (Nat.le_of_lt_succ hj) with h | rfl
          · exact HM.out.2 j d k h hjd hk
          · rw [HDJ.out] at hjd; cases hjd; rw [HS0.out] at hk; cases hk), hbr1, hsz1⟩
        case measure => simp [intOf]; omega
      · have C1 := C0.step hbr1
        by_cases hop : ∃ (k : Nat) (x : CEl), els[k]? = some x ∧ x.xs = sgnL (-1) exs
        · obtain ⟨k, f, hk, hft⟩ := hop
          have hkm : k < m := by have := (List.getElem?_eq_some_iff.1 hk).1; have := HL.out; omega
          obtain ⟨b2, off2, f2, hA2, hblt2, hfk, hfm, hfs, hfin⟩ := C1.at hkm
          have hk' := hk
          rw [hfk] at hk'
          obtain rfl : f2 = f := by cases hk'; rfl
          cases hA2
          have hfb := HC.out.k f2 hfm
          have HFX := Lib.hid hft
          have HDK := Lib.hid (show ds[k]? = some f2.d by rw [← HD.out, List.getElem?_map, hk]; rfl)
          have HK := Lib.hid hk
          obtain ⟨fq, fM, fA, fn, fc, fK, fxs⟩ := f2
          simp only at hfb
          have z3 := hfs.2.2.2
          simp only at z3
          have HSL := Lib.hid (slack_some (ds := ds) HS.out (d := ⟨eq, eM, exs, eK⟩) hld HDK.out HFX.out)
          have hw : IntKind.i64.wrap (eK + fK) = eK + fK := IntWalk.i64_in _ (by omega)
          have hk1 : (k : Int) < m := by omega
          clear hk hft hfk hk' hfm hfs hfin hfb hkb
          rcases (show eK + fK < 0 ∨ eK + fK = 0 ∨ 0 < eK + fK by omega) with hsum | hsum | hsum
          · have HV := Lib.hid (pair_yes (List.mem_of_getElem? HDJ.out) HSL.out hsum)
            go_wp2_with (first
              | (go_at_call 146; refine (wide_lead _ _ _ exs _ y1).mono ?_; rintro e w4 ⟨rfl, rfl⟩)
              | (go_at_call 147; refine (find_yes (s := -1) (n := en) (.inr rfl) HXB.out _ C1 HC.out.n (by omega) y1 HC.out.s HK.out HFX.out).mono ?_; rintro e w5 ⟨rfl, hb5⟩; have d3 := (X1.step hb5).c3; have v3 := (hb5.cell (p := ⟨b, off + k * 4 + 3, none⟩) (by omega)).trans z3; have L5 := L1.step hb5; have G5 := G1.step hb5; have hbr5 := hbr1.trans (hb5.mono hbr1.size); have hsz5 := Nat.le_trans hsz1 hb5.size; have X5 := X1.step hb5; have I5 := y1.step hb5; have R5 := R1.step hb5))
            go_quiet (fail)
            go_wp2
            go_ret3
            exact ⟨.inl ⟨HV.out, rfl⟩, below_step hbr5 (below_of_drewN _)⟩
          · have HS0 := Lib.hid (show slackD ds ⟨eq, eM, exs, eK⟩ = some 0 by rw [HSL.out]; show some (eK + fK) = _; rw [hsum])
            have hs0 : (eK + fK == 0) = true := by rw [hsum]; rfl
            have hs1 : ¬ (eK + fK < 0) := by omega
            have hgi : i < gs.length := by omega
            have hgk : k < gs.length := by omega
            go_wp2_with (first
              | (go_at_call 146; refine (wide_lead _ _ _ exs _ y1).mono ?_; rintro e w4 ⟨rfl, rfl⟩)
              | (go_at_call 147; refine (find_yes (s := -1) (n := en) (.inr rfl) HXB.out _ C1 HC.out.n (by omega) y1 HC.out.s HK.out HFX.out).mono ?_; rintro e w5 ⟨rfl, hb5⟩; have d3 := (X1.step hb5).c3; have v3 := (hb5.cell (p := ⟨b, off + k * 4 + 3, none⟩) (by omega)).trans z3; have L5 := L1.step hb5; have G5 := G1.step hb5; have hbr5 := hbr1.trans (hb5.mono hbr1.size); have hsz5 := Nat.le_trans hsz1 hb5.size; have X5 := X1.step hb5; have I5 := y1.step hb5; have R5 := R1.step hb5))
            go_quiet (fail)
            have hb6 := below_of_drewN (w := w5) nq
            replace L5 := L5.step hb6
            replace G5 := G5.step hb6
            replace hbr5 := below_step hbr5 hb6
            replace hsz5 := Nat.le_trans hsz5 hb6.size
            replace X5 := X5.step hb6
            clear hb6 d3 v3 I5 R5
            generalize hw6 : w5.drewN nq = w6 at *
            clear hw6
            have t0 := G5.cell hgi
            have f0 := G5.free i
            have G6 := G5.set i true
            have t1 := G6.cell (j := k) (by rw [List.length_set]; exact hgk)
            have f1 := G6.free k
            have G7 := G6.set k true
            have L7 := (L5.other G5 (by decide) (by omega) i (.bool true)).other G6 (by decide) (by omega) k (.bool true)
            have X7 : CBox ((w6.setCell ⟨w.heap.size, i, none⟩ (.bool true)).setCell ⟨w.heap.size, k, none⟩ (.bool true)) wr.heap.size eq eM eA en ec eK := (Below.heap_setCell _ _ _ _ (by show wr.heap.size ≠ w.heap.size; omega)).trans ((Below.heap_setCell _ _ _ _ (by show wr.heap.size ≠ w.heap.size; omega)).trans X5)
            have e2 := X7.c2
            have e3 := X7.c3
            have hbr7 := (hbr5.setCell (p := ⟨w.heap.size, i, none⟩) (Nat.le_refl _) (.bool true)).setCell (p := ⟨w.heap.size, k, none⟩) (Nat.le_refl _) (.bool true)
            have b8 := below_alloc ((w6.setCell ⟨w.heap.size, i, none⟩ (.bool true)).setCell ⟨w.heap.size, k, none⟩ (.bool true)) (.cells #[.int .i64 1, .int .i64 0, .slice eA en ec, .int .i64 eK] 56)
            have L8 := L7.step b8
            have G8 := G7.step b8
            have hbr8 := hbr7.trans (b8.mono hbr7.size)
            have I8 := HI0.out.1.step hbr8
            have R8 := HI0.out.2.step hbr8
            have Gn : (((w6.setCell ⟨w.heap.size, i, none⟩ (.bool true)).setCell ⟨w.heap.size, k, none⟩ (.bool true)).alloc (.cells #[.int .i64 1, .int .i64 0, .slice eA en ec, .int .i64 eK] 56)).heap[w6.heap.size]? = some (.cells #[.int .i64 1, .int .i64 0, .slice eA en ec, .int .i64 eK] 56) := by
              have h := heap_alloc_new ((w6.setCell ⟨w.heap.size, i, none⟩ (.bool true)).setCell ⟨w.heap.size, k, none⟩ (.bool true)) (.cells #[.int .i64 1, .int .i64 0, .slice eA en ec, .int .i64 eK] 56)
              rwa [show ((w6.setCell ⟨w.heap.size, i, none⟩ (.bool true)).setCell ⟨w.heap.size, k, none⟩ (.bool true)).heap.size = w6.heap.size by simp [World.setCell]] at h
            have hN8 : w0.heap.size ≤ (((w6.setCell ⟨w.heap.size, i, none⟩ (.bool true)).setCell ⟨w.heap.size, k, none⟩ (.bool true)).alloc (.cells #[.int .i64 1, .int .i64 0, .slice eA en ec, .int .i64 eK] 56)).heap.size := Nat.le_trans (by rw [show ((w6.setCell ⟨w.heap.size, i, none⟩ (.bool true)).setCell ⟨w.heap.size, k, none⟩ (.bool true)).heap.size = w6.heap.size by simp [World.setCell]]; exact hsz5) b8.size
            clear L5 L7 G5 G6 G7 X5 X7 hbr5 hbr7 b8
            go_wp2_with (at_builtin; refine wpList_append_cond rfl _ _ 34 rfl rfl rfl L8 w6.heap.size ⟨1, 0, eA, en, ec, eK, exs⟩ rfl Gn I8 R8 (by omega) hN8 ?_; intro g9 cap9 w9 L9 gr9 hb9; have G9 := G8.below hb9 (by omega); have hbr9 := hbr8.trans (hb9.mono (by omega)); have hsz9 := Nat.le_trans hN8 hb9.size)
            go_roundw
            case rel => exact ⟨i + 1, t ++ [⟨1, 0, eA, en, ec, eK, exs⟩], (gs.set i true).set k true, by omega, by go_num, rfl, L9, by rw [flat_snoc _ HDJ.out, tight_zero HS0.out, List.map_append, HT.out.1]; rfl, (fun e he => by
              rcases List.mem_append.1 he with h | h
              · exact HT.out.2 e h
              · rw [List.mem_singleton.1 h]), by simp; omega, G9, by simp [hgl], mark_step HS.out (by rw [hgl, HDL.out]) HDJ.out HDK.out HFX.out HS0.out HM.out.1, (fun j d k' hj hjd hk' => by
              rcases Nat.lt_or_eq_of_le (Nat.le_of_lt_succ hj) with h | rfl
              · exact HM.out.2 j d k' h hjd hk'
              · rw [HDJ.out] at hjd; cases hjd; rw [HS0.out] at hk'; have h2 : 0 = k' := Option.some.inj hk'; omega), hbr9, hsz9⟩
            case measure => simp [intOf]; omega
          · have HS0 := Lib.hid (show slackD ds ⟨eq, eM, exs, eK⟩ = some (eK + fK) from HSL.out)
            have hs0 : (eK + fK == 0) = false := by simp; omega
            have hs1 : ¬ (eK + fK < 0) := by omega
            have HSUM := Lib.hid hsum
            go_wp2_with (first
              | (go_at_call 146; refine (wide_lead _ _ _ exs _ y1).mono ?_; rintro e w4 ⟨rfl, rfl⟩)
              | (go_at_call 147; refine (find_yes (s := -1) (n := en) (.inr rfl) HXB.out _ C1 HC.out.n (by omega) y1 HC.out.s HK.out HFX.out).mono ?_; rintro e w5 ⟨rfl, hb5⟩; have d3 := (X1.step hb5).c3; have v3 := (hb5.cell (p := ⟨b, off + k * 4 + 3, none⟩) (by omega)).trans z3; have L5 := L1.step hb5; have G5 := G1.step hb5; have hbr5 := hbr1.trans (hb5.mono hbr1.size); have hsz5 := Nat.le_trans hsz1 hb5.size; have X5 := X1.step hb5; have I5 := y1.step hb5; have R5 := R1.step hb5))
            go_quiet (fail)
            go_wp2
            go_roundw
            case rel => exact ⟨i + 1, t, gs, by omega, by go_num, rfl, L5.step (below_of_drewN _), by rw [flat_snoc _ HDJ.out, tight_pos HS0.out (by have := HSUM.out; omega), List.append_nil]; exact HT.out.1, HT.out.2, by omega, G5.step (below_of_drewN _), hgl, mark_skip HDJ.out (by rw [HS0.out]; intro h; have h2 : eK + fK = 0 := Option.some.inj h; have := HSUM.out; omega) HM.out.1, (fun j d k hj hjd hk => by
              rcases Nat.lt_or_eq_of_le (Nat.le_of_lt_succ hj) with h | rfl
              · exact HM.out.2 j d k h hjd hk
              · rw [HDJ.out] at hjd; cases hjd; rw [HS0.out] at hk; cases hk; have := HSUM.out; omega), below_step hbr5 (below_of_drewN _), hsz5⟩
            case measure => simp [intOf]; omega
        · have HNO := Lib.hid (show ∀ x ∈ els, x.xs ≠ sgnL (-1) exs from fun x hx h => hop (by obtain ⟨k, hk, hkx⟩ := List.getElem_of_mem hx; exact ⟨k, x, by rw [List.getElem?_eq_getElem hk, hkx], h⟩))
          have HS0 := Lib.hid (slack_none (ds := ds) (d := ⟨eq, eM, exs, eK⟩) (fun e he => by rw [← HD.out] at he; obtain ⟨x, hx, rfl⟩ := List.mem_map.1 he; exact HNO.out x hx))
          clear hop hkb
          go_wp2_with (first
            | (go_at_call 146; refine (wide_lead _ _ _ exs _ y1).mono ?_; rintro e w4 ⟨rfl, rfl⟩)
            | (go_at_call 147; refine (find_no (s := -1) (n := en) (.inr rfl) HXB.out _ C1 HC.out.n (by omega) y1 HC.out.s HNO.out).mono ?_; rintro e w5 ⟨⟨i9, rfl⟩, hb5⟩; have L5 := L1.step hb5; have G5 := G1.step hb5; have hbr5 := hbr1.trans (hb5.mono hbr1.size); have hsz5 := Nat.le_trans hsz1 hb5.size))
          go_roundw
          case rel => exact ⟨i + 1, t, gs, by omega, by go_num, rfl, L5, by rw [flat_snoc _ HDJ.out, tight_none HS0.out, List.append_nil]; exact HT.out.1, HT.out.2, by omega, G5, hgl, mark_skip HDJ.out (by rw [HS0.out]; exact fun h => nomatch h) HM.out.1, (fun j d k hj hjd hk => by
            rcases Nat.lt_or_eq_of_le (Nat.le_of_lt_succ hj) with h | rfl
            · exact HM.out.2 j d k h hjd hk
            · rw [HDJ.out] at hjd; cases hjd; rw [HS0.out] at hk; cases hk), hbr5, hsz5⟩
          case measure => simp [intOf]; omega
    · obtain rfl : i = m := by omega
      have hall : ds.take i = ds := List.take_of_length_le (by rw [HDL.out]; exact Nat.le_refl _)
      have HPV := Lib.hid (pair_no (ds := ds) (fun j d k hj hd hk => HM.out.2 j d k (by rw [← HDL.out]; exact hj) hd hk))
      have HTD := Lib.hid (show t.map CEl.d = tightD ds by have := HT.out.1; rw [hall] at this; exact this)
      have HGO := Lib.hid (show ∀ j d, ds[j]? = some d → gs[j]?.getD false = goneD ds d from fun j d hd => by
        rw [Bool.eq_iff_iff, gone_mark HS.out hd, HDL.out]
        exact HM.out.1 j (List.getElem?_eq_some_iff.1 hd).1)
      have hge : ¬ ((i : Int) < i) := by omega
      have C2 := C0.step hbr
      have HR2 := Lib.hid (fun e he => (HR.out e he).step hbr)
      clear HM hall
      go_wp2
      clear hge
      generalize hw1 : wr = w1 at *
      clear hw1
      go_loopw [3, 69] (fun u v wx => ∃ (q : Nat) (r : List CEl), q ≤ i ∧ v = .int .i64 q ∧ CL2 N0 w1.heap.size wx u r ∧ r.map CEl.d = (ds.take q).filter (fun d => !goneD ds d) ∧ (∀ e ∈ r, e.n = n) ∧ r.length ≤ q ∧ Below w1.heap.size w1 wx) (fun _ v _ => i - (intOf v).toNat)
      case atStart => exact ⟨0, [], Nat.zero_le _, rfl, CL2.nil _ _ _, rfl, (fun e h => nomatch h), Nat.zero_le _, Below.refl _ _⟩
      case round =>
        obtain ⟨q, r, hq, rfl, hLr, hrd, hrn, hrl, hbx⟩ := hrel
        have HT2 := Lib.hid (And.intro hrd hrn)
        clear hrd hrn
        by_cases hlt2 : q < i
        · obtain ⟨b, off, e, hA2, hblt, hej, hmem, hcs, hin⟩ := (C2.step hbx).at hlt2
          subst hA2
          obtain ⟨x0, x1, x2, x3⟩ := hcs
          have hro := (HR2.out e hmem).step hbx
          have hen := HC.out.n e hmem
          obtain ⟨eq, eM, eA, en, ec, eK, exs⟩ := e
          simp only at x0 x1 x2 x3 hin hro hen
          subst hen
          have HEJ := Lib.hid hej
          have hdj : ds[q]? = some ⟨eq, eM, exs, eK⟩ := by rw [← HD.out, List.getElem?_map, hej]; rfl
          have HDJ := Lib.hid hdj
          have hq1 : (q : Int) < i := by omega
          have b5 := below_alloc wr (.cells #[.int .i64 eq, .int .i64 eM, .slice eA en ec, .int .i64 eK] 56)
          have b8 := below_alloc (wr.alloc (.cells #[.int .i64 eq, .int .i64 eM, .slice eA en ec, .int .i64 eK] 56)) (.cells #[.int .i64 eq, .int .i64 eM, .slice eA en ec, .int .i64 eK] 56)
          have X5 := CBox.new wr eq eM eA en ec eK
          have d0 := X5.c0
          have d1 := X5.c1
          have d2 := X5.c2
          have d3 := X5.c3
          have G5 := (hG.step hbx).step b5
          have hgc := G5.cell (j := q) (by omega)
          have hgd := HGO.out q _ hdj
          have hbx5 := hbx.trans (b5.mono hbx.size)
          cases hgv : goneD ds ⟨eq, eM, exs, eK⟩
          · have HGV := Lib.hid hgv
            rw [hgd, hgv] at hgc
            have L8 := (hLr.step b5).step b8
            have hbx8 := hbx5.trans (b8.mono hbx5.size)
            have I8 := (hin.step b5).step b8
            have R8 := (hro.step b5).step b8
            have Gn := heap_alloc_new (wr.alloc (.cells #[.int .i64 eq, .int .i64 eM, .slice eA en ec, .int .i64 eK] 56)) (.cells #[.int .i64 eq, .int .i64 eM, .slice eA en ec, .int .i64 eK] 56)
            rw [World.size_alloc] at Gn
            have hN8 := hbx8.size
            clear hej hmem hin hro b5 b8 hgv hgd hdj hLr hbx hbx5 G5 X5
            go_wp2_with (at_builtin; refine wpList_append_cond rfl _ _ 34 rfl rfl rfl L8 (wr.heap.size + 1) ⟨eq, eM, eA, en, ec, eK, exs⟩ rfl Gn I8 R8 (by omega) hN8 ?_; intro g9 cap9 w9 L9 gr9 hb9; have hbx9 := hbx8.trans hb9)
            go_roundw
            case rel => exact ⟨q + 1, r ++ [⟨eq, eM, eA, en, ec, eK, exs⟩], by omega, by go_num, L9, by rw [filter_snoc _ HDJ.out, List.map_append, HT2.out.1, HGV.out]; rfl, (fun e he => by
              rcases List.mem_append.1 he with h | h
              · exact HT2.out.2 e h
              · rw [List.mem_singleton.1 h]), by simp; omega, hbx9⟩
            case measure => simp [intOf]; omega
          · have HGV := Lib.hid hgv
            rw [hgd, hgv] at hgc
            have L5 := hLr.step b5
            clear hej hmem hin hro b5 b8 hgv hgd hdj hLr hbx G5 X5
            go_wp2
            go_roundw
            case rel => exact ⟨q + 1, r, by omega, by go_num, L5, by rw [filter_snoc _ HDJ.out, HT2.out.1, HGV.out]; simp, HT2.out.2, by omega, hbx5⟩
            case measure => simp [intOf]; omega
        · obtain rfl : q = i := by omega
          have hge : ¬ ((q : Int) < q) := by omega
          have hall : ds.take q = ds := List.take_of_length_le (by rw [HDL.out]; exact Nat.le_refl _)
          have HRD := Lib.hid (show r.map CEl.d = restD ds by have := HT2.out.1; rw [hall] at this; exact this)
          clear hall
          obtain ⟨A8, c8, rfl⟩ := hL.slice
          obtain ⟨A9, c9, rfl⟩ := hLr.slice
          go_wp2
          go_ret3
          exact ⟨.inr ⟨HPV.out, _, t, _, r, rfl, (hL.step hbx).mono (Nat.le_refl _) (by omega), HTD.out, hLr.mono (Nat.le_refl _) (by have := hbr.size; omega), HRD.out, HT.out.2, HT2.out.2⟩, below_step hbr hbx⟩
end Go.Proofs.YtkgnlloioaobiaaGreat

/-
  Conditions that an Eq decides, as mathematics.
-/
namespace Go.Proofs.YtkgnlloioaobiaaGreat
open Go.RowKit
set_option linter.unusedVariables false
set_option linter.unusedSimpArgs false

theorem imp_some {es : List CD} (hs : Slopes es) {c e : CD} {k : Nat} {s : Int} (hsg : signI c.xs = s) (hk : es[k]? = some e) (ht : e.xs = sgnL s c.xs) : impD es c = some e := by
  unfold impD; rw [hsg]; exact find_some hs hk ht
theorem imp_none {es : List CD} {c : CD} {s : Int} (hsg : signI c.xs = s) (h : ∀ e ∈ es, e.xs ≠ sgnL s c.xs) : impD es c = none := by
  unfold impD; rw [hsg]; exact find_none h
theorem imp_yes {es gs : List CD} {c e : CD} {s : Int} (hc : c ∈ gs) (hsg : signI c.xs = s) (h : impD es c = some e) (hk : c.K - s * e.K < 0) : impVoid es gs = true := by
  unfold impVoid
  rw [List.any_eq_true]
  refine ⟨c, hc, ?_⟩
  rw [h]
  simpa [hsg] using hk
theorem imp_no {es gs : List CD} (h : ∀ j c e, j < gs.length → gs[j]? = some c → impD es c = some e → 0 ≤ c.K - signI c.xs * e.K) : impVoid es gs = false := by
  unfold impVoid
  rw [List.any_eq_false]
  intro c hc
  obtain ⟨j, hj, rfl⟩ := List.getElem_of_mem hc
  cases hk : impD es gs[j] with
  | none => simp
  | some e => simpa using h j _ e hj (List.getElem?_eq_getElem hj) hk
theorem imp_empty (gs : List CD) : impVoid [] gs = false ∧ impRest [] gs = gs := by
  refine ⟨imp_no fun j c e _ _ h => ?_, rfl⟩
  simp [impD, findD] at h
theorem imp_rest {es gs : List CD} (h : es ≠ []) : impRest es gs = gs.filter fun c => (impD es c).isNone := by
  unfold impRest
  rw [if_neg (by simpa using h)]
end Go.Proofs.YtkgnlloioaobiaaGreat

/-
  wide.unimplied.
-/
namespace Go.Proofs.YtkgnlloioaobiaaGreat
open Go.RowKit
set_option linter.unusedVariables false
set_option maxRecDepth 100000
set_option linter.unusedSimpArgs false

/-- The answer of unimplied. -/
def ImpRet (N0 N : Nat) (w : World) (e : Ending) (w' : World) (n : Nat) (es gs : List CD) : Prop :=
  ((impVoid es gs = true ∧ e = .returned (.tuple #[.slice none 0 0, .bool true])) ∨
    (impVoid es gs = false ∧ ∃ A k c r, e = .returned (.tuple #[.slice A k c, .bool false]) ∧ CV N0 N w' A k r ∧ k ≤ c ∧ c ≤ 9223372036854775807 ∧ Sane A c ∧ r.map CEl.d = impRest es gs ∧ ∀ e ∈ r, e.n = n)) ∧ Below w.heap.size w w'
theorem own_capC {w : World} {N0 N : Nat} {A : Option Addr} {m c : Nat} {els : List CEl} (h : CL2 N0 N w (.slice A m c) els) : els.length ≤ c ∧ c ≤ 9223372036854775807 := by
  rcases h.own.2 with ⟨hv, h0⟩ | ⟨g, cap, cur, hv, _, _, h1, h2, _⟩
  · cases hv; omega
  · cases hv
    unfold maxLen at h2
    omega
theorem own_sane {w : World} {N0 N : Nat} {A : Option Addr} {m c : Nat} {els : List CEl} (h : CL2 N0 N w (.slice A m c) els) : Sane A c := by
  rcases h.own.2 with ⟨hv, h0⟩ | ⟨g, cap, cur, hv, _⟩
  · cases hv; exact ⟨fun _ => rfl, fun ad h => nomatch h⟩
  · cases hv; exact ⟨(fun h => nomatch h), fun ad h => by cases h; rfl⟩


set_option maxHeartbeats 8000000 in
theorem wide_unimplied {N0 N n : Nat} {A : Option Addr} {m c : Nat} {E : List CEl} {B : Option Addr} {k0 c2 : Nat} {G : List CEl} (w : World) (CE : CondsAt w A m E) (hE : Calm n E) (hm : m ≤ 1000) (CG : CV N0 N w B k0 G) (hGn : ∀ e ∈ G, e.n = n) (hGx : ∀ e ∈ G, ∀ y ∈ e.xs, -4611686018427387904 ≤ y ∧ y ≤ 4611686018427387904) (hGk : ∀ e ∈ G, -2305843009213693952 ≤ e.K ∧ e.K ≤ 2305843009213693952)
    (hN : N ≤ w.heap.size) (hk0 : k0 ≤ 1000) (hkc : k0 ≤ c2) (hc2 : c2 ≤ 9223372036854775807) (hsane : Sane B c2) :
    Calls Tryz.prog 123 #[.slice A m c, .slice B k0 c2] w fun e w' => ImpRet N0 N w e w' n (E.map CEl.d) (G.map CEl.d) := by
  have HLE := Lib.hid CE.len
  rcases Nat.eq_zero_or_pos m with h0 | h0
  · subst h0
    obtain rfl : E = [] := List.length_eq_zero_iff.1 HLE.out
    have HI := Lib.hid (imp_empty (G.map CEl.d))
    go_enter Tryz.func123, Tryz.ntmps123
    go_wp2
    go_ret2
    exact ⟨.inr ⟨HI.out.1, B, k0, c2, G, rfl, CG, hkc, hc2, hsane, HI.out.2.symm, hGn⟩, Below.refl _ _⟩
  · have hm0 : ((m : Int) == 0) = false := by simp; omega
    have HLG := Lib.hid CG.len
    have C0 := CG.conds
    have HR := Lib.hid CG.rows
    have HC := Lib.hid hE
    have HG := Lib.hid (And.intro hGn (And.intro hGx hGk))
    have HS := Lib.hid hE.slopes
    have HNE := Lib.hid (show E.map CEl.d ≠ [] from fun h => by have h9 : (E.map CEl.d).length = 0 := (by rw [h]; rfl); rw [List.length_map, HLE.out] at h9; omega)
    obtain ⟨es, hes⟩ : ∃ es, E.map CEl.d = es := ⟨_, rfl⟩
    obtain ⟨ds, hds⟩ : ∃ ds, G.map CEl.d = ds := ⟨_, rfl⟩
    rw [hes] at HS HNE ⊢
    rw [hds]
    have HD := Lib.hid hds
    have HDE := Lib.hid hes
    have HDL := Lib.hid (show ds.length = k0 by rw [← hds, List.length_map]; exact CG.len)
    clear hE hGn hGx hGk hes hds CG h0
    go_enter Tryz.func123, Tryz.ntmps123
    go_wp2
    go_loopw [4, 17] (fun u v wr => ∃ (i : Nat) (r : List CEl), i ≤ k0 ∧ v = .int .i64 i ∧ CL2 N0 w.heap.size wr u r ∧ r.map CEl.d = (ds.take i).filter (fun d => (impD es d).isNone) ∧ (∀ e ∈ r, e.n = n) ∧ r.length ≤ i ∧ (∀ j c e, j < i → ds[j]? = some c → impD es c = some e → 0 ≤ c.K - signI c.xs * e.K) ∧ Below w.heap.size w wr) (fun _ v _ => k0 - (intOf v).toNat)
    case atStart => exact ⟨0, [], Nat.zero_le _, rfl, CL2.nil _ _ _, rfl, (fun e h => nomatch h), Nat.zero_le _, (fun j c e h => absurd h (by omega)), Below.refl _ _⟩
    case round =>
      obtain ⟨i, r, hi, rfl, hL, hrd, hrn, hrl, hnv, hbr⟩ := hrel
      have HT := Lib.hid (And.intro hrd (And.intro hrn hnv))
      clear hrd hrn hnv
      by_cases hlt : i < k0
      · obtain ⟨b, off, e, rfl, hblt, hej, hmem, hcs, hin⟩ := (C0.step hbr).at hlt
        obtain ⟨x0, x1, x2, x3⟩ := hcs
        have hro := (HR.out e hmem).step hbr
        have hen := HG.out.1 e hmem
        have hxb := HG.out.2.1 e hmem
        have hkb := HG.out.2.2 e hmem
        obtain ⟨eq, eM, eA, en, ec, eK, exs⟩ := e
        simp only at x0 x1 x2 x3 hin hro hen hxb hkb
        subst hen
        have HEJ := Lib.hid hej
        have HDJ := Lib.hid (show ds[i]? = some ⟨eq, eM, exs, eK⟩ by rw [← HD.out, List.getElem?_map, hej]; rfl)
        have HXB := Lib.hid hxb
        have hq1 : (i : Int) < k0 := by omega
        have b5 := below_alloc wr (.cells #[.int .i64 eq, .int .i64 eM, .slice eA en ec, .int .i64 eK] 56)
        have y1 := hin.step b5
        have X1 := CBox.new wr eq eM eA en ec eK
        have d2 := X1.c2
        have hbr1 := hbr.trans (b5.mono hbr.size)
        have L1 := hL.step b5
        have R1 := hro.step b5
        have C1 := CE.step hbr1
        clear hej hmem hin hxb hL hro b5 hbr
        by_cases hld : leadI exs < 0
        · have HSG := Lib.hid (show signI exs = -1 by unfold signI; rw [if_pos hld])
          have hs0 : ((-1) : Int) = 1 ∨ ((-1) : Int) = -1 := by decide
          have HS1 := Lib.hid hs0
          clear hs0
          by_cases hop : ∃ (k : Nat) (x : CEl), E[k]? = some x ∧ x.xs = sgnL (-1) exs
          · obtain ⟨k, f, hk, hft⟩ := hop
            have hkm : k < m := by have := (List.getElem?_eq_some_iff.1 hk).1; have := HLE.out; omega
            obtain ⟨b2, off2, f2, rfl, hblt2, hfk, hfm, hfs, hfin⟩ := C1.at hkm
            have hk' := hk
            rw [hfk] at hk'
            obtain rfl : f2 = f := by cases hk'; rfl
            have hfb := HC.out.k f2 hfm
            have HFX := Lib.hid hft
            have HDK := Lib.hid (show es[k]? = some f2.d by rw [← HDE.out, List.getElem?_map, hk]; rfl)
            have HK := Lib.hid hk
            obtain ⟨fq, fM, fA, fn, fc, fK, fxs⟩ := f2
            simp only at hfb
            have z3 := hfs.2.2.2
            simp only at z3
            have HIS := Lib.hid (imp_some (es := es) HS.out (c := ⟨eq, eM, exs, eK⟩) HSG.out HDK.out HFX.out)
            have hw1 : IntKind.i64.wrap ((-1) * fK) = (-1) * fK := IntWalk.i64_in _ (by omega)
            have hw3 : IntKind.i64.wrap (-fK) = -fK := IntWalk.i64_in _ (by omega)
            have hw4 : IntKind.i64.wrap fK = fK := IntWalk.i64_in _ (by omega)
            have hw2 : IntKind.i64.wrap (eK - (-1) * fK) = eK - (-1) * fK := IntWalk.i64_in _ (by omega)
            have hw5 : IntKind.i64.wrap (eK - -fK) = eK - -fK := IntWalk.i64_in _ (by omega)
            have hw6 : IntKind.i64.wrap (eK + fK) = eK + fK := IntWalk.i64_in _ (by omega)
            have hw7 : IntKind.i64.wrap (eK - fK) = eK - fK := IntWalk.i64_in _ (by omega)
            have hk1 : (k : Int) < m := by omega
            have HF := Lib.hid (find_yes (s := (-1)) (n := en) (c := c) (cB := ec) HS1.out HXB.out _ C1 HC.out.n (by omega) y1 HC.out.s hk hft)
            clear hk hft hfk hk' hfm hfs hfin hfb hkb
            by_cases hsum : eK - (-1) * fK < 0
            · have HV := Lib.hid (imp_yes (es := es) (gs := ds) (c := ⟨eq, eM, exs, eK⟩) (List.mem_of_getElem? HDJ.out) HSG.out HIS.out hsum)
              have hsum2 : eK - -fK < 0 := by omega
              go_wp2_with (first
                | (go_at_call 146; refine (wide_lead _ _ _ exs _ y1).mono ?_; rintro e w4 ⟨rfl, rfl⟩)
                | (go_at_call 147; refine HF.out.mono ?_; rintro e w5 ⟨rfl, hb5⟩; have d3 := (X1.step hb5).c3; have v3 := (hb5.cell (p := ⟨b2, off2 + k * 4 + 3, none⟩) hblt2).trans z3; have L5 := L1.step hb5; have hbr5 := hbr1.trans (hb5.mono hbr1.size)))
              go_quiet (fail)
              go_wp2
              go_ret2
              exact ⟨.inl ⟨HV.out, rfl⟩, below_step hbr5 (below_of_drewN _)⟩
            · have HSUM := Lib.hid hsum
              have hsum2 : ¬ (eK - -fK < 0) := by omega
              go_wp2_with (first
                | (go_at_call 146; refine (wide_lead _ _ _ exs _ y1).mono ?_; rintro e w4 ⟨rfl, rfl⟩)
                | (go_at_call 147; refine HF.out.mono ?_; rintro e w5 ⟨rfl, hb5⟩; have d3 := (X1.step hb5).c3; have v3 := (hb5.cell (p := ⟨b2, off2 + k * 4 + 3, none⟩) hblt2).trans z3; have L5 := L1.step hb5; have hbr5 := hbr1.trans (hb5.mono hbr1.size)))
              go_quiet (fail)
              go_wp2
              go_roundw
              case rel => exact ⟨i + 1, r, by omega, by go_num, L5.step (below_of_drewN _), by rw [filter_snoc _ HDJ.out, HT.out.1, HIS.out]; simp, HT.out.2.1, by omega, (fun j c e hj hjc he => by
                rcases Nat.lt_or_eq_of_le (Nat.le_of_lt_succ hj) with h | rfl
                · exact HT.out.2.2 j c e h hjc he
                · rw [HDJ.out] at hjc; cases hjc; rw [HIS.out] at he; cases he; have h1 := HSUM.out; have h2 : signI exs = (-1) := HSG.out; show 0 ≤ eK - signI exs * fK; rw [h2]; omega), below_step hbr5 (below_of_drewN _)⟩
              case measure => simp [intOf]; omega
          · have HNO := Lib.hid (show ∀ x ∈ E, x.xs ≠ sgnL (-1) exs from fun x hx h => hop (by obtain ⟨k, hk, hkx⟩ := List.getElem_of_mem hx; exact ⟨k, x, by rw [List.getElem?_eq_getElem hk, hkx], h⟩))
            have HIN := Lib.hid (imp_none (es := es) (c := ⟨eq, eM, exs, eK⟩) HSG.out (fun e he => by rw [← HDE.out] at he; obtain ⟨x, hx, rfl⟩ := List.mem_map.1 he; exact HNO.out x hx))
            have HF := Lib.hid (find_no (s := (-1)) (n := en) (c := c) (cB := ec) HS1.out HXB.out _ C1 HC.out.n (by omega) y1 HC.out.s HNO.out)
            have hr9 : r.length + 1 ≤ 100000 := by omega
            clear hop hkb
            go_wp2_with (first
              | (go_at_call 146; refine (wide_lead _ _ _ exs _ y1).mono ?_; rintro e w4 ⟨rfl, rfl⟩)
              | (go_at_call 147; refine HF.out.mono ?_; rintro e w5 ⟨⟨i9, rfl⟩, hb5⟩; have X5 := X1.step hb5; have e0 := X5.c0; have e1 := X5.c1; have e2 := X5.c2; have e3 := X5.c3; have hbr5 := hbr1.trans (hb5.mono hbr1.size); have b8 := below_alloc w5 (.cells #[.int .i64 eq, .int .i64 eM, .slice eA en ec, .int .i64 eK] 56); have L8 := (L1.step hb5).step b8; have I8 := (y1.step hb5).step b8; have R8 := (R1.step hb5).step b8; have Gn := heap_alloc_new w5 (.cells #[.int .i64 eq, .int .i64 eM, .slice eA en ec, .int .i64 eK] 56); have hbr8 := hbr5.trans (b8.mono hbr5.size); have hN8 := hbr8.size)
              | (at_builtin; refine wpList_append_cond rfl _ _ 34 rfl rfl rfl L8 w5.heap.size ⟨eq, eM, eA, en, ec, eK, exs⟩ rfl Gn I8 R8 hr9 hN8 ?_; intro g9 cap9 w9 L9 gr9 hb9; have hbr9 := hbr8.trans hb9))
            go_roundw
            case rel => exact ⟨i + 1, r ++ [⟨eq, eM, eA, en, ec, eK, exs⟩], by omega, by go_num, L9, by rw [filter_snoc _ HDJ.out, List.map_append, HT.out.1, HIN.out]; rfl, (fun e he => by
              rcases List.mem_append.1 he with h | h
              · exact HT.out.2.1 e h
              · rw [List.mem_singleton.1 h]), by simp; omega, (fun j c e hj hjc he => by
              rcases Nat.lt_or_eq_of_le (Nat.le_of_lt_succ hj) with h | rfl
              · exact HT.out.2.2 j c e h hjc he
              · rw [HDJ.out] at hjc; cases hjc; rw [HIN.out] at he; cases he), hbr9⟩
            case measure => simp [intOf]; omega
        · have HSG := Lib.hid (show signI exs = 1 by unfold signI; rw [if_neg hld])
          have hs0 : (1 : Int) = 1 ∨ (1 : Int) = -1 := by decide
          have HS1 := Lib.hid hs0
          clear hs0
          by_cases hop : ∃ (k : Nat) (x : CEl), E[k]? = some x ∧ x.xs = sgnL 1 exs
          · obtain ⟨k, f, hk, hft⟩ := hop
            have hkm : k < m := by have := (List.getElem?_eq_some_iff.1 hk).1; have := HLE.out; omega
            obtain ⟨b2, off2, f2, rfl, hblt2, hfk, hfm, hfs, hfin⟩ := C1.at hkm
            have hk' := hk
            rw [hfk] at hk'
            obtain rfl : f2 = f := by cases hk'; rfl
            have hfb := HC.out.k f2 hfm
            have HFX := Lib.hid hft
            have HDK := Lib.hid (show es[k]? = some f2.d by rw [← HDE.out, List.getElem?_map, hk]; rfl)
            have HK := Lib.hid hk
            obtain ⟨fq, fM, fA, fn, fc, fK, fxs⟩ := f2
            simp only at hfb
            have z3 := hfs.2.2.2
            simp only at z3
            have HIS := Lib.hid (imp_some (es := es) HS.out (c := ⟨eq, eM, exs, eK⟩) HSG.out HDK.out HFX.out)
            have hw1 : IntKind.i64.wrap (1 * fK) = 1 * fK := IntWalk.i64_in _ (by omega)
            have hw3 : IntKind.i64.wrap (-fK) = -fK := IntWalk.i64_in _ (by omega)
            have hw4 : IntKind.i64.wrap fK = fK := IntWalk.i64_in _ (by omega)
            have hw2 : IntKind.i64.wrap (eK - 1 * fK) = eK - 1 * fK := IntWalk.i64_in _ (by omega)
            have hw5 : IntKind.i64.wrap (eK - -fK) = eK - -fK := IntWalk.i64_in _ (by omega)
            have hw6 : IntKind.i64.wrap (eK + fK) = eK + fK := IntWalk.i64_in _ (by omega)
            have hw7 : IntKind.i64.wrap (eK - fK) = eK - fK := IntWalk.i64_in _ (by omega)
            have hk1 : (k : Int) < m := by omega
            have HF := Lib.hid (find_yes (s := 1) (n := en) (c := c) (cB := ec) HS1.out HXB.out _ C1 HC.out.n (by omega) y1 HC.out.s hk hft)
            clear hk hft hfk hk' hfm hfs hfin hfb hkb
            by_cases hsum : eK - 1 * fK < 0
            · have HV := Lib.hid (imp_yes (es := es) (gs := ds) (c := ⟨eq, eM, exs, eK⟩) (List.mem_of_getElem? HDJ.out) HSG.out HIS.out hsum)
              have hsum2 : eK - fK < 0 := by omega
              go_wp2_with (first
                | (go_at_call 146; refine (wide_lead _ _ _ exs _ y1).mono ?_; rintro e w4 ⟨rfl, rfl⟩)
                | (go_at_call 147; refine HF.out.mono ?_; rintro e w5 ⟨rfl, hb5⟩; have d3 := (X1.step hb5).c3; have v3 := (hb5.cell (p := ⟨b2, off2 + k * 4 + 3, none⟩) hblt2).trans z3; have L5 := L1.step hb5; have hbr5 := hbr1.trans (hb5.mono hbr1.size)))
              go_quiet (fail)
              go_wp2
              go_ret2
              exact ⟨.inl ⟨HV.out, rfl⟩, below_step hbr5 (below_of_drewN _)⟩
            · have HSUM := Lib.hid hsum
              have hsum2 : ¬ (eK - fK < 0) := by omega
              go_wp2_with (first
                | (go_at_call 146; refine (wide_lead _ _ _ exs _ y1).mono ?_; rintro e w4 ⟨rfl, rfl⟩)
                | (go_at_call 147; refine HF.out.mono ?_; rintro e w5 ⟨rfl, hb5⟩; have d3 := (X1.step hb5).c3; have v3 := (hb5.cell (p := ⟨b2, off2 + k * 4 + 3, none⟩) hblt2).trans z3; have L5 := L1.step hb5; have hbr5 := hbr1.trans (hb5.mono hbr1.size)))
              go_quiet (fail)
              go_wp2
              go_roundw
              case rel => exact ⟨i + 1, r, by omega, by go_num, L5.step (below_of_drewN _), by rw [filter_snoc _ HDJ.out, HT.out.1, HIS.out]; simp, HT.out.2.1, by omega, (fun j c e hj hjc he => by
                rcases Nat.lt_or_eq_of_le (Nat.le_of_lt_succ hj) with h | rfl
                · exact HT.out.2.2 j c e h hjc he
                · rw [HDJ.out] at hjc; cases hjc; rw [HIS.out] at he; cases he; have h1 := HSUM.out; have h2 : signI exs = 1 := HSG.out; show 0 ≤ eK - signI exs * fK; rw [h2]; omega), below_step hbr5 (below_of_drewN _)⟩
              case measure => simp [intOf]; omega
          · have HNO := Lib.hid (show ∀ x ∈ E, x.xs ≠ sgnL 1 exs from fun x hx h => hop (by obtain ⟨k, hk, hkx⟩ := List.getElem_of_mem hx; exact ⟨k, x, by rw [List.getElem?_eq_getElem hk, hkx], h⟩))
            have HIN := Lib.hid (imp_none (es := es) (c := ⟨eq, eM, exs, eK⟩) HSG.out (fun e he => by rw [← HDE.out] at he; obtain ⟨x, hx, rfl⟩ := List.mem_map.1 he; exact HNO.out x hx))
            have HF := Lib.hid (find_no (s := 1) (n := en) (c := c) (cB := ec) HS1.out HXB.out _ C1 HC.out.n (by omega) y1 HC.out.s HNO.out)
            have hr9 : r.length + 1 ≤ 100000 := by omega
            clear hop hkb
            go_wp2_with (first
              | (go_at_call 146; refine (wide_lead _ _ _ exs _ y1).mono ?_; rintro e w4 ⟨rfl, rfl⟩)
              | (go_at_call 147; refine HF.out.mono ?_; rintro e w5 ⟨⟨i9, rfl⟩, hb5⟩; have X5 := X1.step hb5; have e0 := X5.c0; have e1 := X5.c1; have e2 := X5.c2; have e3 := X5.c3; have hbr5 := hbr1.trans (hb5.mono hbr1.size); have b8 := below_alloc w5 (.cells #[.int .i64 eq, .int .i64 eM, .slice eA en ec, .int .i64 eK] 56); have L8 := (L1.step hb5).step b8; have I8 := (y1.step hb5).step b8; have R8 := (R1.step hb5).step b8; have Gn := heap_alloc_new w5 (.cells #[.int .i64 eq, .int .i64 eM, .slice eA en ec, .int .i64 eK] 56); have hbr8 := hbr5.trans (b8.mono hbr5.size); have hN8 := hbr8.size)
              | (at_builtin; refine wpList_append_cond rfl _ _ 34 rfl rfl rfl L8 w5.heap.size ⟨eq, eM, eA, en, ec, eK, exs⟩ rfl Gn I8 R8 hr9 hN8 ?_; intro g9 cap9 w9 L9 gr9 hb9; have hbr9 := hbr8.trans hb9))
            go_roundw
            case rel => exact ⟨i + 1, r ++ [⟨eq, eM, eA, en, ec, eK, exs⟩], by omega, by go_num, L9, by rw [filter_snoc _ HDJ.out, List.map_append, HT.out.1, HIN.out]; rfl, (fun e he => by
              rcases List.mem_append.1 he with h | h
              · exact HT.out.2.1 e h
              · rw [List.mem_singleton.1 h]), by simp; omega, (fun j c e hj hjc he => by
              rcases Nat.lt_or_eq_of_le (Nat.le_of_lt_succ hj) with h | rfl
              · exact HT.out.2.2 j c e h hjc he
              · rw [HDJ.out] at hjc; cases hjc; rw [HIN.out] at he; cases he), hbr9⟩
            case measure => simp [intOf]; omega
      · obtain rfl : i = k0 := by omega
        have hall : ds.take i = ds := List.take_of_length_le (by rw [HDL.out]; exact Nat.le_refl _)
        have HV := Lib.hid (imp_no (es := es) (gs := ds) (fun j c e hj => HT.out.2.2 j c e (by rw [← HDL.out]; exact hj)))
        have HRD := Lib.hid (show r.map CEl.d = impRest es ds by rw [imp_rest HNE.out]; have := HT.out.1; rw [hall] at this; exact this)
        have hge : ¬ ((i : Int) < i) := by omega
        clear hall
        obtain ⟨A9, c9, rfl⟩ := hL.slice
        have hcap := own_capC hL
        have HSA := Lib.hid (own_sane hL)
        have HCV := Lib.hid ((CV.of_cl hL).mono (Nat.le_refl _) hN)
        go_wp2
        go_ret2
        exact ⟨.inr ⟨HV.out, A9, _, c9, r, rfl, HCV.out, hcap.1, hcap.2, HSA.out, HRD.out, HT.out.2.1⟩, hbr⟩
end Go.Proofs.YtkgnlloioaobiaaGreat

/-
  slices.Grow of nil, and slices.Concat, at conditions.
-/
namespace Go.Proofs.YtkgnlloioaobiaaGreat
open Go.ChangeShapes Go.WideShapes Go.ChangeAt Go.RowKit
set_option linter.unusedVariables false
set_option maxRecDepth 100000
set_option linter.unusedSimpArgs false

theorem cgrow_zero (w : World) : Calls Tryz.prog 78 #[.slice none 0 0, .int .i64 0] w fun e w' => e = .returned (.slice none 0 0) ∧ w = w' := by
  go_enter Tryz.func78, Tryz.ntmps78
  go_wp2
  go_ret
  exact ⟨rfl, rfl⟩

set_option maxHeartbeats 2000000 in
theorem cgrow_some (N0 : Nat) (n : Nat) (h0 : 0 < n) (hn : n ≤ 100000) (w : World) : Calls Tryz.prog 78 #[.slice none 0 0, .int .i64 n] w fun e w' =>
    ∃ u, e = .returned u ∧ CL2 N0 w.heap.size w' u [] ∧ Below w.heap.size w w' := by
  obtain ⟨i0, hi, hz0, hz1, hz2⟩ := info_parts infoCond
  have hg := fun ty => Lib.run_append_grow_zeros (P := Tryz.prog) w 34 3 ty 56 i0 (.agg #[.int .i64 0, .int .i64 0, .slice none 0 0, .int .i64 0]) .i64 .i64 Tryz.underlying34 Tryz.underlying3 hi hz0 none 0 0 [] (run_firstCells_none _ _ _ _ _) n h0 (by omega) (by omega) (by omega) (by rw [hz2]; omega) (growslice_fits (by omega) (by rw [hz2]; omega))
  have hge := grownCap_ge w (0 + n) 0 56
  have hle := grownCap_le_maxLen w (0 + n) 0 56 (by unfold maxLen; omega)
  simp only [Nat.zero_add] at hg hge hle
  obtain ⟨G, hG⟩ : ∃ G, G = grownCap w n 0 56 := ⟨_, rfl⟩
  rw [← hG] at hg hge hle
  clear hG
  obtain ⟨cs, hcs⟩ : ∃ cs, cs = (([] : List Value).toArray ++ Builtin.zeroCells (Value.agg #[.int .i64 0, .int .i64 0, .slice none 0 0, .int .i64 0]).cells n ++ Builtin.zeroCells (Value.agg #[.int .i64 0, .int .i64 0, .slice none 0 0, .int .i64 0]).cells (G - n)) := ⟨_, rfl⟩
  have hsz : cs.size = G * 4 := by
    rw [hcs]
    have hc4 : (Value.agg #[.int .i64 0, .int .i64 0, .slice none 0 0, .int .i64 0]).cells.size = 4 := by rfl
    simp [Builtin.zeroCells, hc4]
    omega
  rw [← hcs] at hg
  clear hcs
  have hn0 : (0 : Int) < (n : Int) := by omega
  have hG1 : (n : Int) ≤ (G : Int) := by omega
  have hfin : (w.drew.alloc (.cells cs 56)).ownsRow w.heap.size 56 4 (.slice (some ⟨w.heap.size, 0, none⟩) 0 G) 0 [] :=
    ⟨rfl, .inr ⟨w.heap.size, G, cs, rfl, Nat.le_refl _, heap_alloc_new w.drew _, by omega, hle, by omega, by simp⟩⟩
  have hB : Below w.heap.size w (w.drew.alloc (.cells cs 56)) := ((Below.refl _ w).drew).alloc (Nat.le_refl _) _
  go_enter Tryz.func78, Tryz.ntmps78
  go_wp2_with (at_builtin; refine Lib.wpList_append_run _ rfl _ _ _ _ rfl _ _ rfl rfl _ _ (hg _) ?_)
  all_goals
    go_ret
    exact ⟨_, rfl, ⟨hfin, by simp, (fun e h => nomatch h), (fun e h => nomatch h)⟩, hB⟩

theorem conds_cell {w : World} {b off n : Nat} {els : List CEl} (h : CondsAt w (some ⟨b, off, none⟩) n els) {j : Nat} {v : Value} (hv : (ccells els)[j]? = some v) : w.cell? ⟨b, off + j, none⟩ = some v := by
  have hj : j < els.length * 4 := by rw [← ccells_len]; exact (List.getElem?_eq_some_iff.1 hv).1
  have hl := h.len
  obtain ⟨b', off', hA, _, hc⟩ := h.cells (by omega)
  cases hA
  obtain ⟨q, r, rfl, hr⟩ : ∃ q r, j = q * 4 + r ∧ r < 4 := ⟨j / 4, j % 4, by omega, by omega⟩
  have hq : q < els.length := by omega
  have he := List.getElem?_eq_getElem hq
  obtain ⟨a0, a1, a2, a3⟩ := ccells_at els q _ he
  obtain ⟨c0, c1, c2, c3⟩ := hc q _ he
  have hr : r = 0 ∨ r = 1 ∨ r = 2 ∨ r = 3 := by omega
  rcases hr with rfl | rfl | rfl | rfl
  · rw [Nat.add_zero] at hv ⊢; rw [hv] at a0; rw [a0]; exact c0
  · rw [hv] at a1; rw [a1, ← Nat.add_assoc]; exact c1
  · rw [hv] at a2; rw [a2, ← Nat.add_assoc]; exact c2
  · rw [hv] at a3; rw [a3, ← Nat.add_assoc]; exact c3
theorem ccells_one : ∀ l : List CEl, ∀ u ∈ ccells l, u.oneCell' = true
  | [], u, h => by cases h
  | e :: l, u, h => by
    simp only [ccells, CEl.cells, List.cons_append, List.nil_append, List.mem_cons] at h
    rcases h with rfl | rfl | rfl | rfl | h
    · rfl
    · rfl
    · rfl
    · rfl
    · exact ccells_one l u h

section
variable {ops : Array Oper} {o : Oper} {a : Act} {w : World} {Q : Exit → Act → World → Prop}
theorem wpList_append_view {rest : List Oper} (hgd : o.guard = none) (s x : Operand) (t : TypeId) (ho : o.op = .call { callee := .builtin .append, args := #[s, x], argTypes := #[t, t] }) (ht : Tryz.prog.underlying t = some (.slice 56))
    {N0 N : Nat} {u : Value} {els : List CEl} (hs : a.eval s = u) (hL : CL2 N0 N w u els) {A : Option Addr} {n c : Nat} {new : List CEl} (hx : a.eval x = .slice A n c) (hC : CondsAt w A n new) (hnil : A = none → c = 0) (hpl : ∀ ad, A = some ad → ad.spot = none) (hro : ∀ e ∈ new, RowOk N0 w e.A e.n) (hm : els.length + n ≤ 100000) (hN : N ≤ w.heap.size)
    (h : ∀ u' w', CL2 N0 N w' u' (els ++ new) → Below N w w' → wpList Tryz.prog ops Q rest (a.put o.dst u') w') : wpList Tryz.prog ops Q (o :: rest) a w := by
  obtain ⟨i0, hi0, hz, hz1, hz2⟩ := info_parts infoCond
  have hl := hC.len
  cases A with
  | none =>
    have hn : n = 0 := by
      rcases Nat.eq_zero_or_pos n with h0 | h0
      · exact h0
      · obtain ⟨b, off, hA, _⟩ := hC.cells h0
        cases hA
    subst hn
    obtain rfl := hnil rfl
    obtain rfl : new = [] := List.length_eq_zero_iff.1 hl
    exact wpList_append_own_none hgd s x t ho N 56 i0 4 ht hi0 u els.length (ccells els) hs hL.own hx (h u w (by rw [List.append_nil]; exact hL) (Below.refl _ _))
  | some ad =>
    obtain ⟨b, off, sp⟩ := ad
    have hsp : sp = none := hpl _ rfl
    subst hsp
    refine wpList_append_own _ hgd s x t ho N 56 i0 (.agg #[.int .i64 0, .int .i64 0, .slice none 0 0, .int .i64 0]) 4 48 ht hi0 hz hz1 hz2 rfl (by decide) u els.length (ccells els) hs hL.own ⟨b, off, none⟩ n c (ccells new) hx (by rw [ccells_len, hl]) (fun j v hv => by rw [add_plain]; exact conds_cell hC hv) (ccells_one new) (by unfold maxLen; omega) (by omega) hN ?_
    intro v' w' hown hgr _
    have hrow : ∀ r, u.ownBlock = some r → ∃ cur fr, w.heap[r]? = some (.cells cur 56 fr) := fun r e => by
      rcases hL.own.2 with ⟨hv, _⟩ | ⟨gl, cap', cur', hv, hgN, hgl, _⟩
      · rw [hv] at e; cases e
      · rw [hv] at e
        simp only [Value.ownBlock, Option.some.injEq] at e
        subst e
        exact ⟨cur', _, hgl⟩
    refine h v' w' ⟨by rw [List.length_append, ccells_app, hl]; exact hown, by rw [List.length_append]; omega, fun e he => ?_, fun e he => ?_⟩ ((Below.refl N w).grown hgr hN fun k e => (hL.own.lt k e).1)
    · rcases List.mem_append.1 he with he | he
      · exact (hL.ints e he).grown (hL.rows e he) hgr hrow
      · exact (hC.ints e he).grown (hro e he) hgr hrow
    · rcases List.mem_append.1 he with he | he
      · exact (hL.rows e he).grown hgr hrow
      · exact (hro e he).grown hgr hrow
end
end Go.Proofs.YtkgnlloioaobiaaGreat

/-
  slices.Concat at conditions.
-/
namespace Go.Proofs.YtkgnlloioaobiaaGreat
open Go.ChangeShapes Go.WideShapes Go.ChangeAt Go.RowKit
set_option linter.unusedVariables false
set_option maxRecDepth 100000
set_option linter.unusedSimpArgs false

theorem flat_le {α β : Type} (f : α → List β) (l : List α) (i : Nat) : ((l.take i).flatMap f).length ≤ (l.flatMap f).length := by
  have h : l.flatMap f = (l.take i).flatMap f ++ (l.drop i).flatMap f := by rw [← List.flatMap_append, List.take_append_drop]
  rw [h, List.length_append]
  omega
/-- The answer of Concat. -/
def ConcatRet (N0 : Nat) (w : World) (e : Ending) (w' : World) (out : List CEl) : Prop := ∃ A c, e = .returned (.slice A out.length c) ∧ CL2 N0 w.heap.size w' (.slice A out.length c) out ∧ Below w.heap.size w w'


set_option maxHeartbeats 4000000 in
theorem conds_concat {N0 b off m cm : Nat} {ps : List PEl} (w : World) (hP : PiecesAt w (some ⟨b, off, none⟩) m ps) (hrows : ∀ p ∈ ps, ∀ e ∈ p.els, RowOk N0 w e.A e.n) (hsane : ∀ p ∈ ps, Sane p.A p.c) (htot : (ps.flatMap PEl.els).length ≤ 100000) (hm : m ≤ 1000) :
    Calls Tryz.prog 52 #[.slice (some ⟨b, off, none⟩) m cm] w fun e w' => ConcatRet N0 w e w' (ps.flatMap PEl.els) := by
  have HR := Lib.hid (And.intro hrows hsane)
  have HL := Lib.hid hP.len
  have P1 := hP
  clear hrows hsane
  go_enter Tryz.func52, Tryz.ntmps52
  go_wp2
  go_loop [3, 11] (fun u v => ∃ i : Nat, i ≤ m ∧ v = .int .i64 i ∧ u = .int .i64 (((ps.take i).flatMap PEl.els).length : Nat)) (fun _ v => m - (intOf v).toNat)
  case atStart => exact ⟨0, Nat.zero_le _, rfl, rfl⟩
  case round =>
    obtain ⟨i, hi', rfl, rfl⟩ := hrel
    by_cases hlt : i < m
    · obtain ⟨b1, off1, p, hA, hblt, hpj, hmem, hcell, hCp⟩ := P1.at hlt; cases hA; have HPJ := Lib.hid hpj; obtain ⟨pA, pn, pc, pels⟩ := p; simp only at hcell hCp; have hpl := hCp.len; have HF := Lib.hid (flat_snoc PEl.els hpj); have hle := flat_le PEl.els ps (i + 1); rw [flat_snoc PEl.els hpj, List.length_append] at hle; simp only at hle; have hq1 : (i : Int) < m := (by omega); have hps := hCp.small
      have HS := Lib.hid (show ((ps.take (i + 1)).flatMap PEl.els).length = ((ps.take i).flatMap PEl.els).length + pn by rw [HF.out, List.length_append]; exact congrArg _ hpl)
      generalize ((ps.take i).flatMap PEl.els).length = t at *
      clear hCp hmem hpj
      go_wp2
      go_round
      case rel => exact ⟨i + 1, by omega, by go_num, by rw [HS.out]; go_num⟩
      case measure => simp [intOf]; omega
    · obtain rfl : i = m := by omega
      have hge : ¬ ((i : Int) < i) := by omega
      have hall : ps.take i = ps := List.take_of_length_le (by rw [HL.out]; exact Nat.le_refl _)
      rw [hall]
      have HA := Lib.hid hall
      clear hall
      have HT := Lib.hid (rfl : (ps.flatMap PEl.els).length = (ps.flatMap PEl.els).length)
      obtain ⟨t, ht⟩ : ∃ t, (ps.flatMap PEl.els).length = t := ⟨_, rfl⟩
      have HTT := Lib.hid ht
      rw [ht] at htot ⊢
      clear ht
      have key : ∀ W, Calls Tryz.prog 78 #[.slice none 0 0, .int .i64 t] W fun e w' => ∃ u, e = .returned u ∧ CL2 N0 W.heap.size w' u [] ∧ Below W.heap.size W w' := fun W => by
        rcases Nat.eq_zero_or_pos t with rfl | h0
        · refine (cgrow_zero W).mono ?_
          rintro e w' ⟨rfl, rfl⟩
          exact ⟨_, rfl, CL2.nil _ _ _, Below.refl _ _⟩
        · exact cgrow_some N0 t h0 htot W
      have HK := Lib.hid key
      clear key
      go_wp2_with (go_at_call 78; refine (HK.out _).mono ?_; rintro e w1 ⟨u, rfl, hL, hB⟩)
      go_loopw [6, 27] (fun u v wr => ∃ j : Nat, j ≤ i ∧ v = .int .i64 j ∧ CL2 N0 w.heap.size wr u ((ps.take j).flatMap PEl.els) ∧ Below w.heap.size w wr) (fun _ v _ => i - (intOf v).toNat)
      case atStart => exact ⟨0, Nat.zero_le _, rfl, hL, hB⟩
      case round =>
        clear hL hB
        obtain ⟨j, hj, rfl, hL, hB⟩ := hrel
        by_cases hlt : j < i
        · obtain ⟨b1, off1, p, hA, hblt, hpj, hmem, hcell, hCp⟩ := (P1.step hB).at hlt
          cases hA
          have hro := fun e he => (HR.out.1 p hmem e he).step hB
          have hsa := HR.out.2 p hmem
          have HPJ := Lib.hid hpj
          obtain ⟨pA, pn, pc, pels⟩ := p
          simp only at hcell hCp hro hsa
          have hpl := hCp.len
          have HF := Lib.hid (flat_snoc PEl.els hpj)
          have hle := flat_le PEl.els ps (j + 1)
          rw [flat_snoc PEl.els hpj, List.length_append, HTT.out] at hle
          simp only at hle
          have hq1 : (j : Int) < i := by omega
          have hps := hCp.small
          have hsum : ((ps.take j).flatMap PEl.els).length + pn ≤ 100000 := by omega
          have hN := hB.size
          clear hmem hpj hle
          go_wp2_with (at_builtin; refine wpList_append_view rfl _ _ 34 rfl rfl rfl hL rfl hCp hsa.1 hsa.2 hro hsum hN ?_; intro u9 w9 L9 hb9; have hB9 := hB.trans hb9)
          go_roundw
          case rel => exact ⟨j + 1, by omega, by go_num, by rw [HF.out]; exact L9, hB9⟩
          case measure => simp [intOf]; omega
        · obtain rfl : j = i := by omega
          have hge : ¬ ((j : Int) < j) := by omega
          rw [HA.out] at hL
          obtain ⟨A9, c9, hu⟩ := hL.slice
          rw [HTT.out] at hu
          subst hu
          have HLL := Lib.hid hL
          clear hL
          go_wp2
          go_ret
          exact ⟨A9, c9, by rw [HTT.out]; rfl, by rw [HTT.out]; exact HLL.out, hB⟩
end Go.Proofs.YtkgnlloioaobiaaGreat

/-
  Sorted conditions, cut into kinds and without repetition, as mathematics.
-/
namespace Go.Proofs.YtkgnlloioaobiaaGreat
open Go.RowKit
set_option linter.unusedVariables false
set_option linter.unusedSimpArgs false

/-- A condition as normalizing leaves it, with numbers that are not too great. -/
structure NormD (n : Nat) (d : CD) : Prop where
  q : d.q = 0 ∨ d.q = 1 ∨ d.q = 2
  M : d.q ≠ 2 → d.M = 0
  len : d.xs.length = n
  x : ∀ y ∈ d.xs, -2305843009213693952 ≤ y ∧ y ≤ 2305843009213693952
  k : -2305843009213693952 ≤ d.K ∧ d.K ≤ 2305843009213693952
  m : 0 ≤ d.M ∧ d.M ≤ 512

section
variable {α : Type} (f : α → List Int) (R : α → α → Bool)
/-- A sorted list without the elements that equal the one ahead is strictly sorted. -/
theorem comp_strict {n : Nat} (hR : ∀ a b, R a b = true ↔ f a = f b) : ∀ l : List α, (∀ a ∈ l, (f a).length = n) → l.Pairwise (fun a b => ordL (f a) (f b) ≤ 0) → (comp R l).Pairwise (fun a b => ordL (f a) (f b) < 0)
  | [], _, _ => List.Pairwise.nil
  | a :: l, hn, hs => by
    have key : ∀ (l : List α) (p : α), (f p).length = n → (∀ a ∈ l, (f a).length = n) → (∀ a ∈ l, ordL (f p) (f a) ≤ 0) → l.Pairwise (fun a b => ordL (f a) (f b) ≤ 0) →
        (∀ a ∈ compG R p l, ordL (f p) (f a) < 0) ∧ (compG R p l).Pairwise (fun a b => ordL (f a) (f b) < 0) := by
      intro l
      induction l with
      | nil => intro p _ _ _ _; exact ⟨(fun a h => nomatch h), List.Pairwise.nil⟩
      | cons b l ih =>
        intro p hp hl hle hs
        rw [List.pairwise_cons] at hs
        obtain ⟨h1, h2⟩ := ih b (hl b (List.mem_cons_self ..)) (fun a ha => hl a (List.mem_cons_of_mem _ ha)) hs.1 hs.2
        unfold compG
        by_cases hb : R b p = true
        · rw [if_pos hb]
          have e := (hR b p).1 hb
          exact ⟨fun a ha => (by rw [← e]; exact h1 a ha), h2⟩
        · rw [if_neg hb]
          have hne : f p ≠ f b := fun e => hb ((hR b p).2 e.symm)
          have hpb : ordL (f p) (f b) < 0 := by
            have := hle b (List.mem_cons_self ..)
            rcases Int.lt_or_eq_of_le this with h | h
            · exact h
            · exact absurd ((lex_zero _ _ (by rw [hp, hl b (List.mem_cons_self ..)])).1 h) hne
          have hmem : ∀ a ∈ compG R b l, a ∈ l := fun a ha => by
            have : (comp R (b :: l)).Sublist (b :: l) := comp_sub R (b :: l)
            have h3 : (compG R b l).Sublist l := by
              have h4 : (b :: compG R b l).Sublist (b :: l) := this
              exact List.cons_sublist_cons.1 h4
            exact h3.subset ha
          refine ⟨fun a ha => ?_, List.pairwise_cons.2 ⟨fun a ha => h1 a ha, h2⟩⟩
          rcases List.mem_cons.1 ha with rfl | ha
          · exact hpb
          · have h5 := h1 a ha
            have la := hl a (List.mem_cons_of_mem _ (hmem a ha))
            have lb := hl b (List.mem_cons_self ..)
            have h6 := lex_le (f p) (f b) (f a) (by omega) (by omega) (by omega) (by omega)
            rcases Int.lt_or_eq_of_le h6 with h | h
            · exact h
            · have e := (lex_zero _ _ (by omega)).1 h
              rw [e, lex_swap] at hpb
              omega
    rw [List.pairwise_cons] at hs
    obtain ⟨h1, h2⟩ := key l a (hn a (List.mem_cons_self ..)) (fun b hb => hn b (List.mem_cons_of_mem _ hb)) hs.1 hs.2
    exact List.pairwise_cons.2 ⟨h1, h2⟩
end
theorem slopes_of {ds : List CD} (h : ds.Pairwise (fun a b => ordL a.xs b.xs < 0)) : Slopes ds := fun i j a b hij ha hb => by
  obtain ⟨hi, rfl⟩ := List.getElem?_eq_some_iff.1 ha
  obtain ⟨hj, rfl⟩ := List.getElem?_eq_some_iff.1 hb
  exact List.pairwise_iff_getElem.1 h i j hi hj hij
theorem ord_xs {a b : CD} (hq : a.q = b.q) (hM : a.M = b.M) (hl : a.xs.length = b.xs.length) : ordL (keyD a) (keyD b) = if ordL a.xs b.xs = 0 then cmpI a.K b.K else ordL a.xs b.xs := by
  unfold keyD
  rw [hq, hM]
  simp only [ordL, Int.lt_irrefl, if_false]
  exact ordL_snoc a.xs b.xs a.K b.K hl
theorem ord_le_xs {a b : CD} (hq : a.q = b.q) (hM : a.M = b.M) (hl : a.xs.length = b.xs.length) (h : ordL (keyD a) (keyD b) ≤ 0) : ordL a.xs b.xs ≤ 0 := by
  rw [ord_xs hq hM hl] at h
  split at h <;> omega
theorem equal_iff {n : Nat} {a b : CD} (ha : a.xs.length = n) (hb : b.xs.length = n) : equalD a b = true ↔ keyD a = keyD b := by
  unfold equalD
  rw [ordD_key (by rw [ha, hb]), ← lex_zero _ _ (by rw [key_len, key_len, ha, hb])]
  simp
/-- Sorted, by the key. -/
abbrev Sorted (p : List CD) : Prop := p.Pairwise fun a b => ordL (keyD a) (keyD b) ≤ 0
theorem sorted_sort {n : Nat} {l : List CD} (hn : ∀ d ∈ l, d.xs.length = n) : Sorted (sortD l) := by
  refine List.Pairwise.imp_of_mem (fun {a b} ha hb h => ?_) (sortL_sorted leD leD_tot leD_tr l)
  have hp := sortL_perm leD l
  rw [leD_iff] at h
  rw [key_len, key_len, hn a (hp.mem_iff.1 ha), hn b (hp.mem_iff.1 hb)] at h
  omega
theorem comp_mem {α : Type} {R : α → α → Bool} {l : List α} {a : α} (h : a ∈ comp R l) : a ∈ l := (comp_sub R l).subset h
theorem mem_take {α : Type} {f : α → Bool} {d : α} : ∀ l : List α, d ∈ l.takeWhile f → f d = true
  | [], h => by simp at h
  | a :: l, h => by
    rw [List.takeWhile_cons] at h
    by_cases ha : f a = true
    · rw [if_pos ha] at h
      rcases List.mem_cons.1 h with rfl | h
      · exact ha
      · exact mem_take l h
    · rw [if_neg ha] at h; cases h
theorem kind_ge_q {p : List CD} : ∀ d ∈ kindGe p, d.q = 0 := fun d hd => by
  unfold kindGe at hd
  have := mem_take _ hd
  simpa using this
theorem kind_eq_q {p : List CD} : ∀ d ∈ kindEq p, d.q = 1 := fun d hd => by
  unfold kindEq at hd
  have := mem_take _ hd
  simpa using this
theorem kind_ge_sub (p : List CD) : (kindGe p).Sublist p := (List.takeWhile_sublist _).trans (List.dropWhile_sublist _)
theorem kind_eq_sub (p : List CD) : (kindEq p).Sublist p := List.takeWhile_sublist _
theorem ges_slopes {n : Nat} {p : List CD} (hs : Sorted p) (hn : ∀ d ∈ p, NormD n d) : Slopes (gesD p) := by
  refine slopes_of (comp_strict (fun d : CD => d.xs) slopeD (n := n) (fun a b => by simp [slopeD]) _ (fun d hd => (hn d ((kind_ge_sub p).subset hd)).len) ?_)
  refine List.Pairwise.imp_of_mem (fun {a b} ha hb h => ?_) (hs.sublist (kind_ge_sub p))
  have na := hn a ((kind_ge_sub p).subset ha)
  have nb := hn b ((kind_ge_sub p).subset hb)
  have qa := kind_ge_q a ha
  have qb := kind_ge_q b hb
  exact ord_le_xs (by rw [qa, qb]) (by rw [na.M (by omega), nb.M (by omega)]) (by rw [na.len, nb.len]) h
theorem tight_norm {n : Nat} {l : List CD} (hn : ∀ d ∈ l, NormD n d) : ∀ d ∈ tightD l, NormD n d ∧ d.q = 1 := fun d hd => by
  unfold tightD at hd
  obtain ⟨x, hx, hd⟩ := List.mem_flatMap.1 hd
  have nx := hn x hx
  unfold tightOne at hd
  split at hd
  · split at hd
    · rw [List.mem_singleton] at hd
      subst hd
      exact ⟨⟨.inr (.inl rfl), fun _ => rfl, nx.len, nx.x, nx.k, ⟨show (0 : Int) ≤ 0 by decide, show (0 : Int) ≤ 512 by decide⟩⟩, rfl⟩
    · cases hd
  · cases hd
/-- The Eqs ahead of the last comparison. -/
def eqsIn (p : List CD) : List CD := if (tightD (gesD p)).length > 0 then sortD (kindEq p ++ tightD (gesD p)) else kindEq p
theorem ges_norm {n : Nat} {p : List CD} (hn : ∀ d ∈ p, NormD n d) : ∀ d ∈ gesD p, NormD n d := fun d hd => hn d ((kind_ge_sub p).subset (comp_mem hd))
theorem eqs_norm {n : Nat} {p : List CD} (hn : ∀ d ∈ p, NormD n d) : ∀ d ∈ eqsIn p, NormD n d ∧ d.q = 1 := fun d hd => by
  unfold eqsIn at hd
  split at hd
  · have := (sortL_perm leD _).mem_iff.1 hd
    rcases List.mem_append.1 this with h | h
    · exact ⟨hn d ((kind_eq_sub p).subset h), kind_eq_q d h⟩
    · exact tight_norm (ges_norm hn) d h
  · exact ⟨hn d ((kind_eq_sub p).subset hd), kind_eq_q d hd⟩
theorem eqs_sorted {n : Nat} {p : List CD} (hs : Sorted p) (hn : ∀ d ∈ p, NormD n d) : Sorted (eqsIn p) := by
  have hx := eqs_norm hn
  unfold eqsIn at hx ⊢
  split
  · rename_i h
    rw [if_pos h] at hx
    refine sorted_sort (n := n) fun d hd => ?_
    exact (hx d ((sortL_perm leD _).mem_iff.2 hd)).1.len
  · exact hs.sublist (kind_eq_sub p)
theorem clash_no {l : List CD} (h : clashD l = false) {i : Nat} {a b : CD} (ha : l[i]? = some a) (hb : l[i + 1]? = some b) : a.xs ≠ b.xs := fun e => by
  unfold clashD at h
  rw [List.any_eq_false] at h
  have hi := (List.getElem?_eq_some_iff.1 hb).1
  have := h i (List.mem_range.2 (by omega))
  rw [ha, hb] at this
  simp [slopeD, e] at this
theorem clash_yes {l : List CD} {i : Nat} {a b : CD} (ha : l[i]? = some a) (hb : l[i + 1]? = some b) (e : a.xs = b.xs) : clashD l = true := by
  unfold clashD
  rw [List.any_eq_true]
  have hi := (List.getElem?_eq_some_iff.1 hb).1
  refine ⟨i, List.mem_range.2 (by omega), ?_⟩
  rw [ha, hb]
  simp [slopeD, e]
theorem clash_none {l : List CD} (h : ∀ i a b, i + 1 < l.length → l[i]? = some a → l[i + 1]? = some b → a.xs ≠ b.xs) : clashD l = false := by
  unfold clashD
  rw [List.any_eq_false]
  intro i hi
  rw [List.mem_range] at hi
  have h1 : i < l.length := by omega
  have h2 : i + 1 < l.length := by omega
  rw [List.getElem?_eq_getElem h1, List.getElem?_eq_getElem h2]
  simpa [slopeD] using h i _ _ h2 (List.getElem?_eq_getElem h1) (List.getElem?_eq_getElem h2)
theorem eqs_slopes {n : Nat} {p : List CD} (hs : Sorted p) (hn : ∀ d ∈ p, NormD n d) (hc : clashD (eqsD p) = false) : Slopes (eqsD p) := by
  have hnorm := eqs_norm hn
  have hst : (eqsD p).Pairwise (fun a b => ordL (keyD a) (keyD b) < 0) := by
    have h1 := eqs_sorted hs hn
    have : ∀ l : List CD, (∀ d ∈ l, NormD n d ∧ d.q = 1) → Sorted l → (comp equalD l).Pairwise (fun a b => ordL (keyD a) (keyD b) < 0) := fun l hl hsl => by
      have key := comp_strict (fun d : { d : CD // d.xs.length = n } => keyD d.1) (fun a b => equalD a.1 b.1) (n := n + 3) (fun a b => equal_iff a.2 b.2) (l.attachWith _ fun d hd => (hl d hd).1.len) (fun a _ => by rw [key_len, a.2]) (by
        have hsl' : l.Pairwise (fun a b => ordL (keyD a) (keyD b) ≤ 0) := hsl
        rw [List.pairwise_iff_getElem] at hsl' ⊢
        intro i j hi hj hij
        simpa using hsl' i j (by simpa using hi) (by simpa using hj) hij)
      have hm := comp_map (fun a b : { d : CD // d.xs.length = n } => equalD a.1 b.1) (fun a => a.1) equalD (fun _ _ => rfl) (l.attachWith _ fun d hd => (hl d hd).1.len)
      have hv : (l.attachWith _ fun d hd => (hl d hd).1.len).map (fun a : { d : CD // d.xs.length = n } => a.1) = l := by simp
      rw [hv] at hm
      rw [← hm, List.pairwise_map]
      exact key
    exact this _ hnorm h1
  have hadj : ∀ i a b, (eqsD p)[i]? = some a → (eqsD p)[i + 1]? = some b → ordL a.xs b.xs < 0 := fun i a b ha hb => by
    have h0 : ordL (keyD a) (keyD b) < 0 := by
      obtain ⟨hi, rfl⟩ := List.getElem?_eq_some_iff.1 ha
      obtain ⟨hj, rfl⟩ := List.getElem?_eq_some_iff.1 hb
      exact List.pairwise_iff_getElem.1 hst i (i + 1) hi hj (by omega)
    have na := hnorm a (comp_mem (List.mem_of_getElem? ha))
    have nb := hnorm b (comp_mem (List.mem_of_getElem? hb))
    rw [ord_xs (by rw [na.2, nb.2]) (by rw [na.1.M (by omega), nb.1.M (by omega)]) (by rw [na.1.len, nb.1.len])] at h0
    split at h0
    · rename_i h
      exact absurd ((lex_zero _ _ (by rw [na.1.len, nb.1.len])).1 h) (clash_no hc ha hb)
    · exact h0
  intro i j
  have step : ∀ k a b, (eqsD p)[i]? = some a → (eqsD p)[i + 1 + k]? = some b → ordL a.xs b.xs < 0 := by
    intro k
    induction k with
    | zero => exact fun a b ha hb => hadj i a b ha hb
    | succ k ih =>
      intro a b ha hb
      have hkl := (List.getElem?_eq_some_iff.1 hb).1
      have hc' := List.getElem?_eq_getElem (show i + 1 + k < (eqsD p).length by omega)
      have h1 := ih a _ ha hc'
      have h2 := hadj (i + 1 + k) _ b hc' hb
      have na := hnorm a (comp_mem (List.mem_of_getElem? ha))
      have nb := hnorm b (comp_mem (List.mem_of_getElem? hb))
      have nc := hnorm _ (comp_mem (List.mem_of_getElem? hc'))
      have h3 := lex_le a.xs (eqsD p)[i + 1 + k].xs b.xs (by rw [na.1.len, nc.1.len]) (by rw [nb.1.len, nc.1.len]) (by omega) (by omega)
      rcases Int.lt_or_eq_of_le h3 with h | h
      · exact h
      · have e := (lex_zero _ _ (by rw [na.1.len, nb.1.len])).1 h
        rw [e, lex_swap] at h1
        omega
  intro a b hij ha hb
  obtain ⟨k, rfl⟩ : ∃ k, j = i + 1 + k := ⟨j - i - 1, by omega⟩
  exact step k a b ha hb

/-- What settling leaves is normalized. -/
theorem settle_norm {n : Nat} {p out : List CD} (hn : ∀ d ∈ p, NormD n d) (h : settleD p = some out) : ∀ d ∈ out, NormD n d := by
  unfold settleD at h
  split at h
  · cases h
  · split at h
    · cases h
    · split at h
      · cases h
      · cases h
        intro d hd
        rcases List.mem_append.1 hd with hd | hd
        · rcases List.mem_append.1 hd with hd | hd
          · exact (eqs_norm hn d (comp_mem hd)).1
          · have hr : d ∈ restD (gesD p) := by
              unfold impRest at hd
              split at hd
              · exact hd
              · exact (List.mem_filter.1 hd).1
            exact ges_norm hn d (List.mem_filter.1 hr).1
        · have := comp_mem hd
          unfold kindDv at this
          exact hn d ((List.dropWhile_sublist _).subset ((List.dropWhile_sublist _).subset this))
end Go.Proofs.YtkgnlloioaobiaaGreat

/-
  The calls of wide.settled, in the form in which its walk asks for them.
-/
namespace Go.Proofs.YtkgnlloioaobiaaGreat
open Go.RowKit
set_option linter.unusedVariables false
set_option maxRecDepth 100000
set_option linter.unusedSimpArgs false

theorem while_at {α : Type} (f : α → Bool) : ∀ (l : List α) (a : Nat), a ≤ l.length → (∀ j x, j < a → l[j]? = some x → f x = true) → (∀ x, l[a]? = some x → f x = false) → l.takeWhile f = l.take a ∧ l.dropWhile f = l.drop a
  | [], a, ha, _, _ => by
    have : a = 0 := by simpa using ha
    subst this
    exact ⟨rfl, rfl⟩
  | x :: l, 0, _, _, h => by
    have := h x rfl
    simp [this]
  | x :: l, a + 1, ha, h1, h2 => by
    have h0 := h1 0 x (by omega) rfl
    obtain ⟨e1, e2⟩ := while_at f l a (by simpa using ha) (fun j y hj hy => h1 (j + 1) y (by omega) (by simpa using hy)) (fun y hy => h2 y (by simpa using hy))
    simp [h0, e1, e2]
theorem kinds_data {els : List CEl} {m a b : Nat} (h : Kinds els m a b) (hl : els.length = m) :
    (els.take a).map CEl.d = kindEq (els.map CEl.d) ∧ ((els.drop a).take (b - a)).map CEl.d = kindGe (els.map CEl.d) ∧ (els.drop b).map CEl.d = kindDv (els.map CEl.d) := by
  have hab := h.ab
  have hbm := h.bm
  have at_ : ∀ {j : Nat} {x : CD}, (els.map CEl.d)[j]? = some x → ∃ e, els[j]? = some e ∧ e.d = x := fun hx => by
    rw [List.getElem?_map] at hx
    exact Option.map_eq_some_iff.1 hx
  obtain ⟨e1, e2⟩ := while_at (fun d : CD => d.q == 1) (els.map CEl.d) a (by rw [List.length_map]; omega) (fun j x hj hx => by
    obtain ⟨e, he, rfl⟩ := at_ hx
    have := h.eqs j e hj he
    simpa [CEl.d] using this) (fun x hx => by
    obtain ⟨e, he, rfl⟩ := at_ hx
    have := h.eqx e he
    simpa [CEl.d] using this)
  obtain ⟨e3, e4⟩ := while_at (fun d : CD => d.q == 0) ((els.map CEl.d).drop a) (b - a) (by rw [List.length_drop, List.length_map]; omega) (fun j x hj hx => by
    rw [List.getElem?_drop] at hx
    obtain ⟨e, he, rfl⟩ := at_ hx
    have := h.ges (a + j) e (by omega) (by omega) he
    simpa [CEl.d] using this) (fun x hx => by
    rw [List.getElem?_drop, show a + (b - a) = b by omega] at hx
    obtain ⟨e, he, rfl⟩ := at_ hx
    have := h.gex e he
    simpa [CEl.d] using this)
  unfold kindEq kindGe kindDv
  rw [e1, e2, e3, e4, List.drop_drop, show a + (b - a) = b by omega]
  simp [List.map_take, List.map_drop]

/-- Two parts share no cell. -/
def Dis (A : Option Addr) (m : Nat) (B : Option Addr) (k : Nat) : Prop := 0 < m → 0 < k → ∀ g o o', A = some ⟨g, o, none⟩ → B = some ⟨g, o', none⟩ → o' + k * 4 ≤ o ∨ o + m * 4 ≤ o'
theorem Dis.less {A B : Option Addr} {m k m' k' : Nat} (h : Dis A m B k) (hm : m' ≤ m) (hk : k' ≤ k) : Dis A m' B k' := fun h1 h2 g o o' ha hb => by
  have := h (by omega) (by omega) g o o' ha hb
  omega
theorem Dis.of_blocks {N0 N : Nat} {W W' : World} {A B : Option Addr} {m k : Nat} {E F : List CEl} (h : CV N0 N W A m E) (h' : CV N0 W.heap.size W' B k F) : Dis A m B k := fun h1 h2 g o o' ha hb => by
  obtain ⟨g1, o1, cur, hA, _, hc, _⟩ := h.row h1
  obtain ⟨g2, o2, hB, hN⟩ := h'.addr h2
  rw [ha] at hA
  rw [hb] at hB
  cases hA
  cases hB
  have := (Array.getElem?_eq_some_iff.1 hc).1
  omega
theorem Dis.symm {A B : Option Addr} {m k : Nat} (h : Dis A m B k) : Dis B k A m := fun h1 h2 g o o' ha hb => (h h2 h1 g o' o hb ha).symm

/-- The answer of kinds, in parts. -/
def KindsAll (N0 N : Nat) (w : World) (e : Ending) (w' : World) (g : Nat) (els : List CEl) : Prop :=
  ∃ E G D o1 o2 o3 c3, e = .returned (.tuple #[.slice (some ⟨g, o1, none⟩) E.length E.length, .slice (some ⟨g, o2, none⟩) G.length G.length, .slice (some ⟨g, o3, none⟩) D.length c3]) ∧
    (D.length ≤ c3 ∧ c3 ≤ 9223372036854775807) ∧
    (CV N0 N w' (some ⟨g, o1, none⟩) E.length E ∧ CV N0 N w' (some ⟨g, o2, none⟩) G.length G ∧ CV N0 N w' (some ⟨g, o3, none⟩) D.length D) ∧
    (Dis (some ⟨g, o2, none⟩) G.length (some ⟨g, o1, none⟩) E.length ∧ Dis (some ⟨g, o2, none⟩) G.length (some ⟨g, o3, none⟩) D.length ∧ Dis (some ⟨g, o1, none⟩) E.length (some ⟨g, o3, none⟩) D.length) ∧
    (E.map CEl.d = kindEq (els.map CEl.d) ∧ G.map CEl.d = kindGe (els.map CEl.d) ∧ D.map CEl.d = kindDv (els.map CEl.d)) ∧
    ((∀ e ∈ E, e ∈ els) ∧ (∀ e ∈ G, e ∈ els) ∧ ∀ e ∈ D, e ∈ els) ∧ E.length + G.length + D.length = els.length ∧ Below w.heap.size w w'
theorem kinds_all {N0 N g m c : Nat} {els : List CEl} (w : World) (V : CV N0 N w (some ⟨g, 0, none⟩) m els) (hmc : m ≤ c) (hc : c ≤ 9223372036854775807) :
    Calls Tryz.prog 118 #[.slice (some ⟨g, 0, none⟩) m c] w fun e w' => KindsAll N0 N w e w' g els := by
  have hl := V.len
  refine (wide_kinds w V.conds V.few hmc hc).mono ?_
  rintro e w' ⟨a, b, o1, o2, o3, rfl, h1, h2, h3, hK, q, rfl⟩
  have hab := hK.ab
  have hbm := hK.bm
  have hb := below_of_drewN (w := w) q
  have V1 := V.step hb
  obtain ⟨d1, d2, d3⟩ := kinds_data hK hl
  have l1 : (els.take a).length = a := by rw [List.length_take]; omega
  have l2 : ((els.drop a).take (b - a)).length = b - a := by rw [List.length_take, List.length_drop]; omega
  have l3 : (els.drop b).length = m - b := by rw [List.length_drop]; omega
  have s1 := V1.sub (i := 0) (k := a) (A' := some ⟨g, o1, none⟩) (by omega) (fun h0 g' o' e => by cases e; rw [h1 h0])
  have s2 := V1.sub (i := a) (k := b - a) (A' := some ⟨g, o2, none⟩) (by omega) (fun h0 g' o' e => by cases e; rw [h2 h0])
  have s3 := V1.sub (i := b) (k := m - b) (A' := some ⟨g, o3, none⟩) (by omega) (fun h0 g' o' e => by cases e; rw [h3 h0])
  rw [List.drop_zero] at s1
  rw [List.take_of_length_le (by rw [l3]; exact Nat.le_refl _)] at s3
  refine ⟨els.take a, (els.drop a).take (b - a), els.drop b, o1, o2, o3, c - b, by rw [l1, l2, l3], ⟨by rw [l3]; omega, by omega⟩, ⟨by rw [l1]; exact s1, by rw [l2]; exact s2, by rw [l3]; exact s3⟩, ⟨?_, ?_, ?_⟩, ⟨d1, d2, d3⟩, ⟨fun e he => List.mem_of_mem_take he, fun e he => List.mem_of_mem_drop (List.mem_of_mem_take he), fun e he => List.mem_of_mem_drop he⟩, by rw [l1, l2, l3, hl]; omega, hb⟩
  · rw [l1, l2]
    intro k1 k2 g' p p' e1 e2
    cases e1; cases e2
    have := h2 k1
    have := h1 k2
    omega
  · rw [l2, l3]
    intro k1 k2 g' p p' e1 e2
    cases e1; cases e2
    have := h2 k1
    have := h3 k2
    omega
  · rw [l1, l3]
    intro k1 k2 g' p p' e1 e2
    cases e1; cases e2
    have := h1 k1
    have := h3 k2
    omega

/-- What CompactFunc leaves, with the length written out. -/
def CompAll (N0 N : Nat) (w : World) (e : Ending) (w' : World) (A : Option Addr) (m c : Nat) (out : List CEl) : Prop :=
  e = .returned (.slice A out.length c) ∧ CV N0 N w' A out.length out ∧ Touch A m w w' ∧ out.length ≤ m

theorem equal_all {N0 N : Nat} {A : Option Addr} {m c n : Nat} {els : List CEl} (w : World) (h : CV N0 N w A m els) (hmc : m ≤ c) (hc : c ≤ 9223372036854775807) (hn : ∀ e ∈ els, e.n = n) :
    Calls Tryz.prog 119 #[.slice A m c, .func (.func 122) #[] #[]] w fun e w' => CompAll N0 N w e w' A m c (comp equalE els) := by
  have hl := h.len
  by_cases hm : m < 2
  · have HH := Lib.hid h
    have HS := Lib.hid (comp_short (R := equalE) (els := els) (by omega))
    have hq : (m : Int) < 2 := by omega
    have HL := Lib.hid hl
    clear h hl
    go_enter Tryz.func119, Tryz.ntmps119
    go_wp2
    go_ret
    rw [HS.out]
    exact ⟨by rw [HL.out]; rfl, by rw [HL.out]; exact HH.out, Touch.of_below (Below.refl _ _), by rw [HL.out]; exact Nat.le_refl _⟩
  · obtain ⟨g, o, cur, hA, _⟩ := h.row (by omega)
    subst hA
    refine (compact_equal w h (by omega) hmc hc hn).mono ?_
    rintro e w' ⟨k, rfl, hV, hT, hk⟩
    obtain rfl := hV.len
    exact ⟨rfl, hV, hT, hk⟩

theorem slope_all {N0 N : Nat} {A : Option Addr} {m c n : Nat} {els : List CEl} (w : World) (h : CV N0 N w A m els) (hmc : m ≤ c) (hc : c ≤ 9223372036854775807) (hn : ∀ e ∈ els, e.n = n) :
    Calls Tryz.prog 119 #[.slice A m c, .func (.func 120) #[] #[]] w fun e w' => CompAll N0 N w e w' A m c (comp sameE els) := by
  have hl := h.len
  by_cases hm : m < 2
  · have HH := Lib.hid h
    have HS := Lib.hid (comp_short (R := sameE) (els := els) (by omega))
    have hq : (m : Int) < 2 := by omega
    have HL := Lib.hid hl
    clear h hl
    go_enter Tryz.func119, Tryz.ntmps119
    go_wp2
    go_ret
    rw [HS.out]
    exact ⟨by rw [HL.out]; rfl, by rw [HL.out]; exact HH.out, Touch.of_below (Below.refl _ _), by rw [HL.out]; exact Nat.le_refl _⟩
  · obtain ⟨g, o, cur, hA, _⟩ := h.row (by omega)
    subst hA
    refine (compact_slope w h (by omega) hmc hc hn).mono ?_
    rintro e w' ⟨k, rfl, hV, hT, hk⟩
    obtain rfl := hV.len
    exact ⟨rfl, hV, hT, hk⟩


theorem paired_yes {N0 n : Nat} {A : Option Addr} {m c : Nat} {els : List CEl} (w : World) (C0 : CondsAt w A m els) (hrows : ∀ e ∈ els, RowOk N0 w e.A e.n) (hfew : m ≤ 1000) (hcalm : Calm n els) (hv : pairVoid (els.map CEl.d) = true) :
    Calls Tryz.prog 121 #[.slice A m c] w fun e w' => e = .returned (.tuple #[.slice none 0 0, .slice none 0 0, .bool true]) ∧ Below w.heap.size w w' := by
  refine (wide_paired w C0 hrows hfew hcalm).mono ?_
  rintro e w' ⟨⟨_, rfl⟩ | ⟨h, _⟩, hb⟩
  · exact ⟨rfl, hb⟩
  · rw [hv] at h; cases h
theorem paired_no {N0 n : Nat} {A : Option Addr} {m c : Nat} {els : List CEl} (w : World) (C0 : CondsAt w A m els) (hrows : ∀ e ∈ els, RowOk N0 w e.A e.n) (hfew : m ≤ 1000) (hcalm : Calm n els) (hv : pairVoid (els.map CEl.d) = false) :
    Calls Tryz.prog 121 #[.slice A m c] w fun e w' => (∃ A1 t c1 A2 r c2, e = .returned (.tuple #[.slice A1 t.length c1, .slice A2 r.length c2, .bool false]) ∧ CL2 N0 w.heap.size w' (.slice A1 t.length c1) t ∧ t.map CEl.d = tightD (els.map CEl.d) ∧ CL2 N0 w.heap.size w' (.slice A2 r.length c2) r ∧ r.map CEl.d = restD (els.map CEl.d) ∧ (∀ e ∈ t, e.n = n) ∧ ∀ e ∈ r, e.n = n) ∧ Below w.heap.size w w' := by
  refine (wide_paired w C0 hrows hfew hcalm).mono ?_
  rintro e w' ⟨⟨h, _⟩ | ⟨_, u, t, v, r, rfl, h1, h2, h3, h4, h5⟩, hb⟩
  · rw [hv] at h; cases h
  · obtain ⟨A1, c1, rfl⟩ := h1.slice
    obtain ⟨A2, c2, rfl⟩ := h3.slice
    exact ⟨⟨A1, t, c1, A2, r, c2, rfl, h1, h2, h3, h4, h5⟩, hb⟩
theorem unimp_yes {N0 N n : Nat} {A : Option Addr} {m c : Nat} {E : List CEl} {B : Option Addr} {k0 c2 : Nat} {G : List CEl} (w : World) (CE : CondsAt w A m E) (hE : Calm n E) (hm : m ≤ 1000) (CG : CV N0 N w B k0 G) (hG : ∀ e ∈ G, e.n = n ∧ NormD n e.d)
    (hN : N ≤ w.heap.size) (hk0 : k0 ≤ 1000) (hkc : k0 ≤ c2) (hc2 : c2 ≤ 9223372036854775807) (hsane : Sane B c2) (hv : impVoid (E.map CEl.d) (G.map CEl.d) = true) :
    Calls Tryz.prog 123 #[.slice A m c, .slice B k0 c2] w fun e w' => e = .returned (.tuple #[.slice none 0 0, .bool true]) ∧ Below w.heap.size w w' := by
  refine (wide_unimplied w CE hE hm CG (fun e he => (hG e he).1) (fun e he y hy => by have := (hG e he).2.x y hy; omega) (fun e he => (hG e he).2.k) hN hk0 hkc hc2 hsane).mono ?_
  rintro e w' ⟨⟨_, rfl⟩ | ⟨h, _⟩, hb⟩
  · exact ⟨rfl, hb⟩
  · rw [hv] at h; cases h
theorem unimp_no {N0 N n : Nat} {A : Option Addr} {m c : Nat} {E : List CEl} {B : Option Addr} {k0 c2 : Nat} {G : List CEl} (w : World) (CE : CondsAt w A m E) (hE : Calm n E) (hm : m ≤ 1000) (CG : CV N0 N w B k0 G) (hG : ∀ e ∈ G, e.n = n ∧ NormD n e.d)
    (hN : N ≤ w.heap.size) (hk0 : k0 ≤ 1000) (hkc : k0 ≤ c2) (hc2 : c2 ≤ 9223372036854775807) (hsane : Sane B c2) (hv : impVoid (E.map CEl.d) (G.map CEl.d) = false) :
    Calls Tryz.prog 123 #[.slice A m c, .slice B k0 c2] w fun e w' => (∃ A' c' r, e = .returned (.tuple #[.slice A' r.length c', .bool false]) ∧ CV N0 N w' A' r.length r ∧ Sane A' c' ∧ r.map CEl.d = impRest (E.map CEl.d) (G.map CEl.d) ∧ ∀ e ∈ r, e.n = n) ∧ Below w.heap.size w w' := by
  refine (wide_unimplied w CE hE hm CG (fun e he => (hG e he).1) (fun e he y hy => by have := (hG e he).2.x y hy; omega) (fun e he => (hG e he).2.k) hN hk0 hkc hc2 hsane).mono ?_
  rintro e w' ⟨⟨h, _⟩ | ⟨_, A', k, c', r, rfl, h1, _, _, h2, h3, h4⟩, hb⟩
  · rw [hv] at h; cases h
  · obtain rfl := h1.len
    exact ⟨⟨A', c', r, rfl, h1, h2, h3, h4⟩, hb⟩

/-- What the parts of a sorted piece say. -/
structure KP (n : Nat) (ds : List CD) (E G D : List CEl) : Prop where
  e : E.map CEl.d = kindEq ds
  g : (comp sameE G).map CEl.d = gesD ds
  v : D.map CEl.d = kindDv ds
  eN : ∀ e ∈ E, e.n = n ∧ NormD n e.d
  gN : ∀ e ∈ G, e.n = n
  gC : ∀ e ∈ comp sameE G, e.n = n ∧ NormD n e.d
  dN : ∀ e ∈ D, e.n = n
  calm : Calm n (comp sameE G)
  len : E.length + G.length + D.length ≤ 1000
theorem calm_of {n : Nat} {l : List CEl} (h : ∀ e ∈ l, e.n = n ∧ NormD n e.d) (hs : Slopes (l.map CEl.d)) : Calm n l :=
  ⟨fun e he => (h e he).1, fun e he y hy => by have := (h e he).2.x y hy; omega, fun e he => (h e he).2.k, fun i j x y hij hx hy => hs i j x.d y.d hij (by rw [List.getElem?_map, hx]; rfl) (by rw [List.getElem?_map, hy]; rfl)⟩
theorem kp_of {n : Nat} {els E G D : List CEl} (hn : ∀ e ∈ els, e.n = n ∧ NormD n e.d) (hs : Sorted (els.map CEl.d)) (hl : els.length ≤ 1000)
    (hd : E.map CEl.d = kindEq (els.map CEl.d) ∧ G.map CEl.d = kindGe (els.map CEl.d) ∧ D.map CEl.d = kindDv (els.map CEl.d)) (hm : (∀ e ∈ E, e ∈ els) ∧ (∀ e ∈ G, e ∈ els) ∧ ∀ e ∈ D, e ∈ els) (hz : E.length + G.length + D.length = els.length) : KP n (els.map CEl.d) E G D := by
  have hg : (comp sameE G).map CEl.d = gesD (els.map CEl.d) := by
    rw [comp_map sameE CEl.d slopeD (fun a b => rfl), hd.2.1]; rfl
  have hC : ∀ e ∈ comp sameE G, e.n = n ∧ NormD n e.d := fun e he => hn e (hm.2.1 e (comp_mem he))
  refine ⟨hd.1, hg, hd.2.2, fun e he => hn e (hm.1 e he), fun e he => (hn e (hm.2.1 e he)).1, hC, fun e he => (hn e (hm.2.2 e he)).1, calm_of hC ?_, by omega⟩
  rw [hg]
  exact ges_slopes hs (fun d hd => by obtain ⟨e, he, rfl⟩ := List.mem_map.1 hd; exact (hn e he).2)
theorem tight_len (l : List CD) : (tightD l).length ≤ l.length := by
  have : ∀ m : List CD, (m.flatMap (tightOne l)).length ≤ m.length := by
    intro m
    induction m with
    | nil => exact Nat.le_refl _
    | cons a m ih =>
      have : (tightOne l a).length ≤ 1 := by
        unfold tightOne
        split
        · split <;> simp
        · simp
      simp only [List.flatMap_cons, List.length_append, List.length_cons]
      omega
  exact this l
theorem rest_len (l : List CD) : (restD l).length ≤ l.length := List.length_filter_le _ _
theorem kp_tight {n : Nat} {ds : List CD} {E G D t r : List CEl} (h : KP n ds E G D) (ht : t.map CEl.d = tightD ((comp sameE G).map CEl.d)) (hr : r.map CEl.d = restD ((comp sameE G).map CEl.d)) (htn : ∀ e ∈ t, e.n = n) (hrn : ∀ e ∈ r, e.n = n) :
    (t.length ≤ G.length ∧ r.length ≤ G.length) ∧ (∀ e ∈ t, e.n = n ∧ NormD n e.d) ∧ ∀ e ∈ r, e.n = n ∧ NormD n e.d := by
  have hcl := comp_len sameE G
  have h1 := congrArg List.length ht
  have h2 := congrArg List.length hr
  have h3 := tight_len ((comp sameE G).map CEl.d)
  have h4 := rest_len ((comp sameE G).map CEl.d)
  simp only [List.length_map] at h1 h2 h3 h4
  have hN : ∀ d ∈ (comp sameE G).map CEl.d, NormD n d := fun d hd => by
    obtain ⟨e, he, rfl⟩ := List.mem_map.1 hd
    exact (h.gC e he).2
  refine ⟨⟨by omega, by omega⟩, fun e he => ⟨htn e he, ?_⟩, fun e he => ⟨hrn e he, ?_⟩⟩
  · exact (tight_norm hN e.d (by rw [← ht]; exact List.mem_map.2 ⟨e, he, rfl⟩)).1
  · have hm : e.d ∈ r.map CEl.d := List.mem_map.2 ⟨e, he, rfl⟩
    rw [hr] at hm
    exact hN _ (List.mem_filter.1 hm).1
/-- What the Eqs of a piece say. -/
structure EP (n : Nat) (ds : List CD) (E2 : List CEl) : Prop where
  d : E2.map CEl.d = eqsIn ds
  n : ∀ e ∈ E2, e.n = n
  len : E2.length ≤ 1000
theorem ep_less {n : Nat} {ds : List CD} {E G D : List CEl} (h : KP n ds E G D) (h0 : (tightD (gesD ds)).length = 0) : EP n ds E :=
  ⟨by unfold eqsIn; rw [if_neg (by omega)]; exact h.e, fun e he => (h.eN e he).1, by have := h.len; omega⟩
theorem ep_more {n : Nat} {ds : List CD} {E G D t E2 : List CEl} (h : KP n ds E G D) (ht : t.map CEl.d = tightD ((comp sameE G).map CEl.d)) (htn : ∀ e ∈ t, e.n = n) (hp : E2.Perm (E ++ t)) (hd : E2.map CEl.d = sortD ((E ++ t).map CEl.d)) (h0 : 0 < (tightD (gesD ds)).length) : EP n ds E2 := by
  refine ⟨?_, fun e he => ?_, ?_⟩
  · unfold eqsIn
    rw [if_pos h0, hd, List.map_append, h.e, ht, h.g]
  · rcases List.mem_append.1 (hp.mem_iff.1 he) with h1 | h1
    · exact (h.eN e h1).1
    · exact htn e h1
  · rw [hp.length_eq, List.length_append]
    have h1 := congrArg List.length ht
    have h3 := tight_len ((comp sameE G).map CEl.d)
    have hcl := comp_len sameE G
    simp only [List.length_map] at h1 h3
    have := h.len
    omega
theorem ep_comp {n : Nat} {els E2 : List CEl} (h : EP n (els.map CEl.d) E2) (hn : ∀ e ∈ els, e.n = n ∧ NormD n e.d) (hs : Sorted (els.map CEl.d)) :
    (comp equalE E2).map CEl.d = eqsD (els.map CEl.d) ∧ (∀ e ∈ comp equalE E2, e.n = n ∧ NormD n e.d) ∧ (comp equalE E2).length ≤ 1000 ∧ (clashD (eqsD (els.map CEl.d)) = false → Calm n (comp equalE E2)) := by
  have hd : (comp equalE E2).map CEl.d = eqsD (els.map CEl.d) := by
    rw [comp_map equalE CEl.d equalD (fun a b => rfl), h.d]; rfl
  have hN : ∀ d ∈ els.map CEl.d, NormD n d := fun d hd => by obtain ⟨e, he, rfl⟩ := List.mem_map.1 hd; exact (hn e he).2
  have hA : ∀ e ∈ comp equalE E2, e.n = n ∧ NormD n e.d := fun e he => ⟨h.n e (comp_mem he), (eqs_norm hN e.d (by rw [← h.d]; exact List.mem_map.2 ⟨e, comp_mem he, rfl⟩)).1⟩
  refine ⟨hd, hA, by have := comp_len equalE E2; have := h.len; omega, fun hc => calm_of hA ?_⟩
  rw [hd]
  exact eqs_slopes hs hN hc

/-- A list of slices, written out. -/
theorem pieces_lit {w : World} {g : Nat} {ps : List PEl} (hg : w.heap[g]? = some (.cells (ps.map fun p => Value.slice p.A p.n p.c).toArray 34 (0, 0))) (hm : ps.length ≤ 1000) (hC : ∀ p ∈ ps, CondsAt w p.A p.n p.els) : PiecesAt w (some ⟨g, 0, none⟩) ps.length ps :=
  ⟨rfl, by omega, fun _ => ⟨g, 0, rfl, (Array.getElem?_eq_some_iff.1 hg).1, fun j p hp => by
    rw [cell_of_row w g _ _ _ (0, 0) hg]
    simp [hp]⟩, hC⟩
theorem own_addr {w : World} {N0 N : Nat} {A : Option Addr} {m c : Nat} {els : List CEl} (h : CL2 N0 N w (.slice A m c) els) (h0 : 0 < m) : ∃ g, A = some ⟨g, 0, none⟩ := by
  rcases h.own.2 with ⟨hv, h1⟩ | ⟨g, cap, cur, hv, _⟩
  · cases hv; omega
  · cases hv; exact ⟨g, rfl⟩
/-- The answer of a concatenation, as a list of its own. -/
def JoinRet (N0 : Nat) (w : World) (e : Ending) (w' : World) (out : List CEl) : Prop := ∃ A n c l, e = .returned (.slice A n c) ∧ CL2 N0 w.heap.size w' (.slice A n c) l ∧ l = out ∧ Below w.heap.size w w'
theorem concat_two {N0 N1 N2 : Nat} {A1 A2 : Option Addr} {n1 c1 n2 c2 : Nat} {E F : List CEl} (w : World) (X1 : CV N0 N1 w A1 n1 E) (S1 : Sane A1 c1) (X2 : CV N0 N2 w A2 n2 F) (S2 : Sane A2 c2) (hl : E.length + F.length ≤ 100000) :
    Calls Tryz.prog 52 #[.slice (some ⟨w.heap.size, 0, none⟩) 2 2] (w.alloc (.cells #[.slice A1 n1 c1, .slice A2 n2 c2] 34)) fun e w' => JoinRet N0 w e w' (E ++ F) := by
  have hb := below_alloc w (.cells #[.slice A1 n1 c1, .slice A2 n2 c2] 34)
  have Y1 := X1.step hb
  have Y2 := X2.step hb
  have hP : PiecesAt (w.alloc (.cells #[.slice A1 n1 c1, .slice A2 n2 c2] 34)) (some ⟨w.heap.size, 0, none⟩) 2 [⟨A1, n1, c1, E⟩, ⟨A2, n2, c2, F⟩] :=
    pieces_lit (ps := [⟨A1, n1, c1, E⟩, ⟨A2, n2, c2, F⟩]) (heap_alloc_new w _) (by simp) (fun p hp => by
      simp only [List.mem_cons, List.not_mem_nil, or_false] at hp
      rcases hp with rfl | rfl
      · exact Y1.conds
      · exact Y2.conds)
  refine (conds_concat (N0 := N0) _ hP (fun p hp e he => ?_) (fun p hp => ?_) (by simpa using hl) (by decide)).mono ?_
  · simp only [List.mem_cons, List.not_mem_nil, or_false] at hp
    rcases hp with rfl | rfl
    · exact Y1.rows e he
    · exact Y2.rows e he
  · simp only [List.mem_cons, List.not_mem_nil, or_false] at hp
    rcases hp with rfl | rfl
    · exact S1
    · exact S2
  · rintro e w' ⟨A, c, rfl, hL, hb'⟩
    exact ⟨A, _, c, _, rfl, hL.mono (Nat.le_refl _) hb.size, by simp, hb.trans (hb'.mono hb.size)⟩
theorem concat_three {N0 N1 N2 N3 : Nat} {A1 A2 A3 : Option Addr} {n1 c1 n2 c2 n3 c3 : Nat} {E F G : List CEl} (w : World) (X1 : CV N0 N1 w A1 n1 E) (S1 : Sane A1 c1) (X2 : CV N0 N2 w A2 n2 F) (S2 : Sane A2 c2) (X3 : CV N0 N3 w A3 n3 G) (S3 : Sane A3 c3) (hl : E.length + F.length + G.length ≤ 100000) :
    Calls Tryz.prog 52 #[.slice (some ⟨w.heap.size, 0, none⟩) 3 3] (w.alloc (.cells #[.slice A1 n1 c1, .slice A2 n2 c2, .slice A3 n3 c3] 34)) fun e w' => JoinRet N0 w e w' (E ++ F ++ G) := by
  have hb := below_alloc w (.cells #[.slice A1 n1 c1, .slice A2 n2 c2, .slice A3 n3 c3] 34)
  have Y1 := X1.step hb
  have Y2 := X2.step hb
  have Y3 := X3.step hb
  have hP : PiecesAt (w.alloc (.cells #[.slice A1 n1 c1, .slice A2 n2 c2, .slice A3 n3 c3] 34)) (some ⟨w.heap.size, 0, none⟩) 3 [⟨A1, n1, c1, E⟩, ⟨A2, n2, c2, F⟩, ⟨A3, n3, c3, G⟩] :=
    pieces_lit (ps := [⟨A1, n1, c1, E⟩, ⟨A2, n2, c2, F⟩, ⟨A3, n3, c3, G⟩]) (heap_alloc_new w _) (by simp) (fun p hp => by
      simp only [List.mem_cons, List.not_mem_nil, or_false] at hp
      rcases hp with rfl | rfl | rfl
      · exact Y1.conds
      · exact Y2.conds
      · exact Y3.conds)
  refine (conds_concat (N0 := N0) _ hP (fun p hp e he => ?_) (fun p hp => ?_) (by simp; omega) (by decide)).mono ?_
  · simp only [List.mem_cons, List.not_mem_nil, or_false] at hp
    rcases hp with rfl | rfl | rfl
    · exact Y1.rows e he
    · exact Y2.rows e he
    · exact Y3.rows e he
  · simp only [List.mem_cons, List.not_mem_nil, or_false] at hp
    rcases hp with rfl | rfl | rfl
    · exact S1
    · exact S2
    · exact S3
  · rintro e w' ⟨A, c, rfl, hL, hb'⟩
    exact ⟨A, _, c, _, rfl, hL.mono (Nat.le_refl _) hb.size, by simp, hb.trans (hb'.mono hb.size)⟩
theorem imp_len (es gs : List CD) : (impRest es gs).length ≤ gs.length := by
  unfold impRest
  split
  · exact Nat.le_refl _
  · exact List.length_filter_le _ _
theorem sane_some {b o c : Nat} : Sane (some ⟨b, o, none⟩) c := ⟨(fun h => nomatch h), fun ad h => by cases h; rfl⟩
end Go.Proofs.YtkgnlloioaobiaaGreat

/-
  slices.SortFunc at conditions, as the library's contract wants it laid.
-/
namespace Go.Proofs.YtkgnlloioaobiaaGreat
open Go.Shelf
set_option maxRecDepth 100000

def sortCond_ren : Go.Shelf.Ren := ⟨fun | 6 => 93 | 15 => 114 | 14 => 113 | 28 => 142 | 29 => 143 | 20 => 134 | 21 => 135 | 22 => 136 | 23 => 137 | 24 => 138 | 25 => 139 | 26 => 140 | 27 => 141 | 46 => 152 | 47 => 153 | 48 => 154 | 49 => 155 | 50 => 156 | 57 => 163 | n => n, fun | 22 => 34 | 24 => 56 | 25 => 93 | 3 => 3 | 39 => 125 | 0 => 0 | 53 => 157 | 55 => 144 | 4 => 4 | 46 => 150 | 45 => 149 | 50 => 154 | 5 => 5 | 9 => 9 | 66 => 164 | 70 => 168 | 76 => 172 | 77 => 173 | n => n, fun | n => n⟩

theorem sortCond : Go.Proofs.SlLaysF0.n6 Tryz.prog sortCond_ren := {
  mixed := by kernel_rfl,
  f6 := ⟨Tryz.f93.name, by decide, Tryz.func93.trans (congrArg some (by kernel_rfl))⟩,
  f14 := ⟨Tryz.f113.name, by decide, Tryz.func113.trans (congrArg some (by kernel_rfl))⟩,
  f15 := Tryz.func114.trans (congrArg some (by kernel_rfl)),
  f20 := ⟨Tryz.f134.name, by decide, Tryz.func134.trans (congrArg some (by kernel_rfl))⟩,
  f21 := ⟨Tryz.f135.name, by decide, Tryz.func135.trans (congrArg some (by kernel_rfl))⟩,
  f22 := ⟨Tryz.f136.name, by decide, Tryz.func136.trans (congrArg some (by kernel_rfl))⟩,
  f23 := ⟨Tryz.f137.name, by decide, Tryz.func137.trans (congrArg some (by kernel_rfl))⟩,
  f24 := ⟨Tryz.f138.name, by decide, Tryz.func138.trans (congrArg some (by kernel_rfl))⟩,
  f25 := ⟨Tryz.f139.name, by decide, Tryz.func139.trans (congrArg some (by kernel_rfl))⟩,
  f26 := ⟨Tryz.f140.name, by decide, Tryz.func140.trans (congrArg some (by kernel_rfl))⟩,
  f27 := ⟨Tryz.f141.name, by decide, Tryz.func141.trans (congrArg some (by kernel_rfl))⟩,
  f28 := Tryz.func142.trans (congrArg some (by kernel_rfl)),
  f29 := Tryz.func143.trans (congrArg some (by kernel_rfl)),
  f46 := ⟨Tryz.f152.name, by decide, Tryz.func152.trans (congrArg some (by kernel_rfl))⟩,
  f47 := Tryz.func153.trans (congrArg some (by kernel_rfl)),
  f48 := Tryz.func154.trans (congrArg some (by kernel_rfl)),
  f49 := ⟨Tryz.f155.name, by decide, Tryz.func155.trans (congrArg some (by kernel_rfl))⟩,
  f50 := ⟨Tryz.f156.name, by decide, Tryz.func156.trans (congrArg some (by kernel_rfl))⟩,
  f57 := ⟨Tryz.f163.name, by decide, Tryz.func163.trans (congrArg some (by kernel_rfl))⟩,
  t0 := Tryz.underlying0,
  a0 := Tryz.isAgg0,
  z0 := Tryz.sizeOf0,
  v0 := Tryz.zeroValue0,
  t3 := Tryz.underlying3,
  a3 := Tryz.isAgg3,
  z3 := Tryz.sizeOf3,
  v3 := Tryz.zeroValue3,
  t4 := Tryz.underlying4,
  a4 := Tryz.isAgg4,
  z4 := Tryz.sizeOf4,
  v4 := Tryz.zeroValue4,
  t5 := Tryz.underlying5,
  a5 := Tryz.isAgg5,
  z5 := Tryz.sizeOf5,
  v5 := Tryz.zeroValue5,
  t9 := Tryz.underlying9,
  a9 := Tryz.isAgg9,
  z9 := Tryz.sizeOf9,
  v9 := Tryz.zeroValue9,
  t22 := Tryz.underlying34,
  a22 := Tryz.isAgg34,
  z22 := Tryz.sizeOf34,
  v22 := Tryz.zeroValue34,
  t25 := Tryz.underlying93,
  a25 := Tryz.isAgg93,
  z25 := Tryz.sizeOf93,
  v25 := Tryz.zeroValue93,
  t39 := Tryz.underlying125,
  a39 := Tryz.isAgg125,
  z39 := Tryz.sizeOf125,
  v39 := Tryz.zeroValue125,
  t45 := Tryz.underlying149,
  a45 := Tryz.isAgg149,
  z45 := Tryz.sizeOf149,
  v45 := Tryz.zeroValue149,
  t46 := Tryz.underlying150,
  a46 := Tryz.isAgg150,
  z46 := Tryz.sizeOf150,
  v46 := Tryz.zeroValue150,
  t50 := Tryz.underlying154,
  a50 := Tryz.isAgg154,
  z50 := Tryz.sizeOf154,
  v50 := Tryz.zeroValue154,
  t53 := Tryz.underlying157,
  a53 := Tryz.isAgg157,
  z53 := Tryz.sizeOf157,
  v53 := Tryz.zeroValue157,
  t55 := Tryz.underlying144,
  a55 := Tryz.isAgg144,
  z55 := Tryz.sizeOf144,
  v55 := Tryz.zeroValue144,
  t66 := Tryz.underlying164,
  a66 := Tryz.isAgg164,
  z66 := Tryz.sizeOf164,
  v66 := Tryz.zeroValue164,
  t70 := Tryz.underlying168,
  a70 := Tryz.isAgg168,
  z70 := Tryz.sizeOf168,
  v70 := Tryz.zeroValue168,
  t76 := Tryz.underlying172,
  a76 := Tryz.isAgg172,
  z76 := Tryz.sizeOf172,
  v76 := Tryz.zeroValue172,
  t77 := Tryz.underlying173,
  a77 := Tryz.isAgg173,
  z77 := Tryz.sizeOf173,
  v77 := Tryz.zeroValue173 }
end Go.Proofs.YtkgnlloioaobiaaGreat
